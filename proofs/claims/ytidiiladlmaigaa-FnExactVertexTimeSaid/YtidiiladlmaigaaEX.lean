/- A fraction and a code as results; quotients in lowest terms. -/
import Derived.Test.YtidiiladlmaigaaGFr1
import Derived.Test.YtidiiladlmaigaaB1W
import Derived.Deep.RegionHeld3
namespace Go.Proofs.Ytidiiladlmaigaa
open Go.ChangeShapes Go.WideShapes Go.ChangeAt Go.RowKit Go.Deep

def FrP (v : Int × Int × Int) (e : Ending) : Prop := ∃ x0 x1 c, v = (x0, x1, c) ∧ e = .returned (.tuple #[.agg #[.int .i64 x0, .int .i64 x1], .int .i64 c])
theorem FrP.mk {v : Int × Int × Int} {x0 x1 c : Int} (h : v = (x0, x1, c)) : FrP v (.returned (.tuple #[.agg #[.int .i64 x0, .int .i64 x1], .int .i64 c])) := ⟨x0, x1, c, h, rfl⟩
/-- num / den in lowest terms with a positive denominator -/
def qtN (a b : Int) : Int := if b < 0 then lowN (-a) (-b) else lowN a b
def qtD (a b : Int) : Int := if b < 0 then lowD (-a) (-b) else lowD a b
theorem qt_neg {a b : Int} (h : b < 0) : qtN a b = lowN (-a) (-b) ∧ qtD a b = lowD (-a) (-b) := by simp [qtN, qtD, h]
theorem qt_pos {a b : Int} (h : ¬ b < 0) : qtN a b = lowN a b ∧ qtD a b = lowD a b := by simp [qtN, qtD, h]
theorem lowD_pos {a b : Int} (h : 1 ≤ b) : 1 ≤ lowD a b := by
  unfold lowD
  have hp : 0 < Int.gcd a b := Int.gcd_pos_of_ne_zero_right a (by omega)
  have hd : ((Int.gcd a b : Nat) : Int) ∣ b := Int.gcd_dvd_right ..
  have hle := Int.le_of_dvd (by omega) hd
  have := Int.le_ediv_of_mul_le (a := 1) (b := b) (c := ((Int.gcd a b : Nat) : Int)) (by omega) (by omega)
  exact this
theorem lowD_le {a b : Int} (h : 1 ≤ b) : lowD a b ≤ b := by
  unfold lowD
  exact Int.ediv_le_self _ (by omega)
theorem lowN_bd {a b M : Int} (h1 : -M ≤ a) (h2 : a ≤ M) : -M ≤ lowN a b ∧ lowN a b ≤ M := by
  unfold lowN
  exact ediv_bd a _ M h1 h2
/-- the cells of a fraction that is a result -/
def RF (B : Nat) (w : World) : Prop := FrC w B 0 (0, 0) ∧ ∀ f, f < 2 → w.frozen? ⟨B, f, none⟩ = false
theorem RF.mono {B : Nat} {w w' : World} (h : RF B w) (hb : Below w.heap.size w w') : RF B w' :=
  ⟨h.1.mono hb, fun f hf => (hb.frozen (p := ⟨B, f, none⟩) h.1.1).trans (h.2 f hf)⟩
theorem RF.fresh (w : World) (T : TypeId) : RF w.heap.size (w.alloc (.cells #[.int .i64 0, .int .i64 0] T)) :=
  ⟨FrC.fresh w T 0 0, fun f _ => by go_keep⟩
theorem RF.parts {B : Nat} {w : World} (h : RF B w) : (B < w.heap.size ∧ w.cell? ⟨B, 0, none⟩ = some (.int .i64 0) ∧ w.cell? ⟨B, 1, none⟩ = some (.int .i64 0)) ∧ w.frozen? ⟨B, 0, none⟩ = false ∧ w.frozen? ⟨B, 1, none⟩ = false := by
  have h0 := h.1.2 0 (by decide)
  have h1 := h.1.2 1 (by decide)
  rw [Nat.zero_add] at h0 h1
  exact ⟨⟨h.1.1, h0, h1⟩, h.2 0 (by decide), h.2 1 (by decide)⟩
theorem RF.stored {B : Nat} {w : World} (h : RF B w) (y0 y1 : Int) {w' : World} (hw : w' = (w.setCell ⟨B, 0, none⟩ (.int .i64 y0)).setCell ⟨B, 1, none⟩ (.int .i64 y1)) :
    w'.cell? ⟨B, 0, none⟩ = some (.int .i64 y0) ∧ w'.cell? ⟨B, 1, none⟩ = some (.int .i64 y1) := by
  obtain ⟨⟨-, h0, h1⟩, -⟩ := h.parts
  subst hw
  exact ⟨scO (by decide) (scS h0), scS (scO (by decide) h1)⟩
theorem quot_any (a b : Int) (w : World) (h1 : b ≠ 0) (h2 : -1000000000000000000 ≤ b) (h2' : b ≤ 1000000000000000000) (h3 : -1000000000000000000 ≤ a) (h4 : a ≤ 1000000000000000000) :
    Calls Try.prog 58 #[.int .i64 a, .int .i64 b] w fun e w' => e = .returned (.agg #[.int .i64 (qtN a b), .int .i64 (qtD a b)]) ∧ Below w.heap.size w w' := by
  have B1 : Below w.heap.size w (w.alloc (.cells #[.int .i64 0, .int .i64 0] 25)) := (Below.refl _ w).alloc (Nat.le_refl _) _
  have R1 := RF.fresh w 25
  by_cases hneg : b < 0
  · have HQ := Lib.hid (qt_neg (a := a) hneg)
    obtain ⟨x, hx⟩ : ∃ x, lowN (-a) (-b) = x := ⟨_, rfl⟩
    obtain ⟨y, hy⟩ : ∃ x, lowD (-a) (-b) = x := ⟨_, rfl⟩
    have HL : ∀ W, Calls Try.prog 80 #[.agg #[.int .i64 (-a), .int .i64 (-b)]] W fun e w' => e = .returned (.agg #[.int .i64 x, .int .i64 y]) ∧ Below W.heap.size W w' := fun W => by rw [← hx, ← hy]; exact lowestW_any (-a) (-b) W (by omega) (by omega) (by omega) (by omega)
    rw [hx, hy] at HQ
    clear hx hy
    go_enter Try.func58, Try.ntmps58
    go_wp2_with fail
    generalize w.alloc (.cells #[.int .i64 0, .int .i64 0] 25) = w1 at B1 R1 ⊢
    refine (HL _).mono ?_
    rintro e w2 ⟨rfl, b2⟩
    have R2 := R1.mono b2
    have B2 := belowCall B1 b2
    obtain ⟨⟨hBl, q0, q1⟩, z0, z1⟩ := R2.parts
    go_wp2
    obtain ⟨t0, t1⟩ := R2.stored x y rfl
    exact bodyPost_ret (v := .agg #[.int .i64 x, .int .i64 y]) (by simp [results, Try.results58, go_sem, t0, t1]) rfl ⟨by rw [HQ.out.1, HQ.out.2], (B2.setCell (Nat.le_refl _) _).setCell (Nat.le_refl _) _⟩
  · have HQ := Lib.hid (qt_pos (a := a) hneg)
    obtain ⟨x, hx⟩ : ∃ x, lowN a b = x := ⟨_, rfl⟩
    obtain ⟨y, hy⟩ : ∃ x, lowD a b = x := ⟨_, rfl⟩
    have HL : ∀ W, Calls Try.prog 80 #[.agg #[.int .i64 a, .int .i64 b]] W fun e w' => e = .returned (.agg #[.int .i64 x, .int .i64 y]) ∧ Below W.heap.size W w' := fun W => by rw [← hx, ← hy]; exact lowestW_any a b W (by omega) (by omega) (by omega) (by omega)
    rw [hx, hy] at HQ
    clear hx hy
    go_enter Try.func58, Try.ntmps58
    go_wp2_with fail
    generalize w.alloc (.cells #[.int .i64 0, .int .i64 0] 25) = w1 at B1 R1 ⊢
    refine (HL _).mono ?_
    rintro e w2 ⟨rfl, b2⟩
    have R2 := R1.mono b2
    have B2 := belowCall B1 b2
    obtain ⟨⟨hBl, q0, q1⟩, z0, z1⟩ := R2.parts
    go_wp2
    obtain ⟨t0, t1⟩ := R2.stored x y rfl
    exact bodyPost_ret (v := .agg #[.int .i64 x, .int .i64 y]) (by simp [results, Try.results58, go_sem, t0, t1]) rfl ⟨by rw [HQ.out.1, HQ.out.2], (B2.setCell (Nat.le_refl _) _).setCell (Nat.le_refl _) _⟩
end Go.Proofs.Ytidiiladlmaigaa
