/- SlopeOf, both sides. -/
import Derived.Test.YtiogffjhhhpolaaJT
import Derived.Test.YtiogffjhhhpolaaGI
namespace Go.Proofs.Ytiogffjhhhpolaa
open Go.ChangeShapes Go.WideShapes Go.ChangeAt Go.RowKit Go.Deep

def tmF (xs : List Pt) (k : Nat) : Int := (xs[k]?.getD pt0).1
def mgF (xs : List Pt) (k : Nat) : Int := (xs[k]?.getD pt0).2
def slN (xs : List Pt) : Int := outF (tmF xs) (mgF xs) xs.length
def slD (xs : List Pt) : Int := outF (tmF xs) (tmF xs) xs.length
/-- SlopeOf's answer -/
def slF (xs : List Pt) : Int × Int × Int := if okP xs then (if xs.length < 2 then (0, 0, 3) else (lowN (10000 * slN xs) (slD xs), lowD (10000 * slN xs) (slD xs), 0)) else (0, 0, 1)
theorem sl_1 {xs : List Pt} (h : okP xs = false) : slF xs = (0, 0, 1) := by simp [slF, h]
theorem sl_3 {xs : List Pt} {n : Nat} (hn : xs.length = n) (h : okP xs = true) (h2 : n < 2) : slF xs = (0, 0, 3) := by simp [slF, h, hn, h2]
theorem sl_0 {xs : List Pt} {n : Nat} (hn : xs.length = n) (h : okP xs = true) (h2 : ¬ n < 2) : slF xs = (lowN (10000 * slN xs) (slD xs), lowD (10000 * slN xs) (slD xs), 0) := by simp [slF, h, hn, h2]
def SlPost (xs : List Pt) (e : Ending) : Prop := ∃ x0 x1 c, slF xs = (x0, x1, c) ∧ e = .returned (.tuple #[.agg #[.int .i64 x0, .int .i64 x1], .int .i64 c])
theorem ok_mono {xs : List Pt} {n : Nat} (h : ∀ k, k + 1 < n → (xs[k]?.getD pt0).1 < (xs[k + 1]?.getD pt0).1) : ∀ i j, j < i → i < n → tmF xs j ≤ tmF xs i := by
  intro i
  induction i with
  | zero => intro j h1; omega
  | succ i ih =>
    intro j h1 h2
    have := h i h2
    by_cases e : j = i
    · subst e; unfold tmF; omega
    · have := ih j (by omega) (by omega)
      unfold tmF at *
      omega
theorem sl_bd {xs : List Pt} {n : Nat} (hn : xs.length = n) (h : okP xs = true) (h2 : ¬ n < 2) : (-550000000000000 ≤ slN xs ∧ slN xs ≤ 550000000000000) ∧ 1 ≤ slD xs ∧ slD xs ≤ 250000000000000000 := by
  obtain ⟨h100, hbd, hinc⟩ := okP_num hn h
  have hm := ok_mono hinc
  have hT : ∀ k, k < n → 0 ≤ tmF xs k ∧ tmF xs k ≤ 10000000 := fun k hk => by have := hbd k hk; unfold tmF; omega
  have hM : ∀ i j, i < n → j < n → mgF xs i - mgF xs j ≤ 22000 := fun i j hi hj => by have := hbd i hi; have := hbd j hj; unfold mgF; omega
  have hTT : ∀ i j, i < n → j < n → tmF xs i - tmF xs j ≤ 10000000 := fun i j hi hj => by have := hT i hi; have := hT j hj; omega
  have a := outF_bd (M := 22000) h100 (by omega) (by omega) hT hm hM
  have b := outF_bd (M := 10000000) h100 (by omega) (by omega) hT hm hTT
  have c := outF_pos (t := tmF xs) (n := n) (by omega) (by have := hinc 0 (by omega); exact this)
  unfold slN slD
  rw [hn]
  omega
/-- the program's words for them -/
theorem sl_words (xs : List Pt) {n : Nat} (hn : xs.length = n) : slN xs = n * sumV [true, false] xs n - sumV [true] xs n * sumV [false] xs n ∧ slD xs = n * sumV [true, true] xs n - sumV [true] xs n * sumV [true] xs n := by
  unfold slN slD
  rw [hn, outF_eq, outF_eq, sumV_time, sumV_mag]
  have e1 : sumV [true, false] xs n = sumF (fun j => tmF xs j * mgF xs j) n := sumF_congr fun j _ => by simp [prodF, facV, tmF, mgF]
  have e2 : sumV [true, true] xs n = sumF (fun j => tmF xs j * tmF xs j) n := sumF_congr fun j _ => by simp [prodF, facV, tmF]
  rw [e1, e2]
  exact ⟨rfl, rfl⟩
/-- the result's cells -/
def RcF (B : Nat) (w : World) : Prop := FrC w B 0 (0, 0) ∧ ∀ f, f < 2 → w.frozen? ⟨B, f, none⟩ = false
theorem RcF.mono {B : Nat} {w w' : World} (h : RcF B w) (hb : Below w.heap.size w w') : RcF B w' :=
  ⟨h.1.mono hb, fun f hf => (hb.frozen (p := ⟨B, f, none⟩) h.1.1).trans (h.2 f hf)⟩
theorem RcF.fresh (w : World) (T : TypeId) : RcF w.heap.size (w.alloc (.cells #[.int .i64 0, .int .i64 0] T)) :=
  ⟨FrC.fresh w T 0 0, fun f _ => by go_keep⟩
theorem RcF.parts {B : Nat} {w : World} (h : RcF B w) : (B < w.heap.size ∧ w.cell? ⟨B, 0, none⟩ = some (.int .i64 0) ∧ w.cell? ⟨B, 1, none⟩ = some (.int .i64 0)) ∧ w.frozen? ⟨B, 0, none⟩ = false ∧ w.frozen? ⟨B, 1, none⟩ = false := by
  have h0 := h.1.2 0 (by decide)
  have h1 := h.1.2 1 (by decide)
  rw [Nat.zero_add] at h0 h1
  exact ⟨⟨h.1.1, h0, h1⟩, h.2 0 (by decide), h.2 1 (by decide)⟩
theorem RcF.stored {B : Nat} {w : World} (h : RcF B w) (y0 y1 : Int) {w' : World} (hw : w' = (w.setCell ⟨B, 0, none⟩ (.int .i64 y0)).setCell ⟨B, 1, none⟩ (.int .i64 y1)) :
    w'.cell? ⟨B, 0, none⟩ = some (.int .i64 y0) ∧ w'.cell? ⟨B, 1, none⟩ = some (.int .i64 y1) := by
  obtain ⟨⟨-, h0, h1⟩, -⟩ := h.parts
  subst hw
  exact ⟨scO (by decide) (scS h0), scS (scO (by decide) h1)⟩
set_option maxRecDepth 100000 in
set_option maxHeartbeats 4000000 in
theorem iSlope_any (a : Option Addr) (n c : Nat) (xs : List Pt) (w : World) (h : PtL w a n xs) (hn : n ≤ 1048576) :
    Calls Try.prog 30 #[.slice a n c] w fun e w' => SlPost xs e ∧ Below w.heap.size w w' := by
  have B1 : Below w.heap.size w (w.alloc (.cells #[.int .i64 0, .int .i64 0] 43)) := (Below.refl _ w).alloc (Nat.le_refl _) _
  have h1 := h.mono B1
  have R1 := RcF.fresh w 43
  cases hok : okP xs
  · have HC := Lib.hid (sl_1 hok)
    go_enter Try.func30, Try.ntmps30
    go_wp2_with fail
    generalize w.alloc (.cells #[.int .i64 0, .int .i64 0] 43) = w1 at B1 h1 R1 ⊢
    refine (iValidCv_any a n c xs w1 h1 hn).mono ?_
    rintro e w2 ⟨rfl, b2⟩
    rw [hok]
    have R := R1.mono b2
    have B2 := belowCall B1 b2
    obtain ⟨⟨hBl, q0, q1⟩, z0, z1⟩ := R.parts
    go_wp2
    obtain ⟨t0, t1⟩ := R.stored 0 0 rfl
    exact bodyPost_ret (v := .tuple #[.agg #[.int .i64 0, .int .i64 0], .int .i64 1]) (by simp [results, Try.results30, go_sem, t0, t1]) rfl ⟨⟨_, _, _, HC.out, rfl⟩, (B2.setCell (Nat.le_refl _) _).setCell (Nat.le_refl _) _⟩
  by_cases hn2 : n < 2
  · have HC := Lib.hid (sl_3 h.1 hok hn2)
    have hl2 : (n : Int) < 2 := by omega
    go_enter Try.func30, Try.ntmps30
    go_wp2_with fail
    generalize w.alloc (.cells #[.int .i64 0, .int .i64 0] 43) = w1 at B1 h1 R1 ⊢
    refine (iValidCv_any a n c xs w1 h1 hn).mono ?_
    rintro e w2 ⟨rfl, b2⟩
    rw [hok]
    have R := R1.mono b2
    have B2 := belowCall B1 b2
    obtain ⟨⟨hBl, q0, q1⟩, z0, z1⟩ := R.parts
    clear hok
    go_wp2
    obtain ⟨t0, t1⟩ := R.stored 0 0 rfl
    exact bodyPost_ret (v := .tuple #[.agg #[.int .i64 0, .int .i64 0], .int .i64 3]) (by simp [results, Try.results30, go_sem, t0, t1]) rfl ⟨⟨_, _, _, HC.out, rfl⟩, (B2.setCell (Nat.le_refl _) _).setCell (Nat.le_refl _) _⟩
  · have HC := Lib.hid (sl_0 h.1 hok hn2)
    obtain ⟨h100, hbd, -⟩ := okP_num h.1 hok
    have HBD : Hid (∀ k, k < n → bdP (xs[k]?.getD pt0)) := Lib.hid fun k hk => by have := hbd k hk; unfold bdP; omega
    obtain ⟨⟨hN1, hN2⟩, hD1, hD2⟩ := sl_bd h.1 hok hn2
    obtain ⟨e1, e2⟩ := sl_words xs h.1
    have HS0 := Lib.hid (sumV_nil xs n)
    have s1 := sumV_bd (ks := [true]) (by simp) HBD.out n (Nat.le_refl _)
    have s2 := sumV_bd (ks := [false]) (by simp) HBD.out n (Nat.le_refl _)
    have s3 := sumV_bd (ks := [true, false]) (by simp) HBD.out n (Nat.le_refl _)
    have s4 := sumV_bd (ks := [true, true]) (by simp) HBD.out n (Nat.le_refl _)
    have r1 : 0 ≤ sumV [true] xs n ∧ sumV [true] xs n ≤ 1000000000 := by
      have hb := sumF_bd (f := fun j => (xs[j]?.getD pt0).1) (c := 10000000) (k := n) (fun j hj => by have := hbd j hj; omega)
      have hp := sumF_nonneg (f := fun j => (xs[j]?.getD pt0).1) (k := n) (fun j hj => (hbd j hj).1)
      rw [sumV_time]; unfold sT; omega
    have r2 : -2000000 ≤ sumV [false] xs n ∧ sumV [false] xs n ≤ 2000000 := by
      have hb := sumF_bd (f := fun j => (xs[j]?.getD pt0).2) (c := 20000) (k := n) (fun j hj => by have := hbd j hj; omega)
      rw [sumV_mag]; unfold sM; omega
    have p1 := absMul (a := sumV [true] xs n) (b := sumV [false] xs n) (A := 1000000000) (B := 2000000) (by omega) (by omega) (by omega) (by omega)
    have p2 := absMul (a := sumV [true] xs n) (b := sumV [true] xs n) (A := 1000000000) (B := 1000000000) (by omega) (by omega) (by omega) (by omega)
    have p3 := absMul (a := (n : Int)) (b := sumV [true, false] xs n) (A := 100) (B := 10000000000000000) (by omega) (by omega) (by omega) (by omega)
    have p4 := absMul (a := (n : Int)) (b := sumV [true, true] xs n) (A := 100) (B := 10000000000000000) (by omega) (by omega) (by omega) (by omega)
    have hl : (n : Int) ≤ 100 := by omega
    have hl2 : (2 : Int) ≤ (n : Int) := by omega
    go_enter Try.func30, Try.ntmps30
    go_wp2_with fail
    generalize w.alloc (.cells #[.int .i64 0, .int .i64 0] 43) = w1 at B1 h1 R1 ⊢
    refine (iValidCv_any a n c xs w1 h1 hn).mono ?_
    rintro e w2 ⟨rfl, b2⟩
    rw [hok]
    have B2 := belowCall B1 b2
    have R2 := R1.mono b2
    have h2 := h1.mono b2
    clear hok hbd
    obtain ⟨st, hst⟩ : ∃ v, sumV [true] xs n = v := ⟨_, rfl⟩
    obtain ⟨sm, hsm⟩ : ∃ v, sumV [false] xs n = v := ⟨_, rfl⟩
    obtain ⟨stm, hstm⟩ : ∃ v, sumV [true, false] xs n = v := ⟨_, rfl⟩
    obtain ⟨stt, hstt⟩ : ∃ v, sumV [true, true] xs n = v := ⟨_, rfl⟩
    have HST := Lib.hid hst
    have HSM := Lib.hid hsm
    have HSTM := Lib.hid hstm
    have HSTT := Lib.hid hstt
    rw [hst] at s1 r1 p1 p2 e1 e2
    rw [hsm] at s2 r2 p1 e1
    rw [hstm] at s3 p3 e1
    rw [hstt] at s4 p4 e2
    obtain ⟨N, hN⟩ : ∃ v, slN xs = v := ⟨_, rfl⟩
    obtain ⟨D, hD⟩ : ∃ v, slD xs = v := ⟨_, rfl⟩
    rw [hN] at hN1 hN2 e1 HC
    rw [hD] at hD1 hD2 e2 HC
    have k1 : -550000000000000 ≤ (n : Int) * stm - st * sm ∧ (n : Int) * stm - st * sm ≤ 550000000000000 := by rw [← e1]; exact ⟨hN1, hN2⟩
    have k2 : 1 ≤ (n : Int) * stt - st * st ∧ (n : Int) * stt - st * st ≤ 250000000000000000 := by rw [← e2]; exact ⟨hD1, hD2⟩
    have HE1 := Lib.hid e1
    have HE2 := Lib.hid e2
    clear hst hsm hstm hstt hN hD e1 e2
    go_wp2_with fail
    refine (sumOf_any a none n c 0 0 xs [] w2 h2 h100 HBD.out (FacL.nil _) (by omega)).mono ?_
    rintro e w3 ⟨rfl, b3⟩
    rw [HS0.out]
    have R3 := R2.mono b3
    have B3 := belowCall B2 b3
    have h3 := h2.mono b3
    go_wp2_with fail
    refine (sumOf_any a _ n c 1 1 xs [true] _ (h3.mono (by (repeat (first | assumption | exact Below.refl _ _ | refine belowDN ?_ _ | refine Below.drew ?_ | refine Below.setCell ?_ (by first | omega | (simp <;> omega)) _ | refine Below.alloc ?_ (by first | omega | (simp <;> omega)) _ | refine belowCall ?_ (by assumption))))) h100 HBD.out (FacL.one w3 true _) (by omega)).mono ?_
    rintro e w4 ⟨rfl, b4⟩
    rw [HST.out]
    have b4' : Below w3.heap.size w3 w4 := belowCall (by (repeat (first | assumption | exact Below.refl _ _ | refine belowDN ?_ _ | refine Below.drew ?_ | refine Below.setCell ?_ (by first | omega | (simp <;> omega)) _ | refine Below.alloc ?_ (by first | omega | (simp <;> omega)) _ | refine belowCall ?_ (by assumption)))) b4
    have R4 := R3.mono b4'
    have B4 := belowCall B3 b4'
    have h4 := h3.mono b4'
    go_wp2_with fail
    refine (sumOf_any a _ n c 1 1 xs [false] _ (h4.mono (by (repeat (first | assumption | exact Below.refl _ _ | refine belowDN ?_ _ | refine Below.drew ?_ | refine Below.setCell ?_ (by first | omega | (simp <;> omega)) _ | refine Below.alloc ?_ (by first | omega | (simp <;> omega)) _ | refine belowCall ?_ (by assumption))))) h100 HBD.out (FacL.one w4 false _) (by omega)).mono ?_
    rintro e w5 ⟨rfl, b5⟩
    rw [HSM.out]
    have b5' : Below w4.heap.size w4 w5 := belowCall (by (repeat (first | assumption | exact Below.refl _ _ | refine belowDN ?_ _ | refine Below.drew ?_ | refine Below.setCell ?_ (by first | omega | (simp <;> omega)) _ | refine Below.alloc ?_ (by first | omega | (simp <;> omega)) _ | refine belowCall ?_ (by assumption)))) b5
    have R5 := R4.mono b5'
    have B5 := belowCall B4 b5'
    have h5 := h4.mono b5'
    go_wp2_with fail
    refine (sumOf_any a _ n c 2 2 xs [true, false] _ (h5.mono (by (repeat (first | assumption | exact Below.refl _ _ | refine belowDN ?_ _ | refine Below.drew ?_ | refine Below.setCell ?_ (by first | omega | (simp <;> omega)) _ | refine Below.alloc ?_ (by first | omega | (simp <;> omega)) _ | refine belowCall ?_ (by assumption))))) h100 HBD.out (FacL.two w5 true false _) (by omega)).mono ?_
    rintro e w6 ⟨rfl, b6⟩
    rw [HSTM.out]
    have b6' : Below w5.heap.size w5 w6 := belowCall (by (repeat (first | assumption | exact Below.refl _ _ | refine belowDN ?_ _ | refine Below.drew ?_ | refine Below.setCell ?_ (by first | omega | (simp <;> omega)) _ | refine Below.alloc ?_ (by first | omega | (simp <;> omega)) _ | refine belowCall ?_ (by assumption)))) b6
    have R6 := R5.mono b6'
    have B6 := belowCall B5 b6'
    have h6 := h5.mono b6'
    have hm1 : IntKind.i64.wrap ((n : Int) * stm) = (n : Int) * stm := IntWalk.i64_in _ (by omega)
    have hm2 : IntKind.i64.wrap (st * sm) = st * sm := IntWalk.i64_in _ (by omega)
    go_wp2_with fail
    refine (sumOf_any a _ n c 2 2 xs [true, true] _ (h6.mono (by (repeat (first | assumption | exact Below.refl _ _ | refine belowDN ?_ _ | refine Below.drew ?_ | refine Below.setCell ?_ (by first | omega | (simp <;> omega)) _ | refine Below.alloc ?_ (by first | omega | (simp <;> omega)) _ | refine belowCall ?_ (by assumption))))) h100 HBD.out (FacL.two w6 true true _) (by omega)).mono ?_
    rintro e w7 ⟨rfl, b7⟩
    rw [HSTT.out]
    have b7' : Below w6.heap.size w6 w7 := belowCall (by (repeat (first | assumption | exact Below.refl _ _ | refine belowDN ?_ _ | refine Below.drew ?_ | refine Below.setCell ?_ (by first | omega | (simp <;> omega)) _ | refine Below.alloc ?_ (by first | omega | (simp <;> omega)) _ | refine belowCall ?_ (by assumption)))) b7
    have R7 := R6.mono b7'
    have B7 := belowCall B6 b7'
    go_wp2_with fail
    rw [← HE1.out, ← HE2.out]
    refine (lowestW_any (10000 * N) D _ (by omega) (by omega) (by omega) (by omega)).mono ?_
    rintro e w8 ⟨rfl, b8⟩
    have R8 := R7.mono b8
    have B8 := belowCall B7 b8
    obtain ⟨⟨hBl, q0, q1⟩, z0, z1⟩ := R8.parts
    go_wp2
    obtain ⟨t0, t1⟩ := R8.stored (lowN (10000 * N) D) (lowD (10000 * N) D) rfl
    exact bodyPost_ret (v := .tuple #[.agg #[.int .i64 (lowN (10000 * N) D), .int .i64 (lowD (10000 * N) D)], .int .i64 0]) (by simp [results, Try.results30, go_sem, t0, t1]) rfl ⟨⟨_, _, _, HC.out, rfl⟩, (B8.setCell (Nat.le_refl _) _).setCell (Nat.le_refl _) _⟩
def tmL (xs : List Pt) : List Int := xs.map fun x => x.1
theorem tmL_len (xs : List Pt) : (tmL xs).length = xs.length := by simp [tmL]
theorem tmL_at (xs : List Pt) (k : Nat) : (tmL xs)[k]?.getD 0 = (xs[k]?.getD pt0).1 := by
  rw [tmL, List.getElem?_map]
  cases xs[k]? <;> rfl
theorem two_step {xs : List Pt} {k n : Nat} {x0 x1 : Int} (hn : xs.length = n) (hk : k < n) (hx : xs[k]?.getD pt0 = (x0, x1)) : (tmL (xs.take (k + 1))).map (Value.int .i64) = (tmL (xs.take k)).map (Value.int .i64) ++ [.int .i64 x0] ∧ (mgP (xs.take (k + 1))).map (Value.int .i64) = (mgP (xs.take k)).map (Value.int .i64) ++ [.int .i64 x1] := by
  have hlt : k < xs.length := by omega
  rw [List.getElem?_eq_getElem hlt, Option.getD_some] at hx
  rw [← List.take_append_getElem hlt, hx]
  simp [tmL, mgP]
end Go.Proofs.Ytiogffjhhhpolaa
