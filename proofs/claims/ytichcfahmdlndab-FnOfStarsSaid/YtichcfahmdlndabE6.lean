/- LastOf, both sides. -/
import Derived.Test.YtichcfahmdlndabE5
namespace Go.Proofs.Ytichcfahmdlndab
open Go.ChangeShapes Go.WideShapes Go.ChangeAt Go.RowKit Go.Deep

def pSt (s : ByteArray) (x : Es) : Bool := x.2.1.toList == s.toList
/-- the last estimate of a star, and the code -/
def lsR (xs : List Es) (s : ByteArray) : Es × Int := if okE xs then (if nameB s then (match (xs.filter (pSt s)).getLast? with | some x => (x, 0) | none => (es0, 3)) else (es0, 2)) else (es0, 1)
theorem ls_1 {xs : List Es} {s : ByteArray} (h : okE xs = false) : lsR xs s = (es0, 1) := by simp [lsR, h]
theorem ls_2 {xs : List Es} {s : ByteArray} (h : okE xs = true) (h2 : nameB s = false) : lsR xs s = (es0, 2) := by simp [lsR, h, h2]
theorem ls_3 {xs : List Es} {s : ByteArray} (h : okE xs = true) (h2 : nameB s = true) (h3 : xs.filter (pSt s) = []) : lsR xs s = (es0, 3) := by simp [lsR, h, h2, h3]
theorem ls_0 {xs : List Es} {s : ByteArray} {x : Es} (h : okE xs = true) (h2 : nameB s = true) (h3 : (xs.filter (pSt s)).getLast? = some x) : lsR xs s = (x, 0) := by simp [lsR, h, h2, h3]
theorem ls_none {xs : List Es} {s : ByteArray} {n : Nat} (hn : xs.length = n) (h : ∀ j, j < n → pSt s (xs[j]?.getD es0) = false) : xs.filter (pSt s) = [] := by
  rw [List.filter_eq_nil_iff]
  intro x hx
  obtain ⟨j, hj, rfl⟩ := List.getElem_of_mem hx
  have := h j (by omega)
  simpa [hj] using this
theorem ls_hit {xs : List Es} {s : ByteArray} {n k : Nat} {x : Es} (hn : xs.length = n) (hk : k < n) (hx : xs[k]?.getD es0 = x) (hp : pSt s x = true) (h : ∀ j, k < j → j < n → pSt s (xs[j]?.getD es0) = false) : (xs.filter (pSt s)).getLast? = some x := by
  have hk' : k < xs.length := by omega
  have e : xs = xs.take k ++ x :: xs.drop (k + 1) := by
    rw [List.getElem?_eq_getElem hk', Option.getD_some] at hx
    rw [← hx, ← List.drop_eq_getElem_cons hk', List.take_append_drop]
  have h2 : (xs.drop (k + 1)).filter (pSt s) = [] := by
    rw [List.filter_eq_nil_iff]
    intro y hy
    obtain ⟨j, hj, rfl⟩ := List.getElem_of_mem hy
    have hj' : j < xs.length - (k + 1) := by simpa using hj
    have := h (k + 1 + j) (by omega) (by omega)
    rw [List.getElem_drop]
    simpa [show k + 1 + j < xs.length by omega] using this
  rw [e, List.filter_append, List.filter_cons_of_pos hp, h2]
  simp
theorem okE_tm {xs : List Es} (h : okE xs = true) : ∀ x ∈ xs, tmB x.1 = true := by
  intro x hx
  obtain ⟨j, hj, rfl⟩ := List.getElem_of_mem hx
  have := (okE_at rfl h).2 j hj
  simp only [okAtE, Bool.and_eq_true] at this
  have h1 := this.1
  rw [List.getElem?_eq_getElem hj, Option.getD_some] at h1
  simp only [esB, Bool.and_eq_true] at h1
  exact h1.1
theorem os_all {xs : List Es} {s : ByteArray} (h : okE xs = true) : xs.filter (pStar s 0 10000000) = xs.filter (pSt s) := by
  apply List.filter_congr
  intro x hx
  have := okE_tm h x hx
  unfold tmB at this
  simp [pStar, pSt, this]
def lsV (r : Es) (c : Int) : Value := .tuple #[.agg #[.int .i64 r.1, .string r.2.1, .string r.2.2.1, .int .i64 r.2.2.2.1, .bool r.2.2.2.2], .int .i64 c]
def LsPost (xs : List Es) (s : ByteArray) (e : Ending) : Prop := ∃ x0 x1 x2 x3 x4 c, lsR xs s = ((x0, x1, x2, x3, x4), c) ∧ e = .returned (.tuple #[.agg #[.int .i64 x0, .string x1, .string x2, .int .i64 x3, .bool x4], .int .i64 c])
/-- the result's cells in the world at hand -/
def RcE (B : Nat) (w : World) : Prop := EsC w B 0 es0 ∧ ∀ f, f < 5 → w.frozen? ⟨B, f, none⟩ = false
theorem RcE.mono {B : Nat} {w w' : World} (h : RcE B w) (hb : Below w.heap.size w w') : RcE B w' :=
  ⟨h.1.mono hb, fun f hf => (hb.frozen (p := ⟨B, f, none⟩) h.1.1).trans (h.2 f hf)⟩
theorem RcE.fresh (w : World) (T : TypeId) : RcE w.heap.size (w.alloc (.cells #[.int .i64 0, .string ⟨#[]⟩, .string ⟨#[]⟩, .int .i64 0, .bool false] T)) :=
  ⟨EsC.fresh w T 0 ⟨#[]⟩ ⟨#[]⟩ 0 false, fun f _ => by go_keep⟩
theorem RcE.parts {B : Nat} {w : World} (h : RcE B w) : (B < w.heap.size ∧ w.cell? ⟨B, 0, none⟩ = some (.int .i64 0) ∧ w.cell? ⟨B, 1, none⟩ = some (.string ⟨#[]⟩) ∧ w.cell? ⟨B, 2, none⟩ = some (.string ⟨#[]⟩) ∧ w.cell? ⟨B, 3, none⟩ = some (.int .i64 0) ∧ w.cell? ⟨B, 4, none⟩ = some (.bool false)) ∧ w.frozen? ⟨B, 0, none⟩ = false ∧ w.frozen? ⟨B, 1, none⟩ = false ∧ w.frozen? ⟨B, 2, none⟩ = false ∧ w.frozen? ⟨B, 3, none⟩ = false ∧ w.frozen? ⟨B, 4, none⟩ = false := by
  have h0 := h.1.2 0 (by decide)
  have h1 := h.1.2 1 (by decide)
  have h2 := h.1.2 2 (by decide)
  have h3 := h.1.2 3 (by decide)
  have h4 := h.1.2 4 (by decide)
  rw [Nat.zero_add] at h0 h1 h2 h3 h4
  exact ⟨⟨h.1.1, h0, h1, h2, h3, h4⟩, h.2 0 (by decide), h.2 1 (by decide), h.2 2 (by decide), h.2 3 (by decide), h.2 4 (by decide)⟩
theorem RcE.stored {B : Nat} {w : World} (h : RcE B w) (y0 : Int) (y1 y2 : ByteArray) (y3 : Int) (y4 : Bool) {w' : World}
    (hw : w' = ((((w.setCell ⟨B, 0, none⟩ (.int .i64 y0)).setCell ⟨B, 1, none⟩ (.string y1)).setCell ⟨B, 2, none⟩ (.string y2)).setCell ⟨B, 3, none⟩ (.int .i64 y3)).setCell ⟨B, 4, none⟩ (.bool y4)) :
    w'.cell? ⟨B, 0, none⟩ = some (.int .i64 y0) ∧ w'.cell? ⟨B, 1, none⟩ = some (.string y1) ∧ w'.cell? ⟨B, 2, none⟩ = some (.string y2) ∧ w'.cell? ⟨B, 3, none⟩ = some (.int .i64 y3) ∧ w'.cell? ⟨B, 4, none⟩ = some (.bool y4) := by
  obtain ⟨⟨-, h0, h1, h2, h3, h4⟩, -⟩ := h.parts
  subst hw
  exact ⟨scO (by decide) (scO (by decide) (scO (by decide) (scO (by decide) (scS h0)))), scO (by decide) (scO (by decide) (scO (by decide) (scS (scO (by decide) h1)))), scO (by decide) (scO (by decide) (scS (scO (by decide) (scO (by decide) h2)))), scO (by decide) (scS (scO (by decide) (scO (by decide) (scO (by decide) h3)))), scS (scO (by decide) (scO (by decide) (scO (by decide) (scO (by decide) h4))))⟩
theorem below_st {n B : Nat} {w0 w w' : World} (h : Below n w0 w) (hB : n ≤ B) {v0 v1 v2 v3 v4 : Value}
    (hw : w' = ((((w.setCell ⟨B, 0, none⟩ v0).setCell ⟨B, 1, none⟩ v1).setCell ⟨B, 2, none⟩ v2).setCell ⟨B, 3, none⟩ v3).setCell ⟨B, 4, none⟩ v4) : Below n w0 w' := by
  subst hw
  exact ((((h.setCell hB v0).setCell hB v1).setCell hB v2).setCell hB v3).setCell hB v4
set_option maxRecDepth 100000 in
set_option maxHeartbeats 2000000 in
theorem iLastOf_any (a : Option Addr) (n c : Nat) (xs : List Es) (s : ByteArray) (w : World) (h : EsL w a n xs) (hn : n ≤ 1048576) :
    Calls Try.prog 12 #[.slice a n c, .string s] w fun e w' => LsPost xs s e ∧ Below w.heap.size w w' := by
  have HL := Lib.hid h.1
  have hl : (n : Int) ≤ 1048576 := by omega
  have B1 : Below w.heap.size w (w.alloc (.cells #[.int .i64 0, .string ⟨#[]⟩, .string ⟨#[]⟩, .int .i64 0, .bool false] 32)) := (Below.refl _ w).alloc (Nat.le_refl _) _
  have h1 := h.mono B1
  have R1 := RcE.fresh w 32
  have t0 : tmB 0 = true := by decide
  have t1 : tmB 10000000 = true := by decide
  cases hok : okE xs
  · have HC := Lib.hid (ls_1 (s := s) hok)
    have HO := Lib.hid (os_1 (s := s) (f := 0) (t := 10000000) hok)
    clear t0 t1
    go_enter Try.func12, Try.ntmps12
    go_wp2_with fail
    generalize w.alloc (.cells #[.int .i64 0, .string ⟨#[]⟩, .string ⟨#[]⟩, .int .i64 0, .bool false] 32) = w1 at B1 h1 R1 ⊢
    refine (iOfStar_any a n c xs s 0 10000000 w1 h1 hn).mono ?_
    rintro e w2 ⟨⟨ag, cg, rfl, hM⟩, b2⟩
    rw [HO.out.1, HO.out.2]
    clear hM
    have R := R1.mono b2
    have B2 := belowCall B1 b2
    obtain ⟨⟨hBl, q0, q1, q2, q3, q4⟩, z0, z1, z2, z3, z4⟩ := R.parts
    go_wp2
    obtain ⟨t0, t1, t2, t3, t4⟩ := R.stored 0 ⟨#[]⟩ ⟨#[]⟩ 0 false rfl
    exact bodyPost_ret (v := .tuple #[.agg #[.int .i64 0, .string ⟨#[]⟩, .string ⟨#[]⟩, .int .i64 0, .bool false], .int .i64 1]) (by simp [results, Try.results12, go_sem, t0, t1, t2, t3, t4]) rfl ⟨⟨_, _, _, _, _, _, HC.out, rfl⟩, below_st B2 (Nat.le_refl _) rfl⟩
  cases hnm : nameB s
  · have HC := Lib.hid (ls_2 hok hnm)
    have HO := Lib.hid (os_2 (s := s) (f := 0) (t := 10000000) hok (by simp [hnm]))
    clear t0 t1
    go_enter Try.func12, Try.ntmps12
    go_wp2_with fail
    generalize w.alloc (.cells #[.int .i64 0, .string ⟨#[]⟩, .string ⟨#[]⟩, .int .i64 0, .bool false] 32) = w1 at B1 h1 R1 ⊢
    refine (iOfStar_any a n c xs s 0 10000000 w1 h1 hn).mono ?_
    rintro e w2 ⟨⟨ag, cg, rfl, hM⟩, b2⟩
    rw [HO.out.1, HO.out.2]
    clear hM
    have R := R1.mono b2
    have B2 := belowCall B1 b2
    obtain ⟨⟨hBl, q0, q1, q2, q3, q4⟩, z0, z1, z2, z3, z4⟩ := R.parts
    go_wp2
    obtain ⟨t0, t1, t2, t3, t4⟩ := R.stored 0 ⟨#[]⟩ ⟨#[]⟩ 0 false rfl
    exact bodyPost_ret (v := .tuple #[.agg #[.int .i64 0, .string ⟨#[]⟩, .string ⟨#[]⟩, .int .i64 0, .bool false], .int .i64 2]) (by simp [results, Try.results12, go_sem, t0, t1, t2, t3, t4]) rfl ⟨⟨_, _, _, _, _, _, HC.out, rfl⟩, below_st B2 (Nat.le_refl _) rfl⟩
  have HO := Lib.hid (os_0 (s := s) (f := 0) (t := 10000000) hok (by simp [hnm, t0, t1]))
  have hA := os_all (s := s) hok
  clear t0 t1
  obtain ⟨L, hL⟩ : ∃ L, xs.filter (pSt s) = L := ⟨_, rfl⟩
  have hLn : L.length ≤ n := by rw [← hL]; exact fl_len (by have := HL.out; omega)
  by_cases h0 : L.length = 0
  · have hLe : L = [] := List.length_eq_zero_iff.1 h0
    have HC := Lib.hid (ls_3 hok hnm (hL.trans hLe))
    have HLe := Lib.hid (hA.trans (hL.trans hLe))
    clear hA hL hLe h0 hLn
    go_enter Try.func12, Try.ntmps12
    go_wp2_with fail
    generalize w.alloc (.cells #[.int .i64 0, .string ⟨#[]⟩, .string ⟨#[]⟩, .int .i64 0, .bool false] 32) = w1 at B1 h1 R1 ⊢
    refine (iOfStar_any a n c xs s 0 10000000 w1 h1 hn).mono ?_
    rintro e w2 ⟨⟨ag, cg, rfl, hM⟩, b2⟩
    rw [HO.out.1, HO.out.2, HLe.out]
    clear hM
    have R := R1.mono b2
    have B2 := belowCall B1 b2
    obtain ⟨⟨hBl, q0, q1, q2, q3, q4⟩, z0, z1, z2, z3, z4⟩ := R.parts
    go_wp2
    obtain ⟨t0, t1, t2, t3, t4⟩ := R.stored 0 ⟨#[]⟩ ⟨#[]⟩ 0 false rfl
    exact bodyPost_ret (v := .tuple #[.agg #[.int .i64 0, .string ⟨#[]⟩, .string ⟨#[]⟩, .int .i64 0, .bool false], .int .i64 3]) (by simp [results, Try.results12, go_sem, t0, t1, t2, t3, t4]) rfl ⟨⟨_, _, _, _, _, _, HC.out, rfl⟩, below_st B2 (Nat.le_refl _) rfl⟩
  · obtain ⟨m, hm⟩ : ∃ m, L.length = m + 1 := ⟨L.length - 1, by omega⟩
    obtain ⟨⟨x0, x1, x2, x3, x4⟩, hx⟩ : ∃ x, L[m]?.getD es0 = x := ⟨_, rfl⟩
    have hlast : L.getLast? = some (x0, x1, x2, x3, x4) := by
      rw [List.getLast?_eq_getElem?, hm, Nat.add_sub_cancel]
      rw [List.getElem?_eq_getElem (by omega)] at hx ⊢
      rw [← hx]; rfl
    have HC := Lib.hid (ls_0 hok hnm (by rw [hL]; exact hlast))
    have HLe := Lib.hid (hA.trans hL)
    have HM := Lib.hid hm
    have HX := Lib.hid hx
    have hmn : m < 1048576 := by omega
    clear hA hL hm hlast hx h0
    go_enter Try.func12, Try.ntmps12
    go_wp2_with fail
    generalize w.alloc (.cells #[.int .i64 0, .string ⟨#[]⟩, .string ⟨#[]⟩, .int .i64 0, .bool false] 32) = w1 at B1 h1 R1 ⊢
    refine (iOfStar_any a n c xs s 0 10000000 w1 h1 hn).mono ?_
    rintro e w2 ⟨⟨ag, cg, rfl, hM⟩, b2⟩
    rw [HO.out.1, HO.out.2, HLe.out, HM.out]
    have hML := (hM 1).toL
    rw [HO.out.2, HLe.out, HM.out] at hML
    clear hM
    obtain ⟨b1, o1, rfl, hc⟩ := hML.2 m (by omega)
    rw [HX.out] at hc
    obtain ⟨p, p0, p1, p2, p3, p4⟩ := hc.parts
    clear hc hML
    have R := R1.mono b2
    have B2 := belowCall B1 b2
    obtain ⟨⟨hBl, q0, q1, q2, q3, q4⟩, z0, z1, z2, z3, z4⟩ := R.parts
    have e1 : ((m + 1 : Nat) : Int) - 1 = (m : Int) := by omega
    have hi0 : (0 : Int) ≤ (m : Int) := by omega
    have e2 : (((m + 1 : Nat) : Int) == 0) = false := by simp; omega
    go_wp2
    obtain ⟨t0, t1, t2, t3, t4⟩ := R.stored x0 x1 x2 x3 x4 rfl
    exact bodyPost_ret (v := .tuple #[.agg #[.int .i64 x0, .string x1, .string x2, .int .i64 x3, .bool x4], .int .i64 0]) (by simp [results, Try.results12, go_sem, t0, t1, t2, t3, t4]) rfl ⟨⟨_, _, _, _, _, _, HC.out, rfl⟩, below_st B2 (Nat.le_refl _) rfl⟩
end Go.Proofs.Ytichcfahmdlndab
