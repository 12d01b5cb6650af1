/- middleOf, the program's median; the differences of two observers in plain lists. -/
import Derived.Test.YtfnjndbnogeddaaN2
import Derived.Test.YtfnjndbnogeddaaB2
import Derived.Test.YtfnjndbnogeddaaY2
namespace Go.Proofs.Ytfnjndbnogeddaa
open Go.ChangeShapes Go.WideShapes Go.ChangeAt Go.RowKit Go.Deep

def MedE (xs : List Int) (w : World) (e : Ending) (w' : World) : Prop := ∃ ys, Rising ys ∧ ys.Perm xs ∧ e = .returned (.int .i64 (medP ys)) ∧ Below w.heap.size w w'
set_option maxHeartbeats 1000000 in
theorem middle_any (a : Option Addr) (n c : Nat) (xs : List Int) (w : World) (h : Lst w a n xs) (hn : n ≤ 1048576) (h0 : 0 < n) (hx : ∀ x ∈ xs, -1000000000000 ≤ x ∧ x ≤ 1000000000000) :
    Calls Try.prog 70 #[.slice a n c] w (MedE xs w) := by
  have hl : (n : Int) ≤ 1048576 := by omega
  have HL := Lib.hid h.1
  have htd : (n : Int).tdiv 2 = ((n / 2 : Nat) : Int) := by rw [Int.tdiv_eq_ediv_of_nonneg (by omega)]; omega
  have htd1 : ((n : Int) - 1).tdiv 2 = (((n - 1) / 2 : Nat) : Int) := by rw [Int.tdiv_eq_ediv_of_nonneg (by omega)]; omega
  have h1n : (1 : Int) ≤ (n : Int) := by omega
  have hz : ∀ (W : World) (hW : Lst W a n xs) (i : Nat) (hi : i < n) (z : Int), z = (i : Int) → Calls Try.prog 90 #[.slice a n c, .int .i64 z] W (NthE xs i W) := fun W hW i hi z hz => by
    subst hz; exact nth_any n a n c xs i W (Nat.le_refl _) hW hi hn
  have HZ := Lib.hid hz
  have HX := Lib.hid hx
  clear hz hx
  go_enter Try.func70, Try.ntmps70
  go_wp2_with fail
  refine (HZ.out w h ((n - 1) / 2) (by omega) _ (by omega)).mono ?_
  rintro e w2 ⟨lo, rfl, hlo, b2⟩
  have l1 := HX.out lo hlo.mem
  have HLO := Lib.hid hlo
  clear hlo
  go_wp2_with fail
  refine (HZ.out w2 (h.mono b2) (n / 2) (by omega) _ (by omega)).mono ?_
  rintro e w3 ⟨hh, rfl, hhi, b3⟩
  have l2 := HX.out hh hhi.mem
  have HHI := Lib.hid hhi
  clear hhi
  obtain ⟨l11, l12⟩ := l1
  obtain ⟨l21, l22⟩ := l2
  have hV : Hid (∃ ys, Rising ys ∧ ys.Perm xs ∧ rnd (lo + hh) 2 = medP ys) := Lib.hid (by
    obtain ⟨ys, hr, hp⟩ := rising_of xs
    exact ⟨ys, hr, hp, med_is hr hp (by rw [HL.out]; exact h0) (by rw [HL.out]; exact HLO.out) (by rw [HL.out]; exact HHI.out)⟩)
  go_wp2_with (go_at_call 91; refine (nearest_any _ _ _ (by omega) (by omega) (by omega) (by omega)).mono ?_; rintro e w' ⟨rfl, hbel⟩; obtain ⟨hc, hf⟩ := bcell hbel; have hz := hbel.size; (try simp at hz); (try simp only [Nat.add_one_le_iff] at hz); (try (have hzw : w.heap.size < w'.heap.size := by omega)))
  go_ret
  obtain ⟨ys, hr, hp, hv⟩ := hV.out
  exact ⟨ys, hr, hp, by rw [← hv]; rfl, by (repeat (first | assumption | exact Below.refl _ _ | refine belowDN ?_ _ | refine Below.drew ?_ | refine Below.setCell ?_ (by first | omega | (simp <;> omega)) _ | refine Below.alloc ?_ (by first | omega | (simp <;> omega)) _ | refine belowCall ?_ (by assumption)))⟩
/-! ### Differences -/
/-- a common estimate turned -/
def turnC (x : Cm) : Cm := (x.2.1, x.1, -x.2.2)
/-- all as they are, and turned -/
def bothL (xs : List Cm) : List Cm := xs.flatMap fun x => [x, turnC x]
def isAB (a b : Int) (x : Cm) : Bool := x.1 == a && x.2.1 == b
/-- the differences of b against a -/
def difL (a b : Int) (xs : List Cm) : List Int := ((bothL xs).filter (isAB a b)).map fun x => x.2.2
theorem bothL_app (xs ys : List Cm) : bothL (xs ++ ys) = bothL xs ++ bothL ys := by simp [bothL]
theorem bothL_one (x : Cm) : bothL [x] = [x, turnC x] := rfl
theorem bothL_len (xs : List Cm) : (bothL xs).length = 2 * xs.length := by
  induction xs with
  | nil => rfl
  | cons x xs ih => simp only [bothL, List.flatMap_cons, List.length_append, List.length_cons, List.length_nil] at *; omega
theorem difL_app (a b : Int) (xs ys : List Cm) : difL a b (xs ++ ys) = difL a b xs ++ difL a b ys := by simp [difL, bothL_app, List.filter_append]
theorem difL_len (a b : Int) (xs : List Cm) : (difL a b xs).length ≤ 2 * xs.length := by
  rw [difL, List.length_map, ← bothL_len]
  exact List.length_filter_le _ _
/-- what one estimate adds -/
def difO (a b : Int) (x : Cm) : List Int := (if isAB a b x then [x.2.2] else []) ++ (if isAB b a x then [-x.2.2] else [])
theorem difL_one (a b : Int) (x : Cm) : difL a b [x] = difO a b x := by
  have h : isAB a b (turnC x) = isAB b a x := by simp [isAB, turnC, Bool.and_comm]
  rw [difL, bothL_one]
  simp only [List.filter_cons, List.filter_nil, h, difO]
  cases isAB a b x <;> cases isAB b a x <;> rfl
theorem difL_step {a b : Int} {xs : List Cm} {k : Nat} {x : Cm} (hk : k < xs.length) (hx : xs[k]?.getD cm0 = x) : difL a b (xs.take (k + 1)) = difL a b (xs.take k) ++ difO a b x := by
  rw [List.take_succ_eq_append_getElem hk, difL_app]
  have e : xs[k] = x := by simpa [hk] using hx
  rw [e, difL_one]
theorem cm_bd {c x0 x1 x2 : Int} (h : cmB c (x0, x1, x2) = true) : 0 ≤ x0 ∧ x0 ≤ c - 1 ∧ 0 ≤ x1 ∧ x1 ≤ c - 1 ∧ x0 ≠ x1 ∧ -2000 ≤ x2 ∧ x2 ≤ 2000 := by
  simp only [cmB, Bool.and_eq_true, inB, decide_eq_true_eq, bne_iff_ne] at h
  obtain ⟨⟨⟨⟨h1, h2⟩, h3, h4⟩, h5⟩, h6, h7⟩ := h
  exact ⟨h1, h2, h3, h4, h5, h6, h7⟩
theorem bothL_mem {c : Int} {xs : List Cm} (h : xs.all (cmB c) = true) : ∀ x ∈ bothL xs, cmB c x = true := by
  intro x hx
  rw [List.all_eq_true] at h
  simp only [bothL, List.mem_flatMap] at hx
  obtain ⟨y, hy, hx⟩ := hx
  have hb := h y hy
  simp only [List.mem_cons, List.not_mem_nil, or_false] at hx
  rcases hx with rfl | rfl
  · exact hb
  · obtain ⟨p, q, d⟩ := y
    obtain ⟨h1, h2, h3, h4, h5, h6, h7⟩ := cm_bd hb
    show cmB c (q, p, -d) = true
    simp only [cmB, Bool.and_eq_true, inB, decide_eq_true_eq, bne_iff_ne]
    exact ⟨⟨⟨⟨h3, h4⟩, h1, h2⟩, fun e => h5 e.symm⟩, by omega, by omega⟩
theorem difL_bd {c a b : Int} {xs : List Cm} (h : xs.all (cmB c) = true) : ∀ d ∈ difL a b xs, -2000 ≤ d ∧ d ≤ 2000 := by
  intro d hd
  simp only [difL, List.mem_map, List.mem_filter] at hd
  obtain ⟨x, ⟨hx, _⟩, rfl⟩ := hd
  have := bothL_mem h x hx
  simp only [cmB, Bool.and_eq_true] at this
  exact inB_iff.1 this.2
theorem cm_all {c : Int} {xs : List Cm} {n k : Nat} (h : xs.all (cmB c) = true) (hn : xs.length = n) (hk : k < n) : cmB c (xs[k]?.getD cm0) = true := by
  rw [List.all_eq_true] at h
  have hk' : k < xs.length := by omega
  have := h xs[k] (List.getElem_mem _)
  simpa [hk'] using this
theorem cms_parts {c : Int} {xs : List Cm} (h : cmsB c xs = true) : 1 ≤ c ∧ c ≤ 40 ∧ xs.length ≤ 60 ∧ xs.all (cmB c) = true := by
  simp only [cmsB, Bool.and_eq_true, decide_eq_true_eq] at h
  obtain ⟨h1, h2⟩ := inB_iff.1 h.1.1
  exact ⟨h1, h2, h.1.2, h.2⟩
end Go.Proofs.Ytfnjndbnogeddaa
