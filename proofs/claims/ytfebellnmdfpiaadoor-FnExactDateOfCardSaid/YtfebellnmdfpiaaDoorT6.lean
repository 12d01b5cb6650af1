/- Contracts of chapter 3's functions of dates: the day of a date, the laws' copying and comparing of dates. -/
import Derived.Test.YtfebellnmdfpiaaDoorT5
namespace Go.Proofs.YtfebellnmdfpiaaDoor
open Go.ChangeShapes Go.WideShapes Go.ChangeAt Go.RowKit

def pr2 (a b : Int) : Value := .tuple #[.int .i64 a, .int .i64 b]
def dnV (y m d : Int) : Value := if vdB y m d then pr2 (dnum y m.toNat d) 0 else pr2 0 1
theorem dnV_form (y m d : Int) : ∃ n c, dnV y m d = .tuple #[.int .i64 n, .int .i64 c] := by
  unfold dnV pr2; split <;> exact ⟨_, _, rfl⟩
theorem gvar_lt {P : Program} {w : World} {n : String} {cs : Array Value} {g : Nat} (hg : P.globalNamed n = some g) (h : w.var? P n = some cs) : g < w.heap.size := by
  by_cases hb : g < w.heap.size
  · exact hb
  · unfold World.var? at h
    rw [hg] at h
    simp only [Option.bind_some] at h
    rw [Array.getElem?_eq_none (by omega)] at h
    simp at h
theorem mon_global : Tryd.prog.globalNamed "loop.example/g01026/impl.monthLengths" = some 0 := by kernel_rfl
theorem mon_type : (Tryd.prog.globals[0]?).map (·.type) = some 43 := by kernel_rfl
theorem mon_tab {w : World} (h : Lib.TabIs Tryd.prog w "loop.example/g01026/impl.monthLengths" .i64 mlL) : Mon w := fun k hk => by
  have hc := h.cell mon_global k (by simpa [mlL] using hk)
  refine ⟨?_, gvar_lt mon_global h⟩
  rw [hc]; simp [mlB, List.getD]
theorem sDayNumber_any (y m d : Int) (w : World) :
    Calls Tryd.prog 12 #[.agg #[.int .i64 y, .int .i64 m, .int .i64 d]] w fun e w' => e = .returned (dnV y m d) ∧ Below w.heap.size w w' := by
  cases hv : vdB y m d
  · have HD : Hid (dnV y m d = pr2 0 1) := by rw [dnV, hv]; exact rfl
    go_enter Tryd.func12, Tryd.ntmps12
    go_wp2_with (go_at_call 6; refine (sValidDate_any _ _ _ _).mono ?_; rintro e w' ⟨rfl, hbel⟩; obtain ⟨hc, hf⟩ := bcell hbel; have hz := hbel.size; (try simp at hz); (try simp only [Nat.add_one_le_iff] at hz); (try (have hzw : w.heap.size < w'.heap.size := by omega)))
    go_ret2
    exact ⟨by rw [HD.out]; rfl, by (repeat (first | assumption | exact Below.refl _ _ | refine belowDN ?_ _ | refine Below.drew ?_ | refine Below.setCell ?_ (by first | omega | (simp <;> omega)) _ | refine Below.alloc ?_ (by first | omega | (simp <;> omega)) _ | refine belowCall ?_ (by assumption)))⟩
  · have HD : Hid (dnV y m d = pr2 (dnum y m.toNat d) 0) := by rw [dnV, hv]; exact rfl
    obtain ⟨_, k, rfl, ⟨h1, h2, h3, h4, h5⟩, h6, h7, h8, h9⟩ := vdB_parts hv
    rw [Int.toNat_natCast] at HD
    go_enter Tryd.func12, Tryd.ntmps12
    go_wp2_with (first | (go_at_call 6; refine (sValidDate_any _ _ _ _).mono ?_; rintro e w' ⟨rfl, hbel⟩; obtain ⟨hc, hf⟩ := bcell hbel; have hz := hbel.size; (try simp at hz); (try simp only [Nat.add_one_le_iff] at hz); (try (have hzw : w.heap.size < w'.heap.size := by omega))) | (go_at_call 15; refine (l03Number_any _ _ _ _ (by omega) (by omega) (by omega) (by omega) (by omega) (by omega)).mono ?_; rintro e w2 ⟨rfl, hbel2⟩))
    go_ret2
    exact ⟨by rw [HD.out]; rfl, by (repeat (first | assumption | exact Below.refl _ _ | refine belowDN ?_ _ | refine Below.drew ?_ | refine Below.setCell ?_ (by first | omega | (simp <;> omega)) _ | refine Below.alloc ?_ (by first | omega | (simp <;> omega)) _ | refine belowCall ?_ (by assumption)))⟩
theorem iDayNumber_any (y m d : Int) (w : World) (hM : Mon w) (hwf : (Lit.int .i64 d).wf = true) :
    Calls Tryd.prog 13 #[.agg #[.int .i64 y, .int .i64 m, .int .i64 d]] w fun e w' => e = .returned (dnV y m d) ∧ Below w.heap.size w w' := by
  cases hv : vdB y m d
  · have HD : Hid (dnV y m d = pr2 0 1) := by rw [dnV, hv]; exact rfl
    go_enter Tryd.func13, Tryd.ntmps13
    go_wp2_with (go_at_call 8; refine (iValidDate_any _ _ _ _ (hM.mono (by (repeat (first | assumption | exact Below.refl _ _ | refine belowDN ?_ _ | refine Below.drew ?_ | refine Below.setCell ?_ (by first | omega | (simp <;> omega)) _ | refine Below.alloc ?_ (by first | omega | (simp <;> omega)) _ | refine belowCall ?_ (by assumption))))) hwf).mono ?_; rintro e w' ⟨rfl, hbel⟩; obtain ⟨hc, hf⟩ := bcell hbel; have hz := hbel.size; (try simp at hz); (try simp only [Nat.add_one_le_iff] at hz); (try (have hzw : w.heap.size < w'.heap.size := by omega)))
    go_ret2
    exact ⟨by rw [HD.out]; rfl, by (repeat (first | assumption | exact Below.refl _ _ | refine belowDN ?_ _ | refine Below.drew ?_ | refine Below.setCell ?_ (by first | omega | (simp <;> omega)) _ | refine Below.alloc ?_ (by first | omega | (simp <;> omega)) _ | refine belowCall ?_ (by assumption)))⟩
  · have HD : Hid (dnV y m d = pr2 (dnum y m.toNat d) 0) := by rw [dnV, hv]; exact rfl
    obtain ⟨_, k, rfl, ⟨h1, h2, h3, h4, h5⟩, h6, h7, h8, h9⟩ := vdB_parts hv
    rw [Int.toNat_natCast, ← sh_num y k d h2 h3] at HD
    have hk : shM k < 12 := by unfold shM; split <;> omega
    have hY : 2000 ≤ shY y k ∧ shY y k ≤ 2274 := by unfold shY; split <;> omega
    obtain ⟨hY1, hY2⟩ := hY
    go_enter Tryd.func13, Tryd.ntmps13
    go_wp2_with (go_at_call 8; refine (iValidDate_any _ _ _ _ (hM.mono (by (repeat (first | assumption | exact Below.refl _ _ | refine belowDN ?_ _ | refine Below.drew ?_ | refine Below.setCell ?_ (by first | omega | (simp <;> omega)) _ | refine Below.alloc ?_ (by first | omega | (simp <;> omega)) _ | refine belowCall ?_ (by assumption))))) hwf).mono ?_; rintro e w' ⟨rfl, hbel⟩; obtain ⟨hc, hf⟩ := bcell hbel; have hz := hbel.size; (try simp at hz); (try simp only [Nat.add_one_le_iff] at hz); (try (have hzw : w.heap.size < w'.heap.size := by omega)))
    refine (shifted_any _ _ _ _ (by omega) (by omega) (by omega) hwf).mono ?_
    rintro e w1 ⟨x, rfl, hx, hb1⟩
    have hxe := hx h4
    subst hxe
    unfold dt
    go_wp2_with (go_at_call 20; refine (number_any _ _ _ _ ((hM.mono (by (repeat (first | assumption | exact Below.refl _ _ | refine belowDN ?_ _ | refine Below.drew ?_ | refine Below.setCell ?_ (by first | omega | (simp <;> omega)) _ | refine Below.alloc ?_ (by first | omega | (simp <;> omega)) _ | refine belowCall ?_ (by assumption))))).mono hb1) (by omega) (by omega) (by omega) (by omega) (by omega)).mono ?_; rintro e w2 ⟨rfl, hb2⟩)
    go_ret2
    exact ⟨by rw [HD.out]; rfl, by (repeat (first | assumption | exact Below.refl _ _ | refine belowDN ?_ _ | refine Below.drew ?_ | refine Below.setCell ?_ (by first | omega | (simp <;> omega)) _ | refine Below.alloc ?_ (by first | omega | (simp <;> omega)) _ | refine belowCall ?_ (by assumption)))⟩
theorem toDate_any (y m d : Int) (w : World) :
    Calls Tryd.prog 7 #[.agg #[.int .i64 y, .int .i64 m, .int .i64 d]] w fun e w' => e = .returned (.agg #[.int .i64 y, .int .i64 m, .int .i64 d]) ∧ Below w.heap.size w w' := by
  go_enter Tryd.func7, Tryd.ntmps7
  go_wp2
  exact bodyPost_ret (v := .agg #[.int .i64 y, .int .i64 m, .int .i64 d]) (by simp [results, Tryd.results7, go_sem]) rfl ⟨rfl, by (repeat (first | assumption | exact Below.refl _ _ | refine belowDN ?_ _ | refine Below.drew ?_ | refine Below.setCell ?_ (by first | omega | (simp <;> omega)) _ | refine Below.alloc ?_ (by first | omega | (simp <;> omega)) _ | refine belowCall ?_ (by assumption)))⟩
theorem eqDate_any (a b c a' b' c' : Int) (w : World) :
    Calls Tryd.prog 11 #[.agg #[.int .i64 a, .int .i64 b, .int .i64 c], .agg #[.int .i64 a', .int .i64 b', .int .i64 c']] w fun e w' => e = .returned (.bool (a == a' && b == b' && c == c')) ∧ Below w.heap.size w w' := by
  cases h1 : (a == a')
  · have h1' : (a != a') = true := by simp [bne, h1]
    go_enter Tryd.func11, Tryd.ntmps11; go_wp2; go_ret; exact ⟨by simp [*], by (repeat (first | assumption | exact Below.refl _ _ | refine belowDN ?_ _ | refine Below.drew ?_ | refine Below.setCell ?_ (by first | omega | (simp <;> omega)) _ | refine Below.alloc ?_ (by first | omega | (simp <;> omega)) _ | refine belowCall ?_ (by assumption)))⟩
  · have h1' : (a != a') = false := by simp [bne, h1]
    cases h2 : (b == b')
    · have h2' : (b != b') = true := by simp [bne, h2]
      go_enter Tryd.func11, Tryd.ntmps11; go_wp2; go_ret; exact ⟨by simp [*], by (repeat (first | assumption | exact Below.refl _ _ | refine belowDN ?_ _ | refine Below.drew ?_ | refine Below.setCell ?_ (by first | omega | (simp <;> omega)) _ | refine Below.alloc ?_ (by first | omega | (simp <;> omega)) _ | refine belowCall ?_ (by assumption)))⟩
    · have h2' : (b != b') = false := by simp [bne, h2]
      cases h3 : (c == c')
      · have h3' : (c != c') = true := by simp [bne, h3]
        go_enter Tryd.func11, Tryd.ntmps11; go_wp2; go_ret; exact ⟨by simp [*], by (repeat (first | assumption | exact Below.refl _ _ | refine belowDN ?_ _ | refine Below.drew ?_ | refine Below.setCell ?_ (by first | omega | (simp <;> omega)) _ | refine Below.alloc ?_ (by first | omega | (simp <;> omega)) _ | refine belowCall ?_ (by assumption)))⟩
      · have h3' : (c != c') = false := by simp [bne, h3]
        go_enter Tryd.func11, Tryd.ntmps11; go_wp2; go_ret; exact ⟨by simp [*], by (repeat (first | assumption | exact Below.refl _ _ | refine belowDN ?_ _ | refine Below.drew ?_ | refine Below.setCell ?_ (by first | omega | (simp <;> omega)) _ | refine Below.alloc ?_ (by first | omega | (simp <;> omega)) _ | refine belowCall ?_ (by assumption)))⟩
end Go.Proofs.YtfebellnmdfpiaaDoor
