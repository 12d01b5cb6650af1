/- Contracts of chapter 3's functions of dates: the day of a date, the laws' copying and comparing of dates. -/
import Derived.Test.YtfebellnmdfpiabDoorT5
namespace Go.Proofs.YtfebellnmdfpiabDoor
open Go.ChangeShapes Go.WideShapes Go.ChangeAt Go.RowKit

def pr2 (a b : Int) : Value := .tuple #[.int .i64 a, .int .i64 b]
def dnV (y m d : Int) : Value := if vdB y m d then pr2 (dnum y m.toNat d) 0 else pr2 0 1
theorem dnV_form (y m d : Int) : ∃ n c, dnV y m d = .tuple #[.int .i64 n, .int .i64 c] := by
  unfold dnV pr2; split <;> exact ⟨_, _, rfl⟩
theorem gvar_lt {P : Program} {w : World} {n : String} {cs : Array Value} {g : Nat} (hg : P.globalNamed n = some g) (h : w.var? P n = some cs) : g < w.heap.size := by
  by_cases hb : g < w.heap.size
  · exact hb
  · unfold World.var? at h
    rw [hg] at h
    simp only [Option.bind_some] at h
    rw [Array.getElem?_eq_none (by omega)] at h
    simp at h
theorem mon_global : Tryd.prog.globalNamed "loop.example/g01026/impl.monthLengths" = some 0 := by kernel_rfl
theorem mon_type : (Tryd.prog.globals[0]?).map (·.type) = some 72 := by kernel_rfl
theorem mon_tab {w : World} (h : Lib.TabIs Tryd.prog w "loop.example/g01026/impl.monthLengths" .i64 mlL) : Mon w := fun k hk => by
  have hc := h.cell mon_global k (by simpa [mlL] using hk)
  refine ⟨?_, gvar_lt mon_global h⟩
  rw [hc]; simp [mlB, List.getD]
theorem toDate_any (y m d : Int) (w : World) :
    Calls Tryd.prog 11 #[.agg #[.int .i64 y, .int .i64 m, .int .i64 d]] w fun e w' => e = .returned (.agg #[.int .i64 y, .int .i64 m, .int .i64 d]) ∧ Below w.heap.size w w' := by
  go_enter Tryd.func11, Tryd.ntmps11
  go_wp2
  exact bodyPost_ret (v := .agg #[.int .i64 y, .int .i64 m, .int .i64 d]) (by simp [results, Tryd.results11, go_sem]) rfl ⟨rfl, by (repeat (first | assumption | exact Below.refl _ _ | refine belowDN ?_ _ | refine Below.drew ?_ | refine Below.setCell ?_ (by first | omega | (simp <;> omega)) _ | refine Below.alloc ?_ (by first | omega | (simp <;> omega)) _ | refine belowCall ?_ (by assumption)))⟩
theorem eqDate_any (a b c a' b' c' : Int) (w : World) :
    Calls Tryd.prog 15 #[.agg #[.int .i64 a, .int .i64 b, .int .i64 c], .agg #[.int .i64 a', .int .i64 b', .int .i64 c']] w fun e w' => e = .returned (.bool (a == a' && b == b' && c == c')) ∧ Below w.heap.size w w' := by
  cases h1 : (a == a')
  · have h1' : (a != a') = true := by simp [bne, h1]
    go_enter Tryd.func15, Tryd.ntmps15; go_wp2; go_ret; exact ⟨by simp [*], by (repeat (first | assumption | exact Below.refl _ _ | refine belowDN ?_ _ | refine Below.drew ?_ | refine Below.setCell ?_ (by first | omega | (simp <;> omega)) _ | refine Below.alloc ?_ (by first | omega | (simp <;> omega)) _ | refine belowCall ?_ (by assumption)))⟩
  · have h1' : (a != a') = false := by simp [bne, h1]
    cases h2 : (b == b')
    · have h2' : (b != b') = true := by simp [bne, h2]
      go_enter Tryd.func15, Tryd.ntmps15; go_wp2; go_ret; exact ⟨by simp [*], by (repeat (first | assumption | exact Below.refl _ _ | refine belowDN ?_ _ | refine Below.drew ?_ | refine Below.setCell ?_ (by first | omega | (simp <;> omega)) _ | refine Below.alloc ?_ (by first | omega | (simp <;> omega)) _ | refine belowCall ?_ (by assumption)))⟩
    · have h2' : (b != b') = false := by simp [bne, h2]
      cases h3 : (c == c')
      · have h3' : (c != c') = true := by simp [bne, h3]
        go_enter Tryd.func15, Tryd.ntmps15; go_wp2; go_ret; exact ⟨by simp [*], by (repeat (first | assumption | exact Below.refl _ _ | refine belowDN ?_ _ | refine Below.drew ?_ | refine Below.setCell ?_ (by first | omega | (simp <;> omega)) _ | refine Below.alloc ?_ (by first | omega | (simp <;> omega)) _ | refine belowCall ?_ (by assumption)))⟩
      · have h3' : (c != c') = false := by simp [bne, h3]
        go_enter Tryd.func15, Tryd.ntmps15; go_wp2; go_ret; exact ⟨by simp [*], by (repeat (first | assumption | exact Below.refl _ _ | refine belowDN ?_ _ | refine Below.drew ?_ | refine Below.setCell ?_ (by first | omega | (simp <;> omega)) _ | refine Below.alloc ?_ (by first | omega | (simp <;> omega)) _ | refine belowCall ?_ (by assumption)))⟩
end Go.Proofs.YtfebellnmdfpiabDoor
