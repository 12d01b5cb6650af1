/- The laws' own helpers a2Long and a2At, and bytes that came in. -/
import Derived.Test.YtlbphdbcjhggjaaDoorB8
import Derived.Test.YtlbphdbcjhggjaaDoorB3
namespace Go.Proofs.YtlbphdbcjhggjaaDoor
open Go.ChangeShapes Go.WideShapes Go.ChangeAt Go.RowKit

theorem LstB.of_row {w : World} {a : Option Addr} {len cap : Nat} {zs : List Int} (h : IsRow .u8 w a len cap zs) : LstB w w.heap.size a len := by
  rcases h with ⟨rfl, rfl, rfl, rfl⟩ | ⟨x, rfl, h1, h2, h3, h4, h5⟩
  · intro i hi; omega
  · intro i hi
    obtain ⟨b, off, rfl, hc⟩ := ints_at h4 (by omega)
    have hw := h5 (zs.getD i 0) (by rw [List.getD_eq_getElem?_getD, List.getElem?_eq_getElem (by omega)]; exact List.getElem_mem _)
    have hw2 := bounds_u8 hw
    exact ⟨b, off, _, rfl, cell_lt (hc 0 (by omega)), hc i (by omega), hw2.1, hw2.2⟩
theorem a2Long_any (a b : Option Addr) (len cap len' cap' : Nat) (w : World) :
    Calls Tryd.prog 4 #[.slice a len cap, .slice b len' cap'] w fun e w' => e = .returned (.bool (decide (3000 < (len : Int)) || decide (3000 < (len' : Int)))) ∧ w = w' := by
  cases h1 : decide ((3000 : Int) < (len : Int))
  all_goals
    go_enter Tryd.func4, Tryd.ntmps4
    go_wp2
    go_ret
    exact ⟨by simp, rfl⟩
end Go.Proofs.YtlbphdbcjhggjaaDoor
