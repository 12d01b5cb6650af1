/- The laws' own helpers a2Long and a2At, and bytes that came in. -/
import Derived.Test.YtidiiladlmaigaaB8
import Derived.Test.YtidiiladlmaigaaB3
namespace Go.Proofs.Ytidiiladlmaigaa
open Go.ChangeShapes Go.WideShapes Go.ChangeAt Go.RowKit

theorem LstB.of_row {w : World} {a : Option Addr} {len cap : Nat} {zs : List Int} (h : IsRow .u8 w a len cap zs) : LstB w w.heap.size a len := by
  rcases h with ⟨rfl, rfl, rfl, rfl⟩ | ⟨x, rfl, h1, h2, h3, h4, h5⟩
  · intro i hi; omega
  · intro i hi
    obtain ⟨b, off, rfl, hc⟩ := ints_at h4 (by omega)
    have hw := h5 (zs.getD i 0) (by rw [List.getD_eq_getElem?_getD, List.getElem?_eq_getElem (by omega)]; exact List.getElem_mem _)
    have hw2 := bounds_u8 hw
    exact ⟨b, off, _, rfl, cell_lt (hc 0 (by omega)), hc i (by omega), hw2.1, hw2.2⟩
theorem a2Long_any (a b : Option Addr) (len cap len' cap' : Nat) (w : World) :
    Calls Try.prog 21 #[.slice a len cap, .slice b len' cap'] w fun e w' => e = .returned (.bool (decide (3000 < (len : Int)) || decide (3000 < (len' : Int)))) ∧ w = w' := by
  cases h1 : decide ((3000 : Int) < (len : Int))
  all_goals
    go_enter Try.func21, Try.ntmps21
    go_wp2
    go_ret
    exact ⟨by simp, rfl⟩
def AtPost (w : World) (n : Int) (e : Ending) (w' : World) : Prop := ∃ v : Int, e = .returned (.int .i64 v) ∧ 0 ≤ v ∧ v ≤ n - 1 ∧ w = w'
theorem a2At_any (g : Nat) (a : Option Addr) (len cap t : Nat) (n : Int) (w : World) (hb : LstB w g a len) (_hl : len ≤ 1048576) (hn : 1 ≤ n) (_ht : t ≤ 1000000) :
    Calls Try.prog 27 #[.slice a len cap, .int .i64 t, .int .i64 n] w (AtPost w n) := by
  have hn1 : decide (n < 1) = false := by simp; omega
  by_cases hlt : t < len
  · obtain ⟨b, off, v, rfl, _, hc, v0, v1⟩ := hb t hlt
    have e0 := Int.emod_nonneg v (show n ≠ 0 by omega)
    have e1 := Int.emod_lt_of_pos v (show 0 < n by omega)
    have hd : decide ((len : Int) ≤ (t : Int)) = false := by simp; omega
    go_enter Try.func27, Try.ntmps27
    go_wp2
    go_ret
    exact ⟨_, rfl, e0, by omega, rfl⟩
  · have hd : decide ((len : Int) ≤ (t : Int)) = true := by simp; omega
    go_enter Try.func27, Try.ntmps27
    go_wp2
    go_ret
    exact ⟨0, rfl, by omega, by omega, rfl⟩
end Go.Proofs.Ytidiiladlmaigaa
