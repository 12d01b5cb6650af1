/- The magnitudes of all points; AmplitudeOf, both sides. -/
import Derived.Test.YtidiiladlmaigaaJ3
import Derived.Test.YtidiiladlmaigaaJM
import Derived.Test.YtidiiladlmaigaaB5
import Derived.Test.YtidiiladlmaigaaGI
import Derived.Lib.SliceRun
namespace Go.Proofs.Ytidiiladlmaigaa
open Go.ChangeShapes Go.WideShapes Go.ChangeAt Go.RowKit Go.Deep

theorem ownKeepJ {w w' : World} {B e s n : Nat} {v : Value} {xs : List Value} (h : w.ownsRow B e s v n xs) (hb : Below w.heap.size w w') : w'.ownsRow B e s v n xs :=
  h.kept (gBut hb none) (by
    cases hv : v.ownBlock with
    | none => exact .inl rfl
    | some g => exact .inr (by simp))
theorem ptMag_any (x0 x1 : Int) (w : World) :
    Calls Try.prog 47 #[.agg #[.int .i64 x0, .int .i64 x1]] w fun e w' => e = .returned (.int .i64 x1) ∧ Below w.heap.size w w' := by
  go_enter Try.func47, Try.ntmps47
  go_wp2
  go_ret
  exact ⟨rfl, by (repeat (first | assumption | exact Below.refl _ _ | refine belowDN ?_ _ | refine Below.drew ?_ | refine Below.setCell ?_ (by first | omega | (simp <;> omega)) _ | refine Below.alloc ?_ (by first | omega | (simp <;> omega)) _ | refine belowCall ?_ (by assumption)))⟩
theorem mgP_ok {xs : List Pt} {n : Nat} (hn : xs.length = n) (h : okP xs = true) : okMags (mgP xs) = true := by
  obtain ⟨h1, h2, -⟩ := okP_num hn h
  rw [okMags, all_of (n := n) (by rw [mgP_len, hn]) (fun j hj => by rw [mgP_at, magB_iff]; have := h2 j hj; omega), mgP_len, hn]
  simp; omega
def amC (xs : List Pt) : Int := if okP xs then (if xs.length = 0 then 3 else 0) else 1
def amA (xs : List Pt) : Int := if amC xs = 0 then mxTo (mgP xs) xs.length - mnTo (mgP xs) xs.length else 0
theorem am_1 {xs : List Pt} (h : okP xs = false) : amC xs = 1 ∧ amA xs = 0 := by simp [amA, amC, h]
theorem am_3 {xs : List Pt} {n : Nat} (hn : xs.length = n) (h : okP xs = true) (h2 : n = 0) : amC xs = 3 ∧ amA xs = 0 := by
  have : xs.length = 0 := by omega
  simp [amA, amC, h, this]
theorem am_0 {xs : List Pt} {n : Nat} (hn : xs.length = n) (h : okP xs = true) (h2 : 0 < n) : amC xs = 0 ∧ amA xs = mxTo (mgP xs) n - mnTo (mgP xs) n := by
  have : ¬ n = 0 := by omega
  simp [amA, amC, h, hn, this]
theorem mn_bd {xs : List Int} {n : Nat} (h0 : 0 < n) (h : ∀ k, k < n → -2000 ≤ xs[k]?.getD 0 ∧ xs[k]?.getD 0 ≤ 20000) : ∀ k, k ≤ n → (-2000 ≤ mnTo xs k ∧ mnTo xs k ≤ 20000) ∧ -2000 ≤ mxTo xs k ∧ mxTo xs k ≤ 20000
  | 0, _ => ⟨h 0 h0, h 0 h0⟩
  | k + 1, hk => by
    have a := mn_bd h0 h k (by omega)
    have b := h k (by omega)
    simp only [mnTo, mxTo]
    split <;> split <;> omega
theorem mgP_num {xs : List Pt} {n : Nat} (h : ∀ k, k < n → 0 ≤ (xs[k]?.getD pt0).1 ∧ (xs[k]?.getD pt0).1 ≤ 10000000 ∧ -2000 ≤ (xs[k]?.getD pt0).2 ∧ (xs[k]?.getD pt0).2 ≤ 20000) (k : Nat) (hk : k < n) : -2000 ≤ (mgP xs)[k]?.getD 0 ∧ (mgP xs)[k]?.getD 0 ≤ 20000 := by
  rw [mgP_at]; have := h k hk; omega
end Go.Proofs.Ytidiiladlmaigaa
