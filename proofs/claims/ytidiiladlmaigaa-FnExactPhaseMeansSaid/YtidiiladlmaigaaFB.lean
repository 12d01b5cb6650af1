/- The bin of a phase: the program's promoted methods. -/
import Derived.Test.YtidiiladlmaigaaF1
namespace Go.Proofs.Ytidiiladlmaigaa
open Go.ChangeShapes Go.WideShapes Go.ChangeAt Go.RowKit Go.Deep

theorem bp_fresh (e p b : Int) (w : World) : w.heap.size < (w.alloc (.cells #[.int .i64 e, .int .i64 p, .int .i64 b] 78)).heap.size ∧ (w.alloc (.cells #[.int .i64 e, .int .i64 p, .int .i64 b] 78)).cell? ⟨w.heap.size, 0, none⟩ = some (.int .i64 e) ∧ (w.alloc (.cells #[.int .i64 e, .int .i64 p, .int .i64 b] 78)).cell? ⟨w.heap.size, 1, none⟩ = some (.int .i64 p) ∧ (w.alloc (.cells #[.int .i64 e, .int .i64 p, .int .i64 b] 78)).cell? ⟨w.heap.size, 2, none⟩ = some (.int .i64 b) := by
  refine ⟨by simp, ?_, ?_, ?_⟩ <;> rw [World.cell?_alloc_new] <;> rfl
theorem bnI_big {e p b t : Int} (hp : 1 ≤ p) (hp2 : p ≤ 1000000) (hb : 1 ≤ b) (hb2 : b ≤ 1000) : 0 ≤ b * phs e p t ∧ b * phs e p t ≤ 1000000000 := by
  obtain ⟨h1, h2⟩ := phs_bd (e := e) (t := t) hp
  have a := Int.mul_le_mul hb2 (show phs e p t ≤ 1000000 by omega) h1 (by omega)
  have c := Int.mul_nonneg (show 0 ≤ b by omega) h1
  omega
set_option maxHeartbeats 1000000 in
theorem binOf_any (e p b t : Int) (w : World) (h1 : 0 ≤ e) (h2 : e ≤ 10000000) (h3 : 1 ≤ p) (h4 : p ≤ 1000000) (h5 : 0 ≤ t) (h6 : t ≤ 20000000) (h7 : 1 ≤ b) (h8 : b ≤ 1000) :
    Calls Try.prog 68 #[.agg #[.int .i64 e, .int .i64 p, .int .i64 b], .int .i64 t] w fun x w' => x = .returned (.int .i64 (bnI e p b t)) ∧ Below w.heap.size w w' := by
  have hb := bnI_big (e := e) (t := t) h3 h4 h7 h8
  have hq := tdiv_bd (b * phs e p t) p 1000000000 (by omega) (by omega)
  have hne : ¬ p = 0 := by omega
  have HP : ∀ W, Calls Try.prog 78 #[.agg #[.int .i64 e, .int .i64 p], .int .i64 t] W fun x w' => x = .returned (.int .i64 (phs e p t)) ∧ Below W.heap.size W w' := fun W => iPhs_any e p t W h1 h2 h3 h4 h5 h6
  have HV : Hid ((b * phs e p t).tdiv p = bnI e p b t) := Lib.hid rfl
  generalize phs e p t = f at hb hq HP HV
  replace HV : Hid (IntKind.i64.wrap ((IntKind.i64.wrap (b * f)).tdiv p) = bnI e p b t) := Lib.hid (by rw [IntWalk.i64_in (b * f) (by omega), IntWalk.i64_in _ (by omega)]; exact HV.out)
  obtain ⟨hlt, k0, k1, k2⟩ := bp_fresh e p b w
  have B1 : Below w.heap.size w (w.alloc (.cells #[.int .i64 e, .int .i64 p, .int .i64 b] 78)) := (Below.refl _ w).alloc (Nat.le_refl _) _
  go_enter Try.func68, Try.ntmps68
  go_wp2_with fail
  generalize w.alloc (.cells #[.int .i64 e, .int .i64 p, .int .i64 b] 78) = v at hlt k0 k1 k2 B1 ⊢
  go_region_held3 (fun W' => W'.cell? ⟨w.heap.size, 0, none⟩ = some (.int .i64 e) ∧ W'.cell? ⟨w.heap.size, 1, none⟩ = some (.int .i64 p) ∧ W'.cell? ⟨w.heap.size, 2, none⟩ = some (.int .i64 b)) (refine ⟨?_, ?_, ?_⟩ <;> first | assumption | exact ((show Below v.heap.size v _ by (repeat (first | assumption | exact Below.refl _ _ | refine belowDN ?_ _ | refine Below.drew ?_ | refine Below.setCell ?_ (by first | omega | (simp <;> omega)) _ | refine Below.alloc ?_ (by first | omega | (simp <;> omega)) _ | refine belowCall ?_ (by assumption)))).cell (p := ⟨w.heap.size, 0, none⟩) hlt).trans k0 | exact ((show Below v.heap.size v _ by (repeat (first | assumption | exact Below.refl _ _ | refine belowDN ?_ _ | refine Below.drew ?_ | refine Below.setCell ?_ (by first | omega | (simp <;> omega)) _ | refine Below.alloc ?_ (by first | omega | (simp <;> omega)) _ | refine belowCall ?_ (by assumption)))).cell (p := ⟨w.heap.size, 1, none⟩) hlt).trans k1 | exact ((show Below v.heap.size v _ by (repeat (first | assumption | exact Below.refl _ _ | refine belowDN ?_ _ | refine Below.drew ?_ | refine Below.setCell ?_ (by first | omega | (simp <;> omega)) _ | refine Below.alloc ?_ (by first | omega | (simp <;> omega)) _ | refine belowCall ?_ (by assumption)))).cell (p := ⟨w.heap.size, 2, none⟩) hlt).trans k2) (first | (go_at_call 78; refine (HP _).mono ?_; rintro x wA ⟨rfl, bA⟩))
  all_goals
    go_wp2
    go_ret
    exact ⟨ret_int HV.out, belowCall B1 (by (repeat (first | assumption | exact Below.refl _ _ | refine belowDN ?_ _ | refine Below.drew ?_ | refine Below.setCell ?_ (by first | omega | (simp <;> omega)) _ | refine Below.alloc ?_ (by first | omega | (simp <;> omega)) _ | refine belowCall ?_ (by assumption))))⟩
end Go.Proofs.Ytidiiladlmaigaa
