/- Ephemerides: the methods, the codes, single times; both sides. -/
import Derived.Test.YtcjipmpccmppiaaF0
import Derived.Test.YtcjipmpccmppiaaGPt1
import Derived.Test.YtcjipmpccmppiaaB3
import Derived.Deep.RegionHeld3
namespace Go.Proofs.Ytcjipmpccmppiaa
open Go.ChangeShapes Go.WideShapes Go.ChangeAt Go.RowKit Go.Deep

theorem isPer_any (p : Int) (w : World) :
    Calls Try.prog 120 #[.int .i64 p] w fun e w' => e = .returned (.bool (perB p)) ∧ w = w' := by
  go_enter Try.func120, Try.ntmps120
  go_wp2_with (go_at_call 93; refine (inRange_any _ _ _ _).mono ?_; rintro e w' ⟨rfl, rfl⟩)
  go_ret
  exact ⟨rfl, rfl⟩
theorem l09Per_any (p : Int) (w : World) :
    Calls Try.prog 119 #[.int .i64 p] w fun e w' => e = .returned (.bool (perB p)) ∧ w = w' := by
  go_enter Try.func119, Try.ntmps119
  go_wp2_with (go_at_call 94; refine (l00In_any _ _ _ _).mono ?_; rintro e w' ⟨rfl, rfl⟩)
  go_ret
  exact ⟨rfl, rfl⟩
theorem iCyc_any (e p t : Int) (w : World) (h1 : 0 ≤ e) (h2 : e ≤ 10000000) (h3 : 1 ≤ p) (h4 : p ≤ 1000000) (h5 : -1 ≤ t) (h6 : t ≤ 20000000) :
    Calls Try.prog 144 #[.agg #[.int .i64 e, .int .i64 p], .int .i64 t] w fun x w' => x = .returned (.int .i64 (cyc e p t)) ∧ Below w.heap.size w w' := by
  go_enter Try.func144, Try.ntmps144
  go_wp2_with (go_at_call 127; refine (floorDiv_any _ _ _ (by omega) (by omega) (by omega) (by omega)).mono ?_; rintro x w' ⟨rfl, rfl⟩)
  go_ret
  exact ⟨rfl, by (repeat (first | assumption | exact Below.refl _ _ | refine belowDN ?_ _ | refine Below.drew ?_ | refine Below.setCell ?_ (by first | omega | (simp <;> omega)) _ | refine Below.alloc ?_ (by first | omega | (simp <;> omega)) _ | refine belowCall ?_ (by assumption)))⟩
theorem iExt_any (e p c : Int) (w : World) (h1 : 0 ≤ e) (h2 : e ≤ 10000000) (h5 : -100000000 ≤ c * p) (h6 : c * p ≤ 100000000) :
    Calls Try.prog 143 #[.agg #[.int .i64 e, .int .i64 p], .int .i64 c] w fun x w' => x = .returned (.int .i64 (e + c * p)) ∧ Below w.heap.size w w' := by
  go_enter Try.func143, Try.ntmps143
  go_wp2
  go_ret
  exact ⟨rfl, by (repeat (first | assumption | exact Below.refl _ _ | refine belowDN ?_ _ | refine Below.drew ?_ | refine Below.setCell ?_ (by first | omega | (simp <;> omega)) _ | refine Below.alloc ?_ (by first | omega | (simp <;> omega)) _ | refine belowCall ?_ (by assumption)))⟩
set_option maxHeartbeats 1000000 in
theorem iPhs_any (e p t : Int) (w : World) (h1 : 0 ≤ e) (h2 : e ≤ 10000000) (h3 : 1 ≤ p) (h4 : p ≤ 1000000) (h5 : 0 ≤ t) (h6 : t ≤ 20000000) :
    Calls Try.prog 134 #[.agg #[.int .i64 e, .int .i64 p], .int .i64 t] w fun x w' => x = .returned (.int .i64 (phs e p t)) ∧ Below w.heap.size w w' := by
  have hc := cyc_bd (e := e) (t := t) h3
  have HC : ∀ W, Calls Try.prog 144 #[.agg #[.int .i64 e, .int .i64 p], .int .i64 t] W fun x w' => x = .returned (.int .i64 (cyc e p t)) ∧ Below W.heap.size W w' := fun W => iCyc_any e p t W h1 h2 h3 h4 (by omega) h6
  have HX : ∀ W, Calls Try.prog 143 #[.agg #[.int .i64 e, .int .i64 p], .int .i64 (cyc e p t)] W fun x w' => x = .returned (.int .i64 (e + cyc e p t * p)) ∧ Below W.heap.size W w' := fun W => iExt_any e p _ W h1 h2 (by omega) (by omega)
  have HV := Lib.hid (phs_eq e p t)
  obtain ⟨m, hm⟩ : ∃ m, cyc e p t * p = m := ⟨_, rfl⟩
  rw [hm] at hc HX HV
  generalize cyc e p t = c at HC HX HV
  clear hm
  replace HV : Hid (IntKind.i64.wrap (t - (e + m)) = phs e p t) := Lib.hid (by rw [IntWalk.i64_in _ (by omega)]; exact HV.out)
  obtain ⟨hlt, k0, k1⟩ := (PtC.fresh w 83 e p).parts
  rw [Nat.zero_add] at k1
  have B1 : Below w.heap.size w (w.alloc (.cells #[.int .i64 e, .int .i64 p] 83)) := (Below.refl _ w).alloc (Nat.le_refl _) _
  go_enter Try.func134, Try.ntmps134
  go_wp2_with fail
  generalize w.alloc (.cells #[.int .i64 e, .int .i64 p] 83) = v at hlt k0 k1 B1 ⊢
  go_region_held3 (fun W' => W'.cell? ⟨w.heap.size, 0, none⟩ = some (.int .i64 e) ∧ W'.cell? ⟨w.heap.size, 1, none⟩ = some (.int .i64 p)) (refine ⟨?_, ?_⟩ <;> first | assumption | exact ((show Below v.heap.size v _ by (repeat (first | assumption | exact Below.refl _ _ | refine belowDN ?_ _ | refine Below.drew ?_ | refine Below.setCell ?_ (by first | omega | (simp <;> omega)) _ | refine Below.alloc ?_ (by first | omega | (simp <;> omega)) _ | refine belowCall ?_ (by assumption)))).cell (p := ⟨w.heap.size, 0, none⟩) hlt).trans k0 | exact ((show Below v.heap.size v _ by (repeat (first | assumption | exact Below.refl _ _ | refine belowDN ?_ _ | refine Below.drew ?_ | refine Below.setCell ?_ (by first | omega | (simp <;> omega)) _ | refine Below.alloc ?_ (by first | omega | (simp <;> omega)) _ | refine belowCall ?_ (by assumption)))).cell (p := ⟨w.heap.size, 1, none⟩) hlt).trans k1) (first | (go_at_call 144; refine (HC _).mono ?_; rintro x wA ⟨rfl, bA⟩) | (go_at_call 143; refine (HX _).mono ?_; rintro x wB ⟨rfl, bB⟩))
  all_goals
    go_wp2
    go_ret
    exact ⟨ret_int HV.out, belowCall B1 (by (repeat (first | assumption | exact Below.refl _ _ | refine belowDN ?_ _ | refine Below.drew ?_ | refine Below.setCell ?_ (by first | omega | (simp <;> omega)) _ | refine Below.alloc ?_ (by first | omega | (simp <;> omega)) _ | refine belowCall ?_ (by assumption))))⟩
end Go.Proofs.Ytcjipmpccmppiaa
