/- Phases, said with the whole world behind the call (for a sort's closure). -/
import Derived.Test.YtidiiladlmaigaaF1
import Derived.Shelf.SlSorted.Search
import Derived.Sort.Grow
namespace Go.Proofs.Ytidiiladlmaigaa
open Go.ChangeShapes Go.WideShapes Go.ChangeAt Go.RowKit Go.Deep

/-- some draws, and new blocks: nothing else -/
def GRW (w w' : World) : Prop := ∃ q os, w' = Go.Sort.grow (w.drewN q) os
theorem GRW.refl (w : World) : GRW w w := ⟨0, #[], by rw [Go.Sort.grow_empty]; rfl⟩
theorem GRW.trans {a b c : World} (h : GRW a b) (k : GRW b c) : GRW a c := by
  obtain ⟨q, os, rfl⟩ := h
  obtain ⟨q2, os2, rfl⟩ := k
  exact ⟨q + q2, os ++ os2, by simp [Go.Sort.grow, World.drewN, Array.append_assoc, Nat.add_assoc]⟩
theorem GRW.alloc {a b : World} (h : GRW a b) (o : Obj) : GRW a (b.alloc o) := h.trans ⟨0, #[o], by rw [Go.Sort.alloc_eq_grow]; rfl⟩
theorem GRW.drew {a b : World} (h : GRW a b) : GRW a b.drew := h.trans ⟨1, #[], by rw [Go.Sort.grow_empty]; rfl⟩
theorem GRW.drewN {a b : World} (h : GRW a b) (n : Nat) : GRW a (b.drewN n) := h.trans ⟨n, #[], by rw [Go.Sort.grow_empty]⟩
theorem GRW.below {a b : World} (h : GRW a b) : Below a.heap.size a b := by
  obtain ⟨q, os, rfl⟩ := h
  exact below_grown_sl _ _ _ _ (Nat.le_refl _)
theorem iCycG (e p t : Int) (w : World) (h1 : 0 ≤ e) (h2 : e ≤ 10000000) (h3 : 1 ≤ p) (h4 : p ≤ 1000000) (h5 : -1 ≤ t) (h6 : t ≤ 20000000) :
    Calls Try.prog 87 #[.agg #[.int .i64 e, .int .i64 p], .int .i64 t] w fun x w' => x = .returned (.int .i64 (cyc e p t)) ∧ GRW w w' := by
  go_enter Try.func87, Try.ntmps87
  go_wp2_with (go_at_call 82; refine (floorDiv_any _ _ _ (by omega) (by omega) (by omega) (by omega)).mono ?_; rintro x w' ⟨rfl, rfl⟩)
  go_ret
  exact ⟨rfl, by (repeat (first | assumption | exact GRW.refl _ | refine GRW.drewN ?_ _ | refine GRW.drew ?_ | refine GRW.alloc ?_ _ | refine GRW.trans ?_ (by assumption)))⟩
theorem iExtG (e p c : Int) (w : World) (h1 : 0 ≤ e) (h2 : e ≤ 10000000) (h5 : -100000000 ≤ c * p) (h6 : c * p ≤ 100000000) :
    Calls Try.prog 86 #[.agg #[.int .i64 e, .int .i64 p], .int .i64 c] w fun x w' => x = .returned (.int .i64 (e + c * p)) ∧ GRW w w' := by
  go_enter Try.func86, Try.ntmps86
  go_wp2
  go_ret
  exact ⟨rfl, by (repeat (first | assumption | exact GRW.refl _ | refine GRW.drewN ?_ _ | refine GRW.drew ?_ | refine GRW.alloc ?_ _ | refine GRW.trans ?_ (by assumption)))⟩
set_option maxHeartbeats 1000000 in
theorem iPhsG (e p t : Int) (w : World) (h1 : 0 ≤ e) (h2 : e ≤ 10000000) (h3 : 1 ≤ p) (h4 : p ≤ 1000000) (h5 : 0 ≤ t) (h6 : t ≤ 20000000) :
    Calls Try.prog 78 #[.agg #[.int .i64 e, .int .i64 p], .int .i64 t] w fun x w' => x = .returned (.int .i64 (phs e p t)) ∧ GRW w w' := by
  have hc := cyc_bd (e := e) (t := t) h3
  have HC : ∀ W, Calls Try.prog 87 #[.agg #[.int .i64 e, .int .i64 p], .int .i64 t] W fun x w' => x = .returned (.int .i64 (cyc e p t)) ∧ GRW W w' := fun W => iCycG e p t W h1 h2 h3 h4 (by omega) h6
  have HX : ∀ W, Calls Try.prog 86 #[.agg #[.int .i64 e, .int .i64 p], .int .i64 (cyc e p t)] W fun x w' => x = .returned (.int .i64 (e + cyc e p t * p)) ∧ GRW W w' := fun W => iExtG e p _ W h1 h2 (by omega) (by omega)
  have HV := Lib.hid (phs_eq e p t)
  obtain ⟨m, hm⟩ : ∃ m, cyc e p t * p = m := ⟨_, rfl⟩
  rw [hm] at hc HX HV
  generalize cyc e p t = c at HC HX HV
  clear hm
  replace HV : Hid (IntKind.i64.wrap (t - (e + m)) = phs e p t) := Lib.hid (by rw [IntWalk.i64_in _ (by omega)]; exact HV.out)
  obtain ⟨hlt, k0, k1⟩ := (PtC.fresh w 44 e p).parts
  rw [Nat.zero_add] at k1
  have B1 : GRW w (w.alloc (.cells #[.int .i64 e, .int .i64 p] 44)) := (GRW.refl _).alloc _
  go_enter Try.func78, Try.ntmps78
  go_wp2_with fail
  generalize w.alloc (.cells #[.int .i64 e, .int .i64 p] 44) = v at hlt k0 k1 B1 ⊢
  go_region_held3 (fun W' => W'.cell? ⟨w.heap.size, 0, none⟩ = some (.int .i64 e) ∧ W'.cell? ⟨w.heap.size, 1, none⟩ = some (.int .i64 p)) (refine ⟨?_, ?_⟩ <;> first | assumption | exact ((show GRW v _ by (repeat (first | assumption | exact GRW.refl _ | refine GRW.drewN ?_ _ | refine GRW.drew ?_ | refine GRW.alloc ?_ _ | refine GRW.trans ?_ (by assumption)))).below.cell (p := ⟨w.heap.size, 0, none⟩) hlt).trans k0 | exact ((show GRW v _ by (repeat (first | assumption | exact GRW.refl _ | refine GRW.drewN ?_ _ | refine GRW.drew ?_ | refine GRW.alloc ?_ _ | refine GRW.trans ?_ (by assumption)))).below.cell (p := ⟨w.heap.size, 1, none⟩) hlt).trans k1) (first | (go_at_call 87; refine (HC _).mono ?_; rintro x wA ⟨rfl, bA⟩) | (go_at_call 86; refine (HX _).mono ?_; rintro x wB ⟨rfl, bB⟩))
  all_goals
    go_wp2
    go_ret
    exact ⟨ret_int HV.out, B1.trans (by (repeat (first | assumption | exact GRW.refl _ | refine GRW.drewN ?_ _ | refine GRW.drew ?_ | refine GRW.alloc ?_ _ | refine GRW.trans ?_ (by assumption))))⟩
set_option maxHeartbeats 2000000 in
theorem foldCl_any (e p : Int) (eb cb b1 o1 n c i k : Nat) (ti tk : Int) (W : World) (h1 : 0 ≤ e) (h2 : e ≤ 10000000) (h3 : 1 ≤ p) (h4 : p ≤ 1000000) (hi : i < n) (hk : k < n) (hn : n ≤ 100) (u1 : 0 ≤ ti ∧ ti ≤ 10000000) (u2 : 0 ≤ tk ∧ tk ≤ 10000000)
    (q0 : eb < W.heap.size) (q1 : cb < W.heap.size) (q2 : b1 < W.heap.size) (k0 : W.cell? ⟨eb, 0, none⟩ = some (.int .i64 e)) (k1 : W.cell? ⟨eb, 1, none⟩ = some (.int .i64 p)) (k2 : W.cell? ⟨cb, 0, none⟩ = some (.slice (some ⟨b1, o1, none⟩) n c)) (k3 : W.cell? ⟨b1, o1 + i * 2, none⟩ = some (.int .i64 ti)) (k4 : W.cell? ⟨b1, o1 + k * 2, none⟩ = some (.int .i64 tk)) :
    Calls Try.prog 76 #[.int .i64 (i : Int), .int .i64 (k : Int), .pointer (some ⟨eb, 0, none⟩), .pointer (some ⟨cb, 0, none⟩)] W fun x w' => x = .returned (.int .i64 (sgI (phs e p ti) (phs e p tk))) ∧ GRW W w' := by
  have hiz : (i : Int) < (n : Int) := by omega
  have hkz : (k : Int) < (n : Int) := by omega
  have hl : (n : Int) ≤ 100 := by omega
  have HPH : ∀ t W, 0 ≤ t ∧ t ≤ 10000000 → Calls Try.prog 78 #[.agg #[.int .i64 e, .int .i64 p], .int .i64 t] W fun x w' => x = .returned (.int .i64 (phs e p t)) ∧ GRW W w' := fun t W ht => iPhsG e p t W h1 h2 h3 h4 ht.1 (by omega)
  have HCM : ∀ x y W, Calls Try.prog 77 #[.int .i64 x, .int .i64 y] W fun e w' => e = .returned (.int .i64 (sgI x y)) ∧ w' = W := fun x y W => cmpI_any x y W
  go_enter Try.func76, Try.ntmps76
  go_wp2_with fail
  go_region_held3 (fun W' => W'.cell? ⟨eb, 0, none⟩ = some (.int .i64 e) ∧ W'.cell? ⟨eb, 1, none⟩ = some (.int .i64 p) ∧ W'.cell? ⟨cb, 0, none⟩ = some (.slice (some ⟨b1, o1, none⟩) n c) ∧ W'.cell? ⟨b1, o1 + i * 2, none⟩ = some (.int .i64 ti) ∧ W'.cell? ⟨b1, o1 + k * 2, none⟩ = some (.int .i64 tk)) (refine ⟨?_, ?_, ?_, ?_, ?_⟩ <;> first | assumption | exact ((show GRW W _ by (repeat (first | assumption | exact GRW.refl _ | refine GRW.drewN ?_ _ | refine GRW.drew ?_ | refine GRW.alloc ?_ _ | refine GRW.trans ?_ (by assumption)))).below.cell (p := ⟨eb, 0, none⟩) q0).trans k0 | exact ((show GRW W _ by (repeat (first | assumption | exact GRW.refl _ | refine GRW.drewN ?_ _ | refine GRW.drew ?_ | refine GRW.alloc ?_ _ | refine GRW.trans ?_ (by assumption)))).below.cell (p := ⟨eb, 1, none⟩) q0).trans k1 | exact ((show GRW W _ by (repeat (first | assumption | exact GRW.refl _ | refine GRW.drewN ?_ _ | refine GRW.drew ?_ | refine GRW.alloc ?_ _ | refine GRW.trans ?_ (by assumption)))).below.cell (p := ⟨cb, 0, none⟩) q1).trans k2 | exact ((show GRW W _ by (repeat (first | assumption | exact GRW.refl _ | refine GRW.drewN ?_ _ | refine GRW.drew ?_ | refine GRW.alloc ?_ _ | refine GRW.trans ?_ (by assumption)))).below.cell (p := ⟨b1, o1 + i * 2, none⟩) q2).trans k3 | exact ((show GRW W _ by (repeat (first | assumption | exact GRW.refl _ | refine GRW.drewN ?_ _ | refine GRW.drew ?_ | refine GRW.alloc ?_ _ | refine GRW.trans ?_ (by assumption)))).below.cell (p := ⟨b1, o1 + k * 2, none⟩) q2).trans k4) (first | (go_at_call 78; refine (HPH _ _ (by assumption)).mono ?_; rintro x wA ⟨rfl, bA⟩) | (go_at_call 77; refine (HCM _ _ _).mono ?_; rintro x wB ⟨rfl, rfl⟩))
  all_goals
    go_wp2
    go_ret
    exact ⟨rfl, by (repeat (first | assumption | exact GRW.refl _ | refine GRW.drewN ?_ _ | refine GRW.drew ?_ | refine GRW.alloc ?_ _ | refine GRW.trans ?_ (by assumption)))⟩
end Go.Proofs.Ytidiiladlmaigaa
