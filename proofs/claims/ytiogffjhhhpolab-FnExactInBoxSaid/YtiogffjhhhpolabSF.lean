/- The model's boxes: l04Box, l04In. -/
import Derived.Test.YtiogffjhhhpolabSQ
namespace Go.Proofs.Ytiogffjhhhpolab
open Go.ChangeShapes Go.WideShapes Go.ChangeAt Go.RowKit

def boxOk (fa ta fd td : Int) : Bool := ascB fa && ascB ta && decB fd && decB td && decide (fd ≤ td)
/-- the star x lies in the box -/
def inP (fa ta fd td : Int) (x : St) : Bool := inB x.2.2.1 fd td && (if fa ≤ ta then inB x.2.1 fa ta else (decide (fa ≤ x.2.1) || decide (x.2.1 ≤ ta)))
/-- the four cells of block b from o on hold a box -/
def BxC (w : World) (b o : Nat) (fa ta fd td : Int) : Prop := b < w.heap.size ∧ w.cell? ⟨b, o, none⟩ = some (.int .i64 fa) ∧ w.cell? ⟨b, o + 1, none⟩ = some (.int .i64 ta) ∧ w.cell? ⟨b, o + 2, none⟩ = some (.int .i64 fd) ∧ w.cell? ⟨b, o + 3, none⟩ = some (.int .i64 td)
theorem BxC.mono {w w' : World} {b o : Nat} {fa ta fd td : Int} (h : BxC w b o fa ta fd td) (hb : Below w.heap.size w w') : BxC w' b o fa ta fd td := by
  obtain ⟨h1, h2, h3, h4, h5⟩ := h
  exact ⟨Nat.lt_of_lt_of_le h1 hb.size, (hb.cell (p := ⟨b, o, none⟩) h1).trans h2, (hb.cell (p := ⟨b, o + 1, none⟩) h1).trans h3, (hb.cell (p := ⟨b, o + 2, none⟩) h1).trans h4, (hb.cell (p := ⟨b, o + 3, none⟩) h1).trans h5⟩
set_option maxHeartbeats 4000000 in
theorem l04Box_0 (b o : Nat) (fa ta fd td : Int) (w : World) (hB : BxC w b o fa ta fd td) (h1 : ascB fa = false) :
    Calls Try.prog 89 #[.pointer (some ⟨b, o, none⟩)] w fun e w' => e = .returned (.bool (boxOk fa ta fd td)) ∧ ∃ m, w' = w.drewN m := by
  (obtain ⟨hlt, c0, c1, c2, c3⟩ := hB; go_enter Try.func89, Try.ntmps89; go_wp2; go_big_quiet (first | (go_at_call 132; refine Calls.quiet_of_same (flipV (sAsc_any _ _) (by assumption))) | (go_at_call 133; refine Calls.quiet_of_same (flipV (sDec_any _ _) (by assumption)))); go_wp2; go_ret; exact ⟨by simp [boxOk, *], _, rfl⟩)
set_option maxHeartbeats 4000000 in
theorem l04Box_1 (b o : Nat) (fa ta fd td : Int) (w : World) (hB : BxC w b o fa ta fd td) (h1 : ascB fa = true) (h2 : ascB ta = false) :
    Calls Try.prog 89 #[.pointer (some ⟨b, o, none⟩)] w fun e w' => e = .returned (.bool (boxOk fa ta fd td)) ∧ ∃ m, w' = w.drewN m := by
  (obtain ⟨hlt, c0, c1, c2, c3⟩ := hB; go_enter Try.func89, Try.ntmps89; go_wp2; go_big_quiet (first | (go_at_call 132; refine Calls.quiet_of_same (flipV (sAsc_any _ _) (by assumption))) | (go_at_call 133; refine Calls.quiet_of_same (flipV (sDec_any _ _) (by assumption)))); go_wp2; go_ret; exact ⟨by simp [boxOk, *], _, rfl⟩)
set_option maxHeartbeats 4000000 in
theorem l04Box_2 (b o : Nat) (fa ta fd td : Int) (w : World) (hB : BxC w b o fa ta fd td) (h1 : ascB fa = true) (h2 : ascB ta = true) (h3 : decB fd = false) :
    Calls Try.prog 89 #[.pointer (some ⟨b, o, none⟩)] w fun e w' => e = .returned (.bool (boxOk fa ta fd td)) ∧ ∃ m, w' = w.drewN m := by
  (obtain ⟨hlt, c0, c1, c2, c3⟩ := hB; go_enter Try.func89, Try.ntmps89; go_wp2; go_big_quiet (first | (go_at_call 132; refine Calls.quiet_of_same (flipV (sAsc_any _ _) (by assumption))) | (go_at_call 133; refine Calls.quiet_of_same (flipV (sDec_any _ _) (by assumption)))); go_wp2; go_ret; exact ⟨by simp [boxOk, *], _, rfl⟩)
set_option maxHeartbeats 4000000 in
theorem l04Box_3 (b o : Nat) (fa ta fd td : Int) (w : World) (hB : BxC w b o fa ta fd td) (h1 : ascB fa = true) (h2 : ascB ta = true) (h3 : decB fd = true) (h4 : decB td = false) :
    Calls Try.prog 89 #[.pointer (some ⟨b, o, none⟩)] w fun e w' => e = .returned (.bool (boxOk fa ta fd td)) ∧ ∃ m, w' = w.drewN m := by
  (obtain ⟨hlt, c0, c1, c2, c3⟩ := hB; go_enter Try.func89, Try.ntmps89; go_wp2; go_big_quiet (first | (go_at_call 132; refine Calls.quiet_of_same (flipV (sAsc_any _ _) (by assumption))) | (go_at_call 133; refine Calls.quiet_of_same (flipV (sDec_any _ _) (by assumption)))); go_wp2; go_ret; exact ⟨by simp [boxOk, *], _, rfl⟩)
set_option maxHeartbeats 4000000 in
theorem l04Box_4 (b o : Nat) (fa ta fd td : Int) (w : World) (hB : BxC w b o fa ta fd td) (h1 : ascB fa = true) (h2 : ascB ta = true) (h3 : decB fd = true) (h4 : decB td = true) :
    Calls Try.prog 89 #[.pointer (some ⟨b, o, none⟩)] w fun e w' => e = .returned (.bool (boxOk fa ta fd td)) ∧ ∃ m, w' = w.drewN m := by
  (obtain ⟨hlt, c0, c1, c2, c3⟩ := hB; go_enter Try.func89, Try.ntmps89; go_wp2; go_big_quiet (first | (go_at_call 132; refine Calls.quiet_of_same (flipV (sAsc_any _ _) (by assumption))) | (go_at_call 133; refine Calls.quiet_of_same (flipV (sDec_any _ _) (by assumption)))); go_wp2; go_ret; exact ⟨by simp [boxOk, *], _, rfl⟩)
theorem l04Box_any (b o : Nat) (fa ta fd td : Int) (w : World) (hB : BxC w b o fa ta fd td) :
    Calls Try.prog 89 #[.pointer (some ⟨b, o, none⟩)] w fun e w' => e = .returned (.bool (boxOk fa ta fd td)) ∧ ∃ m, w' = w.drewN m := by
  cases h1 : ascB fa
  case false => exact l04Box_0 b o fa ta fd td w hB h1
  cases h2 : ascB ta
  case false => exact l04Box_1 b o fa ta fd td w hB h1 h2
  cases h3 : decB fd
  case false => exact l04Box_2 b o fa ta fd td w hB h1 h2 h3
  cases h4 : decB td
  case false => exact l04Box_3 b o fa ta fd td w hB h1 h2 h3 h4
  exact l04Box_4 b o fa ta fd td w hB h1 h2 h3 h4
set_option maxHeartbeats 8000000 in
theorem l04In_any (b o b' o' : Nat) (nm : ByteArray) (a d u v fa ta fd td : Int) (w : World) (hS : StC w b o (nm, a, d, u, v)) (hB : BxC w b' o' fa ta fd td) :
    Calls Try.prog 90 #[.pointer (some ⟨b, o, none⟩), .pointer (some ⟨b', o', none⟩)] w fun e w' => e = .returned (.bool (inP fa ta fd td (nm, a, d, u, v))) ∧ Below w.heap.size w w' := by
  obtain ⟨hlt, c0, c1, c2, c3, c4⟩ := hS.parts
  obtain ⟨hlt', k0, k1, k2, k3⟩ := id hB
  cases h1 : inB d fd td
  · go_enter Try.func90, Try.ntmps90
    go_wp2
    go_big_quiet (first | (go_at_call 79; refine Calls.quiet_of_same (flipV (l00In_any _ _ _ _) (by assumption))))
    go_wp2
    (go_ret; exact ⟨by simp [inP, *], by (repeat (first | assumption | exact Below.refl _ _ | refine belowDN ?_ _ | refine Below.drew ?_ | refine Below.setCell ?_ (by first | omega | (simp <;> omega)) _ | refine Below.alloc ?_ (by first | omega | (simp <;> omega)) _ | refine belowCall ?_ (by assumption)))⟩)
  by_cases h2 : fa ≤ ta
  · cases h3 : inB a fa ta
    all_goals
      go_enter Try.func90, Try.ntmps90
      go_wp2
      go_big_quiet (first | (go_at_call 79; refine Calls.quiet_of_same (flipV (l00In_any _ _ _ _) (by assumption))))
      (have hS1 := hS.mono (belowDN (Below.refl _ _) nq); have hB1 := hB.mono (belowDN (Below.refl _ _) nq); have hb1 : Below w.heap.size w (w.drewN nq) := belowDN (Below.refl _ _) nq; generalize w.drewN nq = w1 at hS1 hB1 hb1 ⊢; obtain ⟨_, d0, d1, d2, d3, d4⟩ := hS1.parts; obtain ⟨_, j0, j1, j2, j3⟩ := id hB1)
      go_wp2
      go_big_quiet (fail)
      (have hS2 := hS1.mono (belowDN (Below.refl _ _) nq); have hB2 := hB1.mono (belowDN (Below.refl _ _) nq); have hb2 : Below w.heap.size w (w1.drewN nq) := belowDN hb1 nq; generalize w1.drewN nq = w2 at hS2 hB2 hb2 ⊢; obtain ⟨_, f0, f1, f2, f3, f4⟩ := hS2.parts; obtain ⟨_, l0, l1, l2, l3⟩ := id hB2)
      go_wp2
      go_big_quiet (first | (go_at_call 79; refine Calls.quiet_of_same (flipV (l00In_any _ _ _ _) (by assumption))))
      go_wp2
      (go_ret; exact ⟨by simp [inP, *], by (repeat (first | assumption | exact Below.refl _ _ | refine belowDN ?_ _ | refine Below.drew ?_ | refine Below.setCell ?_ (by first | omega | (simp <;> omega)) _ | refine Below.alloc ?_ (by first | omega | (simp <;> omega)) _ | refine belowCall ?_ (by assumption)))⟩)
  · have HV := Lib.hid (show inP fa ta fd td (nm, a, d, u, v) = (decide (fa ≤ a) || decide (a ≤ ta)) by simp [inP, h1, h2])
    cases h4 : decide (fa ≤ a)
    all_goals
      go_enter Try.func90, Try.ntmps90
      go_wp2
      go_big_quiet (first | (go_at_call 79; refine Calls.quiet_of_same (flipV (l00In_any _ _ _ _) (by assumption))))
      (have hS1 := hS.mono (belowDN (Below.refl _ _) nq); have hB1 := hB.mono (belowDN (Below.refl _ _) nq); have hb1 : Below w.heap.size w (w.drewN nq) := belowDN (Below.refl _ _) nq; generalize w.drewN nq = w1 at hS1 hB1 hb1 ⊢; obtain ⟨_, d0, d1, d2, d3, d4⟩ := hS1.parts; obtain ⟨_, j0, j1, j2, j3⟩ := id hB1)
      go_wp2
      go_big_quiet (fail)
      (have hS2 := hS1.mono (belowDN (Below.refl _ _) nq); have hB2 := hB1.mono (belowDN (Below.refl _ _) nq); have hb2 : Below w.heap.size w (w1.drewN nq) := belowDN hb1 nq; generalize w1.drewN nq = w2 at hS2 hB2 hb2 ⊢; obtain ⟨_, f0, f1, f2, f3, f4⟩ := hS2.parts; obtain ⟨_, l0, l1, l2, l3⟩ := id hB2)
      go_wp2
      go_big_quiet (fail)
      go_wp2
      go_ret
      exact ⟨by rw [HV.out, h4]; simp, by (repeat (first | assumption | exact Below.refl _ _ | refine belowDN ?_ _ | refine Below.drew ?_ | refine Below.setCell ?_ (by first | omega | (simp <;> omega)) _ | refine Below.alloc ?_ (by first | omega | (simp <;> omega)) _ | refine belowCall ?_ (by assumption)))⟩
end Go.Proofs.Ytiogffjhhhpolab
