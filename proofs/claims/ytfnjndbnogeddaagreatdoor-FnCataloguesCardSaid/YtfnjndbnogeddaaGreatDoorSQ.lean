/- The model's l04One: a star through a pointer. -/
import Derived.Test.YtfnjndbnogeddaaGreatDoorS1
namespace Go.Proofs.YtfnjndbnogeddaaGreatDoor
open Go.ChangeShapes Go.WideShapes Go.ChangeAt Go.RowKit

theorem flipV {P : Program} {f : FuncId} {args : Array Value} {w : World} {x b : Bool} (h : Calls P f args w fun e w' => e = .returned (.bool x) ∧ w = w') (hx : x = b) : Calls P f args w fun e w' => e = .returned (.bool b) ∧ w' = w :=
  h.mono fun _ _ hh => ⟨hx ▸ hh.1, hh.2.symm⟩
set_option maxHeartbeats 4000000 in
theorem l04One_0 (b o : Nat) (nm : ByteArray) (a d u v : Int) (w : World) (hS : StC w b o (nm, a, d, u, v)) (h1 : nameB nm = false) :
    Calls Tryz.prog 65 #[.pointer (some ⟨b, o, none⟩)] w fun e w' => e = .returned (.bool (starB (nm, a, d, u, v))) ∧ ∃ m, w' = w.drewN m := by
  obtain ⟨hlt, c0, c1, c2, c3, c4⟩ := hS.parts
  (go_enter Tryz.func65, Tryz.ntmps65; go_wp2; go_big_quiet (first | (go_at_call 92; refine Calls.quiet_of_same (flipV (sIsName_same _ _) (by assumption))) | (go_at_call 93; refine Calls.quiet_of_same (flipV (sAsc_any _ _) (by assumption))) | (go_at_call 94; refine Calls.quiet_of_same (flipV (sDec_any _ _) (by assumption))) | (go_at_call 95; refine Calls.quiet_of_same (flipV (l02Mag_any _ _) (by assumption)))); go_wp2; go_ret; exact ⟨by simp [starB, *], _, rfl⟩)
set_option maxHeartbeats 4000000 in
theorem l04One_1 (b o : Nat) (nm : ByteArray) (a d u v : Int) (w : World) (hS : StC w b o (nm, a, d, u, v)) (h1 : nameB nm = true) (h2 : ascB a = false) :
    Calls Tryz.prog 65 #[.pointer (some ⟨b, o, none⟩)] w fun e w' => e = .returned (.bool (starB (nm, a, d, u, v))) ∧ ∃ m, w' = w.drewN m := by
  obtain ⟨hlt, c0, c1, c2, c3, c4⟩ := hS.parts
  (go_enter Tryz.func65, Tryz.ntmps65; go_wp2; go_big_quiet (first | (go_at_call 92; refine Calls.quiet_of_same (flipV (sIsName_same _ _) (by assumption))) | (go_at_call 93; refine Calls.quiet_of_same (flipV (sAsc_any _ _) (by assumption))) | (go_at_call 94; refine Calls.quiet_of_same (flipV (sDec_any _ _) (by assumption))) | (go_at_call 95; refine Calls.quiet_of_same (flipV (l02Mag_any _ _) (by assumption)))); go_wp2; go_ret; exact ⟨by simp [starB, *], _, rfl⟩)
set_option maxHeartbeats 4000000 in
theorem l04One_2 (b o : Nat) (nm : ByteArray) (a d u v : Int) (w : World) (hS : StC w b o (nm, a, d, u, v)) (h1 : nameB nm = true) (h2 : ascB a = true) (h3 : decB d = false) :
    Calls Tryz.prog 65 #[.pointer (some ⟨b, o, none⟩)] w fun e w' => e = .returned (.bool (starB (nm, a, d, u, v))) ∧ ∃ m, w' = w.drewN m := by
  obtain ⟨hlt, c0, c1, c2, c3, c4⟩ := hS.parts
  (go_enter Tryz.func65, Tryz.ntmps65; go_wp2; go_big_quiet (first | (go_at_call 92; refine Calls.quiet_of_same (flipV (sIsName_same _ _) (by assumption))) | (go_at_call 93; refine Calls.quiet_of_same (flipV (sAsc_any _ _) (by assumption))) | (go_at_call 94; refine Calls.quiet_of_same (flipV (sDec_any _ _) (by assumption))) | (go_at_call 95; refine Calls.quiet_of_same (flipV (l02Mag_any _ _) (by assumption)))); go_wp2; go_ret; exact ⟨by simp [starB, *], _, rfl⟩)
set_option maxHeartbeats 4000000 in
theorem l04One_3 (b o : Nat) (nm : ByteArray) (a d u v : Int) (w : World) (hS : StC w b o (nm, a, d, u, v)) (h1 : nameB nm = true) (h2 : ascB a = true) (h3 : decB d = true) (h4 : magB u = false) :
    Calls Tryz.prog 65 #[.pointer (some ⟨b, o, none⟩)] w fun e w' => e = .returned (.bool (starB (nm, a, d, u, v))) ∧ ∃ m, w' = w.drewN m := by
  obtain ⟨hlt, c0, c1, c2, c3, c4⟩ := hS.parts
  (go_enter Tryz.func65, Tryz.ntmps65; go_wp2; go_big_quiet (first | (go_at_call 92; refine Calls.quiet_of_same (flipV (sIsName_same _ _) (by assumption))) | (go_at_call 93; refine Calls.quiet_of_same (flipV (sAsc_any _ _) (by assumption))) | (go_at_call 94; refine Calls.quiet_of_same (flipV (sDec_any _ _) (by assumption))) | (go_at_call 95; refine Calls.quiet_of_same (flipV (l02Mag_any _ _) (by assumption)))); go_wp2; go_ret; exact ⟨by simp [starB, *], _, rfl⟩)
set_option maxHeartbeats 4000000 in
theorem l04One_4 (b o : Nat) (nm : ByteArray) (a d u v : Int) (w : World) (hS : StC w b o (nm, a, d, u, v)) (h1 : nameB nm = true) (h2 : ascB a = true) (h3 : decB d = true) (h4 : magB u = true) (h5 : magB v = false) :
    Calls Tryz.prog 65 #[.pointer (some ⟨b, o, none⟩)] w fun e w' => e = .returned (.bool (starB (nm, a, d, u, v))) ∧ ∃ m, w' = w.drewN m := by
  obtain ⟨hlt, c0, c1, c2, c3, c4⟩ := hS.parts
  (go_enter Tryz.func65, Tryz.ntmps65; go_wp2; go_big_quiet (first | (go_at_call 92; refine Calls.quiet_of_same (flipV (sIsName_same _ _) (by assumption))) | (go_at_call 93; refine Calls.quiet_of_same (flipV (sAsc_any _ _) (by assumption))) | (go_at_call 94; refine Calls.quiet_of_same (flipV (sDec_any _ _) (by assumption))) | (go_at_call 95; refine Calls.quiet_of_same (flipV (l02Mag_any _ _) (by assumption)))); go_wp2; go_ret; exact ⟨by simp [starB, *], _, rfl⟩)
set_option maxHeartbeats 4000000 in
theorem l04One_5 (b o : Nat) (nm : ByteArray) (a d u v : Int) (w : World) (hS : StC w b o (nm, a, d, u, v)) (h1 : nameB nm = true) (h2 : ascB a = true) (h3 : decB d = true) (h4 : magB u = true) (h5 : magB v = true) :
    Calls Tryz.prog 65 #[.pointer (some ⟨b, o, none⟩)] w fun e w' => e = .returned (.bool (starB (nm, a, d, u, v))) ∧ ∃ m, w' = w.drewN m := by
  obtain ⟨hlt, c0, c1, c2, c3, c4⟩ := hS.parts
  (go_enter Tryz.func65, Tryz.ntmps65; go_wp2; go_big_quiet (first | (go_at_call 92; refine Calls.quiet_of_same (flipV (sIsName_same _ _) (by assumption))) | (go_at_call 93; refine Calls.quiet_of_same (flipV (sAsc_any _ _) (by assumption))) | (go_at_call 94; refine Calls.quiet_of_same (flipV (sDec_any _ _) (by assumption))) | (go_at_call 95; refine Calls.quiet_of_same (flipV (l02Mag_any _ _) (by assumption)))); go_wp2; go_ret; exact ⟨by simp [starB, *], _, rfl⟩)
theorem l04One_any (b o : Nat) (nm : ByteArray) (a d u v : Int) (w : World) (hS : StC w b o (nm, a, d, u, v)) :
    Calls Tryz.prog 65 #[.pointer (some ⟨b, o, none⟩)] w fun e w' => e = .returned (.bool (starB (nm, a, d, u, v))) ∧ ∃ m, w' = w.drewN m := by
  cases h1 : nameB nm
  case false => exact l04One_0 b o nm a d u v w hS h1
  cases h2 : ascB a
  case false => exact l04One_1 b o nm a d u v w hS h1 h2
  cases h3 : decB d
  case false => exact l04One_2 b o nm a d u v w hS h1 h2 h3
  cases h4 : magB u
  case false => exact l04One_3 b o nm a d u v w hS h1 h2 h3 h4
  cases h5 : magB v
  case false => exact l04One_4 b o nm a d u v w hS h1 h2 h3 h4 h5
  exact l04One_5 b o nm a d u v w hS h1 h2 h3 h4 h5
theorem l04One_below (b o : Nat) (nm : ByteArray) (a d u v : Int) (w : World) (hS : StC w b o (nm, a, d, u, v)) :
    Calls Tryz.prog 65 #[.pointer (some ⟨b, o, none⟩)] w fun e w' => e = .returned (.bool (starB (nm, a, d, u, v))) ∧ Below w.heap.size w w' :=
  (l04One_any b o nm a d u v w hS).mono fun _ _ ⟨h1, _, h2⟩ => ⟨h1, h2 ▸ belowDN (Below.refl _ _) _⟩
end Go.Proofs.YtfnjndbnogeddaaGreatDoor
