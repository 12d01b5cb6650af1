/- Observers: what one is; the small functions of chapter 5 on them. -/
import Derived.Test.YtiogffjhhhpolacGOb3
import Derived.Test.YtiogffjhhhpolacB7
namespace Go.Proofs.Ytiogffjhhhpolac
open Go.ChangeShapes Go.WideShapes Go.ChangeAt Go.RowKit Go.Deep

def obB (x : Ob) : Bool := nameB x.1 && inB x.2 (-2000) 2000
theorem flipB {P : Program} {f : FuncId} {args : Array Value} {w : World} {x b : Bool} (h : Calls P f args w fun e w' => e = .returned (.bool x) ∧ w = w') (hx : x = b) : Calls P f args w fun e w' => e = .returned (.bool b) ∧ w' = w :=
  h.mono fun _ _ hh => ⟨hx ▸ hh.1, hh.2.symm⟩
theorem isShift_any (n : Int) (w : World) :
    Calls Try.prog 30 #[.int .i64 n] w fun e w' => e = .returned (.bool (inB n (-2000) 2000)) ∧ w = w' := by
  go_enter Try.func30, Try.ntmps30
  go_wp2_with (go_at_call 47; refine (inRange_any _ _ _ _).mono ?_; rintro e w' ⟨rfl, rfl⟩)
  go_ret
  exact ⟨rfl, rfl⟩
theorem obValid_any (x0 : ByteArray) (x1 : Int) (w : World) :
    Calls Try.prog 89 #[.agg #[.string x0, .int .i64 x1]] w fun e w' => e = .returned (.bool (obB (x0, x1))) ∧ Below w.heap.size w w' := by
  cases h1 : nameB x0
  all_goals
    go_enter Try.func89, Try.ntmps89
    go_wp2_with (first | (go_at_call 54; refine (iIsName_any _ _).mono ?_; rintro e w' ⟨rfl, hbel⟩; obtain ⟨hc, hf⟩ := bcell hbel; have hz := hbel.size; (try simp at hz); (try simp only [Nat.add_one_le_iff] at hz); (try (have hzw : w.heap.size < w'.heap.size := by omega))) | (go_at_call 30; refine (isShift_any _ _).mono ?_; rintro e w' ⟨rfl, rfl⟩))
    go_ret
    exact ⟨by simp [obB, *], by (repeat (first | assumption | exact Below.refl _ _ | refine belowDN ?_ _ | refine Below.drew ?_ | refine Below.setCell ?_ (by first | omega | (simp <;> omega)) _ | refine Below.alloc ?_ (by first | omega | (simp <;> omega)) _ | refine belowCall ?_ (by assumption)))⟩
theorem obName_any (x0 : ByteArray) (x1 : Int) (w : World) :
    Calls Try.prog 88 #[.agg #[.string x0, .int .i64 x1]] w fun e w' => e = .returned (.string x0) ∧ Below w.heap.size w w' := by
  go_enter Try.func88, Try.ntmps88
  go_wp2
  go_ret
  exact ⟨rfl, by (repeat (first | assumption | exact Below.refl _ _ | refine belowDN ?_ _ | refine Below.drew ?_ | refine Below.setCell ?_ (by first | omega | (simp <;> omega)) _ | refine Below.alloc ?_ (by first | omega | (simp <;> omega)) _ | refine belowCall ?_ (by assumption)))⟩
theorem l05One_any (b o : Nat) (x0 : ByteArray) (x1 : Int) (w : World) (hS : ObC w b o (x0, x1)) :
    Calls Try.prog 44 #[.pointer (some ⟨b, o, none⟩)] w fun e w' => e = .returned (.bool (obB (x0, x1))) ∧ ∃ m, w' = w.drewN m := by
  obtain ⟨hlt, c0, c1⟩ := hS.parts
  cases h1 : nameB x0
  · go_enter Try.func44, Try.ntmps44
    go_wp2_with fail
    refine (sIsName_same _ _).mono ?_
    rintro e w' ⟨rfl, rfl⟩
    rw [h1]
    go_wp2
    go_ret
    exact ⟨by simp [obB, *], 0, rfl⟩
  go_enter Try.func44, Try.ntmps44
  go_wp2_with fail
  refine (sIsName_same _ _).mono ?_
  rintro e w' ⟨rfl, rfl⟩
  rw [h1]
  go_wp2_with (go_at_call 45; refine (l00In_any _ _ _ _).mono ?_; rintro e w' ⟨rfl, rfl⟩)
  go_ret
  exact ⟨by simp [obB, *], 0, rfl⟩
theorem l05One_val (b o : Nat) (x0 : ByteArray) (x1 : Int) (w : World) (t : Bool) (hS : ObC w b o (x0, x1)) (hv : obB (x0, x1) = t) :
    Calls Try.prog 44 #[.pointer (some ⟨b, o, none⟩)] w fun e w' => e = .returned (.bool t) ∧ ∃ m, w' = w.drewN m :=
  (l05One_any b o x0 x1 w hS).mono fun _ _ ⟨h1, h2⟩ => ⟨by rw [h1, hv], h2⟩
theorem l05One_q (b o : Nat) (x0 : ByteArray) (x1 : Int) (w : World) (t : Bool) (q n : Nat) (hS : ObC w b o (x0, x1)) (hv : obB (x0, x1) = t) :
    Calls Try.prog 44 #[.pointer (some ⟨b, o, none⟩)] (w.drewN (q + n)) fun e w' => e = .returned (.bool t) ∧ ∃ m, w' = w.drewN (q + m) :=
  (l05One_val b o x0 x1 (w.drewN (q + n)) t (hS.mono (belowDN (Below.refl _ _) _)) hv).mono fun _ _ ⟨h1, m, h2⟩ => ⟨h1, n + m, by rw [h2, World.drewN_drewN, Nat.add_assoc]⟩
theorem l05One_below (b o : Nat) (x0 : ByteArray) (x1 : Int) (w : World) (hS : ObC w b o (x0, x1)) :
    Calls Try.prog 44 #[.pointer (some ⟨b, o, none⟩)] w fun e w' => e = .returned (.bool (obB (x0, x1))) ∧ Below w.heap.size w w' :=
  (l05One_any b o x0 x1 w hS).mono fun _ _ ⟨h1, m, h2⟩ => ⟨h1, h2 ▸ belowDN (Below.refl _ _) m⟩
end Go.Proofs.Ytiogffjhhhpolac
