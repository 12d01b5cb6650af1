/- VisibleAt, the program's. -/
import Derived.Test.YtfnjndbnogeddaaGreatDoorI2
import Derived.Lib.SmallJoins
namespace Go.Proofs.YtfnjndbnogeddaaGreatDoor
open Go.ChangeShapes Go.WideShapes Go.ChangeAt Go.RowKit
/-- what a function that chooses stars hands back: a slice of the call's own (nil where it is empty), or nil and a code -/
def ChosenI (B : Nat) (good : Bool) (code : Int) (zs : List Int) (w' : World) (e : Ending) : Prop :=
  (good = true ∧ ∃ v, e = .returned (.tuple #[v, .int .i64 0]) ∧ w'.ownsRow B 2 1 v zs.length (zs.map (Value.int .i64))) ∨
  (good = false ∧ e = .returned (.tuple #[.slice none 0 0, .int .i64 code]))
set_option maxRecDepth 100000 in
set_option maxHeartbeats 4000000 in
theorem iVisibleAt_any (a : Option Addr) (n c : Nat) (xs : List St) (m : Int) (w : World) (h : StL w a n xs) (hn : n ≤ 1048576) :
    Calls Tryz.prog 14 #[.slice a n c, .int .i64 m] w fun e w' => ChosenI w.heap.size (okS xs && magB m) (visCode xs) (selL (visP m) xs n) w' e ∧ Below w.heap.size w w' := by
  have B1 : Below w.heap.size w (w.alloc (.cells #[.int .i64 m] 2)) := (Below.refl _ w).alloc (Nat.le_refl _) _
  have h1 := h.mono B1
  cases hok : okS xs
  · have HC : Hid (visCode xs = 1) := Lib.hid (by simp [visCode, hok])
    go_enter Tryz.func14, Tryz.ntmps14
    go_wp2_with (go_at_call 11; refine (iValidStars_any a n c xs _ h1 hn).mono ?_; rintro e w2 ⟨rfl, hb2⟩; rw [hok])
    go_ret2
    exact ⟨.inr ⟨rfl, by rw [HC.out]; rfl⟩, belowCall B1 hb2⟩
  have HC : Hid (visCode xs = 2) := Lib.hid (by simp [visCode, hok])
  cases hm : magB m
  · go_enter Tryz.func14, Tryz.ntmps14
    go_wp2_with fail
    refine (iValidStars_any a n c xs _ h1 hn).mono ?_
    rintro e w2 ⟨rfl, hb2⟩
    rw [hok]
    have km : w2.cell? ⟨w.heap.size, 0, none⟩ = some (.int .i64 m) := by rw [hb2.cell (p := ⟨w.heap.size, 0, none⟩) (by simp)]; go_keep
    go_wp2_with (go_at_call 24; refine (iValidMag_any _ _).mono ?_; rintro e w' ⟨rfl, rfl⟩)
    go_ret2
    exact ⟨.inr ⟨rfl, by rw [HC.out]; rfl⟩, belowCall B1 hb2⟩
  go_enter Tryz.func14, Tryz.ntmps14
  go_wp2_with fail
  refine (iValidStars_any a n c xs _ h1 hn).mono ?_
  rintro e w2 ⟨rfl, hb2⟩
  rw [hok]
  have km : w2.cell? ⟨w.heap.size, 0, none⟩ = some (.int .i64 m) := by rw [hb2.cell (p := ⟨w.heap.size, 0, none⟩) (by simp)]; go_keep
  go_wp2_with (first | (go_at_call 24; refine (iValidMag_any _ _).mono ?_; rintro e w' ⟨rfl, rfl⟩) | (go_at_call 40; refine (starsThat_any _ _ _ _ _ _ _).mono ?_; rintro e w3 ⟨rfl, hb3, c1, c2⟩))
  have hs2 := hb2.size
  simp only [World.size_alloc] at hs2
  have hBw : Below w.heap.size w w3 := belowCall (belowCall B1 hb2) hb3
  have c3 : w3.cell? ⟨w.heap.size, 0, none⟩ = some (.int .i64 m) := by rw [hb3.cell (p := ⟨w.heap.size, 0, none⟩) (by simp; omega)]; exact km
  refine (Collect_any _ _ (selL (visP m) xs n) n hn w3 (enters_of Tryz.func69 (by kernel_rfl) rfl) (stars1_vis w2.heap.size (w2.heap.size + 1) w.heap.size a n c xs m w3 (h.mono hBw) hn c1 c2 c3)).mono ?_
  rintro e w4 ⟨v, rfl, hown, hb4⟩
  go_wp2
  go_ret2
  exact ⟨.inl ⟨rfl, v, rfl, Go.Joins.ownsRow_le hown hBw.size⟩, belowCall hBw hb4⟩
end Go.Proofs.YtfnjndbnogeddaaGreatDoor
