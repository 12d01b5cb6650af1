/- PhaseCounts and PhaseMeans, the program's. -/
import Derived.Test.YtidiiladlmaigaaF7
import Derived.Test.YtidiiladlmaigaaH7R
import Derived.Test.YtidiiladlmaigaaJ2
namespace Go.Proofs.Ytidiiladlmaigaa
open Go.ChangeShapes Go.WideShapes Go.ChangeAt Go.RowKit Go.Deep

theorem checkB_any (e p b : Int) (a : Option Addr) (n c : Nat) (xs : List Pt) (w : World) (h : PtL w a n xs) (hn : n ≤ 1048576) :
    Calls Try.prog 44 #[.agg #[.int .i64 e, .int .i64 p], .slice a n c, .int .i64 b] w fun x w' => x = .returned (.int .i64 (pcC e p xs b)) ∧ Below w.heap.size w w' := by
  (have hbx := PtC.fresh w 44 e p; have B1 : Below w.heap.size w (w.alloc (.cells #[.int .i64 e, .int .i64 p] 44)) := (Below.refl _ w).alloc (Nat.le_refl _) _)
  cases he : ephB e p
  · have HD := Lib.hid (pc_1 (b := b) (xs := xs) (show (ephB e p && okP xs) = false by rw [he]; rfl)).1
    go_enter Try.func44, Try.ntmps44
    go_wp2_with fail
    refine (iValidEp_any e p _).mono ?_
    rintro x w2 ⟨rfl, b2⟩
    rw [he]
    go_wp2
    go_ret
    exact ⟨by rw [HD.out]; rfl, belowCall B1 b2⟩
  cases hok : okP xs
  · have HD := Lib.hid (pc_1 (b := b) (xs := xs) (show (ephB e p && okP xs) = false by rw [he, hok]; rfl)).1
    go_enter Try.func44, Try.ntmps44
    go_wp2_with fail
    refine (iValidEp_any e p _).mono ?_
    rintro x w2 ⟨rfl, b2⟩
    rw [he]
    have B2 := belowCall B1 b2
    go_wp2_with fail
    refine (iValidCv_any a n c xs w2 (h.mono B2) hn).mono ?_
    rintro x w3 ⟨rfl, b3⟩
    rw [hok]
    go_wp2
    go_ret
    exact ⟨by rw [HD.out]; rfl, belowCall B2 b3⟩
  have hboth : (ephB e p && okP xs) = true := by rw [he, hok]; rfl
  cases hb : binsB b
  · have HD := Lib.hid (pc_2 (e := e) (p := p) (xs := xs) hboth hb).1
    have hin : inB b 1 50 = false := hb
    go_enter Try.func44, Try.ntmps44
    go_wp2_with fail
    refine (iValidEp_any e p _).mono ?_
    rintro x w2 ⟨rfl, b2⟩
    rw [he]
    have B2 := belowCall B1 b2
    go_wp2_with fail
    refine (iValidCv_any a n c xs w2 (h.mono B2) hn).mono ?_
    rintro x w3 ⟨rfl, b3⟩
    rw [hok]
    go_wp2_with (go_at_call 39; refine (inRange_any _ _ _ _).mono ?_; rintro x w' ⟨rfl, rfl⟩; rw [hin])
    go_ret
    exact ⟨by rw [HD.out]; rfl, belowCall B2 b3⟩
  · have HD := Lib.hid (pc_0 (e := e) (p := p) (xs := xs) hboth hb).1
    have hin : inB b 1 50 = true := hb
    go_enter Try.func44, Try.ntmps44
    go_wp2_with fail
    refine (iValidEp_any e p _).mono ?_
    rintro x w2 ⟨rfl, b2⟩
    rw [he]
    have B2 := belowCall B1 b2
    go_wp2_with fail
    refine (iValidCv_any a n c xs w2 (h.mono B2) hn).mono ?_
    rintro x w3 ⟨rfl, b3⟩
    rw [hok]
    go_wp2_with (go_at_call 39; refine (inRange_any _ _ _ _).mono ?_; rintro x w' ⟨rfl, rfl⟩; rw [hin])
    go_ret
    exact ⟨by rw [HD.out]; rfl, belowCall B2 b3⟩
end Go.Proofs.Ytidiiladlmaigaa
