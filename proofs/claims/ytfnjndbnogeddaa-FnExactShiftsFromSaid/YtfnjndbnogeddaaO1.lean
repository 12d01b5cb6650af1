/- Observers: what one is; the small functions of chapter 5 on them. -/
import Derived.Test.YtfnjndbnogeddaaGOb3
import Derived.Test.YtfnjndbnogeddaaB7
namespace Go.Proofs.Ytfnjndbnogeddaa
open Go.ChangeShapes Go.WideShapes Go.ChangeAt Go.RowKit Go.Deep

def obB (x : Ob) : Bool := nameB x.1 && inB x.2 (-2000) 2000
theorem flipB {P : Program} {f : FuncId} {args : Array Value} {w : World} {x b : Bool} (h : Calls P f args w fun e w' => e = .returned (.bool x) ∧ w = w') (hx : x = b) : Calls P f args w fun e w' => e = .returned (.bool b) ∧ w' = w :=
  h.mono fun _ _ hh => ⟨hx ▸ hh.1, hh.2.symm⟩
theorem isShift_any (n : Int) (w : World) :
    Calls Try.prog 96 #[.int .i64 n] w fun e w' => e = .returned (.bool (inB n (-2000) 2000)) ∧ w = w' := by
  go_enter Try.func96, Try.ntmps96
  go_wp2_with (go_at_call 73; refine (inRange_any _ _ _ _).mono ?_; rintro e w' ⟨rfl, rfl⟩)
  go_ret
  exact ⟨rfl, rfl⟩
end Go.Proofs.Ytfnjndbnogeddaa
