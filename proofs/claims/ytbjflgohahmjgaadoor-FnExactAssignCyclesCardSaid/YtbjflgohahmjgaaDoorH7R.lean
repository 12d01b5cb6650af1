/- A call's answer: numbers of its own. -/
import Derived.Test.YtbjflgohahmjgaaDoorGI
namespace Go.Proofs.YtbjflgohahmjgaaDoor
open Go.ChangeShapes Go.WideShapes Go.ChangeAt Go.RowKit Go.Deep

/-- a call's answer: numbers of its own, and a value beside them -/
def IntRes (B : Nat) (L : List Int) (v : Value) (w : World) (e : Ending) : Prop := ∃ a c, e = .returned (.tuple #[.slice a L.length c, v]) ∧ ∀ m, IntO B w a L.length 0 m L
theorem IntRes.nil (B : Nat) (v : Value) (w : World) : IntRes B [] v w (.returned (.tuple #[.slice none 0 0, v])) := ⟨none, 0, rfl, fun _ => .inl ⟨rfl, rfl⟩⟩
theorem IntRes.own {B e n : Nat} {u v : Value} {xs : List Int} {w : World} (h : w.ownsRow B e 1 u n (xs.map (Value.int .i64))) (hn : xs.length = n) : IntRes B xs v w (.returned (.tuple #[u, v])) := by
  subst hn
  rcases h.2 with ⟨hv, h0⟩ | ⟨g, cap, cur, hv, _⟩
  · subst hv
    have : xs = [] := List.length_eq_zero_iff.1 h0
    subst this
    exact IntRes.nil B v w
  · subst hv
    exact ⟨_, cap, rfl, fun _ => IntO.of_own h⟩
end Go.Proofs.YtbjflgohahmjgaaDoor
