/- starsThat over the test of VisibleAt: the iterator's contract. -/
import Derived.Test.YtlbphdbcjhggjaaI1
import Derived.Test.YtlbphdbcjhggjaaS7
import Derived.Test.YtlbphdbcjhggjaaSE
import Derived.Stop.RegionWithIn
namespace Go.Proofs.Ytlbphdbcjhggjaa
open Go.ChangeShapes Go.WideShapes Go.ChangeAt Go.RowKit Go.Shelf
attribute [local go_sem] Oper.semAt_some

theorem grown_of_below {w w' : World} (h : Below w.heap.size w w') : w.grownBy w' none := ⟨h.os, h.tape, h.output, h.size, fun i hi _ => h.block i hi⟩
theorem abides_below {β : Type} {B : Nat} {J : β → World → Prop} (h : AbidesFrom B J) {s : β} {w w' : World} (hs : J s w) (hb : Below w.heap.size w w') : J s w' :=
  h s w w' none hs (grown_of_below hb) (fun r e => by cases e)
set_option maxHeartbeats 1000000 in
theorem starsThat_any (a : Option Addr) (n c : Nat) (fv : Fn) (b1 b2 : Array Value) (w : World) :
    Calls Try.prog 40 #[.slice a n c, .func fv b1 b2] w fun e w' => e = .returned (.func (.func 67) #[] #[.pointer (some ⟨w.heap.size, 0, none⟩), .pointer (some ⟨w.heap.size + 1, 0, none⟩)]) ∧
      Below w.heap.size w w' ∧ w'.cell? ⟨w.heap.size, 0, none⟩ = some (.slice a n c) ∧ w'.cell? ⟨w.heap.size + 1, 0, none⟩ = some (.func fv b1 b2) := by
  go_enter Try.func40, Try.ntmps40
  go_wp2
  go_ret
  exact ⟨rfl, by (repeat (first | assumption | exact Below.refl _ _ | refine belowDN ?_ _ | refine Below.drew ?_ | refine Below.setCell ?_ (by first | omega | (simp <;> omega)) _ | refine Below.alloc ?_ (by first | omega | (simp <;> omega)) _ | refine belowCall ?_ (by assumption))), by go_keep, by go_keep⟩
end Go.Proofs.Ytlbphdbcjhggjaa
