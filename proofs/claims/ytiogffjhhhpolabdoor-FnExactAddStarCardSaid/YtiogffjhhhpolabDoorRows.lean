/-
  NARROWER THAN 'FOR EVERY INPUT', by the rows' own cells (each row's printed sentence says how): FnExactAddStar: ifaces, laid · FnExactStarNamed: ifaces, laid.
  DERIVED. THE GIVEN ROWS OF THIS SEAT. 2 by the template 'for every input the law returns true; each argument reads behind the call as it read before'; 0 by the template 'total and deterministic' (their statements: YtiogffjhhhpolabDoorTotals.lean).
  GIVEN WITH THE SEED: the statements are not yours to turn. If you find one false, say at which input.
  Laid BY PROGRAM, IN A SANDBOX (cutbox-rows.mjs): the forced cells as the released guide's own fill.sh prints them over the translation 27b8822043daabe9… (all of the seat's roots in one cut). By AI agents, Wed Nov 11 2026. No macro, syntax, notation, axiom, sorry.
-/
import Derived.Test.YtiogffjhhhpolabDoorChecked
import GoSem.Claim
import GoSem.ClaimJoined
import GoSem.ClaimMapViews
import Derived.JoinedTies
import Derived.KernelRfl
namespace Go.Proofs.YtiogffjhhhpolabDoor
/- THE CELL 'sum', in the pinned program and in every row, IS THE sha256 OF THE DUMP (.gsa) THAT YtiogffjhhhpolabDoorProg.lean LOADS. Nothing in Lean hashes anything: it is a label: what it is worth is what the hold of that sum in a sandbox is worth. -/
noncomputable def Tryd.pinned : Pinned := { name := "ytiogffjhhhpolabdoor", sum := "27b8822043daabe9e2847c952bb15bab2bd66140f9ddda7d6e023b0bf077c1cd", checked := Tryd.checked }
namespace Rows
def none {H : Type} : Left H := { results := [], args := [] }

/- WHAT THE LISTED PACKAGE-LEVEL VARIABLES READ AS WHEN THE CALL BEGINS. Each datum BY PROGRAM (the guide's laid-datum.mjs) off the statement by which the dump's own 'gosem.cut.vars' lays the variable. In a bare row this is a premise. The card (YtiogffjhhhpolabDoorCards.lean) ties it to the program's text. -/
def laid_loop_example_g01026_impl_errNoName {H : Type} : DataW H := .iface "*errors.errorString" (.ptr (.agg [.lit (.string [110, 111, 32, 101, 110, 116, 114, 121, 32, 104, 97, 115, 32, 116, 104, 101, 32, 110, 97, 109, 101])]))

/-- 'laws.FnExactAddStar': WHATEVER THE INPUT: true; the input reads as it did. -/
def fnExactAddStarSpec : ChangeSpec := { name := "fnExactAddStar", vars := ["loop.example/g01026/impl.errNoName"], fn := fun _ => fun
  | [d1, d2, g1] => { results := [.lit (.bool true)], args := [d1, d2], vars := [g1] }
  | _ => none }
def fnExactAddStarRow : OpenClaim := { program := "ytiogffjhhhpolabdoor", sum := "27b8822043daabe9e2847c952bb15bab2bd66140f9ddda7d6e023b0bf077c1cd", func := "loop.example/g01026/laws.FnExactAddStar", spec := "fnExactAddStar", inPlace := ["internal/bytealg.abigen_runtime_cmpstring", "internal/reflectlite.TypeOf"], unfollowed := true, recurses := true, named := ["loop.example/g01026/impl.errNoName"], ifaces := true, apart := false, laid := [("loop.example/g01026/impl.errNoName", laid_loop_example_g01026_impl_errNoName)] }
def FnExactAddStarSaid : Prop := fnExactAddStarRow.holds Tryd.pinned (OpenSpec.ofChange fnExactAddStarSpec)

/-- ITS FALSE NEIGHBOUR: 'it returns false'. Refute it at one input. -/
def fnExactAddStarWrong : ChangeSpec := { name := "fnExactAddStar", vars := ["loop.example/g01026/impl.errNoName"], fn := fun _ => fun
  | [d1, d2, g1] => { results := [.lit (.bool false)], args := [d1, d2], vars := [g1] }
  | _ => none }
def FnExactAddStarWrongFalsely : Prop := fnExactAddStarRow.holds Tryd.pinned (OpenSpec.ofChange fnExactAddStarWrong)

/-- 'laws.FnExactStarNamed': WHATEVER THE INPUT: true; the input reads as it did. -/
def fnExactStarNamedSpec : ChangeSpec := { name := "fnExactStarNamed", vars := ["loop.example/g01026/impl.errNoName"], fn := fun _ => fun
  | [d1, d2, g1] => { results := [.lit (.bool true)], args := [d1, d2], vars := [g1] }
  | _ => none }
def fnExactStarNamedRow : OpenClaim := { program := "ytiogffjhhhpolabdoor", sum := "27b8822043daabe9e2847c952bb15bab2bd66140f9ddda7d6e023b0bf077c1cd", func := "loop.example/g01026/laws.FnExactStarNamed", spec := "fnExactStarNamed", inPlace := ["internal/bytealg.abigen_runtime_cmpstring", "internal/reflectlite.TypeOf"], unfollowed := true, recurses := true, named := ["loop.example/g01026/impl.errNoName"], ifaces := true, apart := false, laid := [("loop.example/g01026/impl.errNoName", laid_loop_example_g01026_impl_errNoName)] }
def FnExactStarNamedSaid : Prop := fnExactStarNamedRow.holds Tryd.pinned (OpenSpec.ofChange fnExactStarNamedSpec)

/-- ITS FALSE NEIGHBOUR: 'it returns false'. Refute it at one input. -/
def fnExactStarNamedWrong : ChangeSpec := { name := "fnExactStarNamed", vars := ["loop.example/g01026/impl.errNoName"], fn := fun _ => fun
  | [d1, d2, g1] => { results := [.lit (.bool false)], args := [d1, d2], vars := [g1] }
  | _ => none }
def FnExactStarNamedWrongFalsely : Prop := fnExactStarNamedRow.holds Tryd.pinned (OpenSpec.ofChange fnExactStarNamedWrong)

/- THE SECOND FORM. 'bulk': how many values and letters a reading holds, each counted each time it is reached (what is shared counts as often as it is met; a slice's spare places count too). A statement '..UptoSaid' is the law's where the arguments, and the package variables that the reading takes, are together of bulk at most 1048576: NARROWER than '..Said'. Prove '..Said' where nothing that the law and all that it calls make is longer than what came in: it says more and counts as full. Else prove '..UptoSaid'. A law counts once. -/
mutual
def uptoBulk {H : Type} : DataW H → Nat
  | .lit (.string bytes) => bytes.length + 1
  | .lit _ => 1
  | .nil => 1
  | .ptr d => uptoBulk d + 1
  | .slice elems spare => uptoBulkAll elems + uptoBulkAll spare + 1
  | .agg parts => uptoBulkAll parts + 1
  | .iface _ d => uptoBulk d + 1
  | .map entries => uptoBulkEntries entries + 1
  | .held _ => 1
def uptoBulkAll {H : Type} : List (DataW H) → Nat
  | [] => 0
  | d :: r => uptoBulk d + uptoBulkAll r
def uptoBulkEntries {H : Type} : List (Lit × DataW H) → Nat
  | [] => 0
  | x :: r => uptoBulkEntry x + uptoBulkEntries r
def uptoBulkEntry {H : Type} : Lit × DataW H → Nat
  | (.string bytes, d) => bytes.length + uptoBulk d + 1
  | (_, d) => uptoBulk d + 1
 end
def uptoSmall : (H : Type) → List (DataW H) → Bool := fun _ ds => decide (uptoBulkAll ds ≤ 1048576)
def OpenSpec.upto (s : _root_.Go.ChangeSpec) : _root_.Go.OpenSpec := { _root_.Go.OpenSpec.ofChange s with cond := some uptoSmall }

/-- 'laws.FnExactAddStar', WHERE WHAT IT READS IS OF BULK AT MOST 1048576: true; the input reads as it did. -/
def fnExactAddStarUptoRow : OpenClaim := { program := "ytiogffjhhhpolabdoor", sum := "27b8822043daabe9e2847c952bb15bab2bd66140f9ddda7d6e023b0bf077c1cd", func := "loop.example/g01026/laws.FnExactAddStar", spec := "fnExactAddStar", inPlace := ["internal/bytealg.abigen_runtime_cmpstring", "internal/reflectlite.TypeOf"], unfollowed := true, recurses := true, named := ["loop.example/g01026/impl.errNoName"], ifaces := true, apart := false, laid := [("loop.example/g01026/impl.errNoName", laid_loop_example_g01026_impl_errNoName)], narrowed := true }
def FnExactAddStarUptoSaid : Prop := fnExactAddStarUptoRow.holds Tryd.pinned (OpenSpec.upto fnExactAddStarSpec)

/-- 'laws.FnExactStarNamed', WHERE WHAT IT READS IS OF BULK AT MOST 1048576: true; the input reads as it did. -/
def fnExactStarNamedUptoRow : OpenClaim := { program := "ytiogffjhhhpolabdoor", sum := "27b8822043daabe9e2847c952bb15bab2bd66140f9ddda7d6e023b0bf077c1cd", func := "loop.example/g01026/laws.FnExactStarNamed", spec := "fnExactStarNamed", inPlace := ["internal/bytealg.abigen_runtime_cmpstring", "internal/reflectlite.TypeOf"], unfollowed := true, recurses := true, named := ["loop.example/g01026/impl.errNoName"], ifaces := true, apart := false, laid := [("loop.example/g01026/impl.errNoName", laid_loop_example_g01026_impl_errNoName)], narrowed := true }
def FnExactStarNamedUptoSaid : Prop := fnExactStarNamedUptoRow.holds Tryd.pinned (OpenSpec.upto fnExactStarNamedSpec)

end Rows
end Go.Proofs.YtiogffjhhhpolabDoor
