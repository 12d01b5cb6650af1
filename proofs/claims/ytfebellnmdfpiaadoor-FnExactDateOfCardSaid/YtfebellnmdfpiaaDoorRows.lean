/-
  NARROWER THAN 'FOR EVERY INPUT', by the rows' own cells (each row's printed sentence says how): FnExactValidDate: laid · FnExactDateOf: laid · FnExactDayNumber: laid.
  DERIVED. THE GIVEN ROWS OF THIS SEAT. 3 by the template 'for every input the law returns true; each argument reads behind the call as it read before'; 0 by the template 'total and deterministic' (their statements: YtfebellnmdfpiaaDoorTotals.lean).
  GIVEN WITH THE SEED: the statements are not yours to turn. If you find one false, say at which input.
  Laid BY PROGRAM, IN A SANDBOX (cutbox-rows.mjs): the forced cells as the released guide's own fill.sh prints them over the translation 0796087e1386dd57… (all of the seat's roots in one cut). By AI agents, Wed Nov 11 2026. No macro, syntax, notation, axiom, sorry.
-/
import Derived.Test.YtfebellnmdfpiaaDoorChecked
import GoSem.Claim
import GoSem.ClaimJoined
import GoSem.ClaimMapViews
import Derived.JoinedTies
import Derived.KernelRfl
namespace Go.Proofs.YtfebellnmdfpiaaDoor
/- THE CELL 'sum', in the pinned program and in every row, IS THE sha256 OF THE DUMP (.gsa) THAT YtfebellnmdfpiaaDoorProg.lean LOADS. Nothing in Lean hashes anything: it is a label: what it is worth is what the hold of that sum in a sandbox is worth. -/
noncomputable def Tryd.pinned : Pinned := { name := "ytfebellnmdfpiaadoor", sum := "0796087e1386dd57fbe7f6be3b3dcffedfa171f2b209e7e91b30f8e9dfbd5546", checked := Tryd.checked }
namespace Rows
def none {H : Type} : Left H := { results := [], args := [] }

/- WHAT THE LISTED PACKAGE-LEVEL VARIABLES READ AS WHEN THE CALL BEGINS. Each datum BY PROGRAM (the guide's laid-datum.mjs) off the statement by which the dump's own 'gosem.cut.vars' lays the variable. In a bare row this is a premise. The card (YtfebellnmdfpiaaDoorCards.lean) ties it to the program's text. -/
def laid_loop_example_g01026_impl_monthLengths {H : Type} : DataW H := .agg [.lit (.int .i64 31), .lit (.int .i64 30), .lit (.int .i64 31), .lit (.int .i64 30), .lit (.int .i64 31), .lit (.int .i64 31), .lit (.int .i64 30), .lit (.int .i64 31), .lit (.int .i64 30), .lit (.int .i64 31), .lit (.int .i64 31), .lit (.int .i64 28)]

/-- 'laws.FnExactValidDate': WHATEVER THE INPUT: true; the input reads as it did. -/
def fnExactValidDateSpec : ChangeSpec := { name := "fnExactValidDate", vars := ["loop.example/g01026/impl.monthLengths"], fn := fun _ => fun
  | [d, g1] => { results := [.lit (.bool true)], args := [d], vars := [g1] }
  | _ => none }
def fnExactValidDateRow : OpenClaim := { program := "ytfebellnmdfpiaadoor", sum := "0796087e1386dd57fbe7f6be3b3dcffedfa171f2b209e7e91b30f8e9dfbd5546", func := "loop.example/g01026/laws.FnExactValidDate", spec := "fnExactValidDate", named := ["loop.example/g01026/impl.monthLengths"], apart := false, laid := [("loop.example/g01026/impl.monthLengths", laid_loop_example_g01026_impl_monthLengths)] }
def FnExactValidDateSaid : Prop := fnExactValidDateRow.holds Tryd.pinned (OpenSpec.ofChange fnExactValidDateSpec)

/-- ITS FALSE NEIGHBOUR: 'it returns false'. Refute it at one input. -/
def fnExactValidDateWrong : ChangeSpec := { name := "fnExactValidDate", vars := ["loop.example/g01026/impl.monthLengths"], fn := fun _ => fun
  | [d, g1] => { results := [.lit (.bool false)], args := [d], vars := [g1] }
  | _ => none }
def FnExactValidDateWrongFalsely : Prop := fnExactValidDateRow.holds Tryd.pinned (OpenSpec.ofChange fnExactValidDateWrong)

/-- 'laws.FnExactDateOf': WHATEVER THE INPUT: true; the input reads as it did. -/
def fnExactDateOfSpec : ChangeSpec := { name := "fnExactDateOf", vars := ["loop.example/g01026/impl.monthLengths"], fn := fun _ => fun
  | [d, g1] => { results := [.lit (.bool true)], args := [d], vars := [g1] }
  | _ => none }
def fnExactDateOfRow : OpenClaim := { program := "ytfebellnmdfpiaadoor", sum := "0796087e1386dd57fbe7f6be3b3dcffedfa171f2b209e7e91b30f8e9dfbd5546", func := "loop.example/g01026/laws.FnExactDateOf", spec := "fnExactDateOf", named := ["loop.example/g01026/impl.monthLengths"], apart := false, laid := [("loop.example/g01026/impl.monthLengths", laid_loop_example_g01026_impl_monthLengths)] }
def FnExactDateOfSaid : Prop := fnExactDateOfRow.holds Tryd.pinned (OpenSpec.ofChange fnExactDateOfSpec)

/-- ITS FALSE NEIGHBOUR: 'it returns false'. Refute it at one input. -/
def fnExactDateOfWrong : ChangeSpec := { name := "fnExactDateOf", vars := ["loop.example/g01026/impl.monthLengths"], fn := fun _ => fun
  | [d, g1] => { results := [.lit (.bool false)], args := [d], vars := [g1] }
  | _ => none }
def FnExactDateOfWrongFalsely : Prop := fnExactDateOfRow.holds Tryd.pinned (OpenSpec.ofChange fnExactDateOfWrong)

/-- 'laws.FnExactDayNumber': WHATEVER THE INPUT: true; the input reads as it did. -/
def fnExactDayNumberSpec : ChangeSpec := { name := "fnExactDayNumber", vars := ["loop.example/g01026/impl.monthLengths"], fn := fun _ => fun
  | [d, g1] => { results := [.lit (.bool true)], args := [d], vars := [g1] }
  | _ => none }
def fnExactDayNumberRow : OpenClaim := { program := "ytfebellnmdfpiaadoor", sum := "0796087e1386dd57fbe7f6be3b3dcffedfa171f2b209e7e91b30f8e9dfbd5546", func := "loop.example/g01026/laws.FnExactDayNumber", spec := "fnExactDayNumber", named := ["loop.example/g01026/impl.monthLengths"], apart := false, laid := [("loop.example/g01026/impl.monthLengths", laid_loop_example_g01026_impl_monthLengths)] }
def FnExactDayNumberSaid : Prop := fnExactDayNumberRow.holds Tryd.pinned (OpenSpec.ofChange fnExactDayNumberSpec)

/-- ITS FALSE NEIGHBOUR: 'it returns false'. Refute it at one input. -/
def fnExactDayNumberWrong : ChangeSpec := { name := "fnExactDayNumber", vars := ["loop.example/g01026/impl.monthLengths"], fn := fun _ => fun
  | [d, g1] => { results := [.lit (.bool false)], args := [d], vars := [g1] }
  | _ => none }
def FnExactDayNumberWrongFalsely : Prop := fnExactDayNumberRow.holds Tryd.pinned (OpenSpec.ofChange fnExactDayNumberWrong)

/- THE SECOND FORM. 'bulk': how many values and letters a reading holds, each counted each time it is reached (what is shared counts as often as it is met; a slice's spare places count too). A statement '..UptoSaid' is the law's where the arguments, and the package variables that the reading takes, are together of bulk at most 1048576: NARROWER than '..Said'. Prove '..Said' where nothing that the law and all that it calls make is longer than what came in: it says more and counts as full. Else prove '..UptoSaid'. A law counts once. -/
mutual
def uptoBulk {H : Type} : DataW H → Nat
  | .lit (.string bytes) => bytes.length + 1
  | .lit _ => 1
  | .nil => 1
  | .ptr d => uptoBulk d + 1
  | .slice elems spare => uptoBulkAll elems + uptoBulkAll spare + 1
  | .agg parts => uptoBulkAll parts + 1
  | .iface _ d => uptoBulk d + 1
  | .map entries => uptoBulkEntries entries + 1
  | .held _ => 1
def uptoBulkAll {H : Type} : List (DataW H) → Nat
  | [] => 0
  | d :: r => uptoBulk d + uptoBulkAll r
def uptoBulkEntries {H : Type} : List (Lit × DataW H) → Nat
  | [] => 0
  | x :: r => uptoBulkEntry x + uptoBulkEntries r
def uptoBulkEntry {H : Type} : Lit × DataW H → Nat
  | (.string bytes, d) => bytes.length + uptoBulk d + 1
  | (_, d) => uptoBulk d + 1
 end
def uptoSmall : (H : Type) → List (DataW H) → Bool := fun _ ds => decide (uptoBulkAll ds ≤ 1048576)
def OpenSpec.upto (s : _root_.Go.ChangeSpec) : _root_.Go.OpenSpec := { _root_.Go.OpenSpec.ofChange s with cond := some uptoSmall }

/-- 'laws.FnExactValidDate', WHERE WHAT IT READS IS OF BULK AT MOST 1048576: true; the input reads as it did. -/
def fnExactValidDateUptoRow : OpenClaim := { program := "ytfebellnmdfpiaadoor", sum := "0796087e1386dd57fbe7f6be3b3dcffedfa171f2b209e7e91b30f8e9dfbd5546", func := "loop.example/g01026/laws.FnExactValidDate", spec := "fnExactValidDate", named := ["loop.example/g01026/impl.monthLengths"], apart := false, laid := [("loop.example/g01026/impl.monthLengths", laid_loop_example_g01026_impl_monthLengths)], narrowed := true }
def FnExactValidDateUptoSaid : Prop := fnExactValidDateUptoRow.holds Tryd.pinned (OpenSpec.upto fnExactValidDateSpec)

/-- 'laws.FnExactDateOf', WHERE WHAT IT READS IS OF BULK AT MOST 1048576: true; the input reads as it did. -/
def fnExactDateOfUptoRow : OpenClaim := { program := "ytfebellnmdfpiaadoor", sum := "0796087e1386dd57fbe7f6be3b3dcffedfa171f2b209e7e91b30f8e9dfbd5546", func := "loop.example/g01026/laws.FnExactDateOf", spec := "fnExactDateOf", named := ["loop.example/g01026/impl.monthLengths"], apart := false, laid := [("loop.example/g01026/impl.monthLengths", laid_loop_example_g01026_impl_monthLengths)], narrowed := true }
def FnExactDateOfUptoSaid : Prop := fnExactDateOfUptoRow.holds Tryd.pinned (OpenSpec.upto fnExactDateOfSpec)

/-- 'laws.FnExactDayNumber', WHERE WHAT IT READS IS OF BULK AT MOST 1048576: true; the input reads as it did. -/
def fnExactDayNumberUptoRow : OpenClaim := { program := "ytfebellnmdfpiaadoor", sum := "0796087e1386dd57fbe7f6be3b3dcffedfa171f2b209e7e91b30f8e9dfbd5546", func := "loop.example/g01026/laws.FnExactDayNumber", spec := "fnExactDayNumber", named := ["loop.example/g01026/impl.monthLengths"], apart := false, laid := [("loop.example/g01026/impl.monthLengths", laid_loop_example_g01026_impl_monthLengths)], narrowed := true }
def FnExactDayNumberUptoSaid : Prop := fnExactDayNumberUptoRow.holds Tryd.pinned (OpenSpec.upto fnExactDayNumberSpec)

end Rows
end Go.Proofs.YtfebellnmdfpiaaDoor
