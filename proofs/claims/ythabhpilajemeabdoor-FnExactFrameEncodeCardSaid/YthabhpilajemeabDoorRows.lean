/-
  NARROWER THAN 'FOR EVERY INPUT', by the rows' own cells (each row's printed sentence says how): FnExactCrc32c: laid · FnExactFrameEncode: laid · FnExactFrameScan: laid.
  DERIVED. THE GIVEN ROWS OF THIS SEAT. 3 by the template 'for every input the law returns true; each argument reads behind the call as it read before'; 0 by the template 'total and deterministic' (their statements: YthabhpilajemeabDoorTotals.lean).
  GIVEN WITH THE SEED: the statements are not yours to turn. If you find one false, say at which input.
  Laid BY PROGRAM, IN A SANDBOX (cutbox-rows.mjs): the forced cells as the released guide's own fill.sh prints them over the translation 338f81723cda18b2… (all of the seat's roots in one cut). By AI agents, Wed Nov 11 2026. No macro, syntax, notation, axiom, sorry.
-/
import Derived.Test.YthabhpilajemeabDoorChecked
import GoSem.Claim
import GoSem.ClaimJoined
import GoSem.ClaimMapViews
import Derived.JoinedTies
import Derived.KernelRfl
namespace Go.Proofs.YthabhpilajemeabDoor
/- THE CELL 'sum', in the pinned program and in every row, IS THE sha256 OF THE DUMP (.gsa) THAT YthabhpilajemeabDoorProg.lean LOADS. Nothing in Lean hashes anything: it is a label: what it is worth is what the hold of that sum in a sandbox is worth. -/
noncomputable def Tryd.pinned : Pinned := { name := "ythabhpilajemeabdoor", sum := "338f81723cda18b27da04b2f90ecfe9e92ab0936dc7c1fe14dfc7c490481ea61", checked := Tryd.checked }
namespace Rows
def none {H : Type} : Left H := { results := [], args := [] }

/- WHAT THE LISTED PACKAGE-LEVEL VARIABLES READ AS WHEN THE CALL BEGINS. Each datum BY PROGRAM (the guide's laid-datum.mjs) off the statement by which the dump's own 'gosem.cut.vars' lays the variable. In a bare row this is a premise. The card (YthabhpilajemeabDoorCards.lean) ties it to the program's text. -/
def laid_loop_example_s01723_impl_sumTable {H : Type} : DataW H := .agg [.lit (.int .u32 0), .lit (.int .u32 274646895), .lit (.int .u32 549293790), .lit (.int .u32 820201905), .lit (.int .u32 1098587580), .lit (.int .u32 1361435347), .lit (.int .u32 1640403810), .lit (.int .u32 1905808397), .lit (.int .u32 2197175160), .lit (.int .u32 2460548119), .lit (.int .u32 2722870694), .lit (.int .u32 2987750089), .lit (.int .u32 3280807620), .lit (.int .u32 3553878443), .lit (.int .u32 3811616794), .lit (.int .u32 4084100981)]

/-- 'laws.FnExactCrc32c': WHATEVER THE INPUT: true; the input reads as it did. -/
def fnExactCrc32cSpec : ChangeSpec := { name := "fnExactCrc32c", vars := ["loop.example/s01723/impl.sumTable"], fn := fun _ => fun
  | [d, g1] => { results := [.lit (.bool true)], args := [d], vars := [g1] }
  | _ => none }
def fnExactCrc32cRow : OpenClaim := { program := "ythabhpilajemeabdoor", sum := "338f81723cda18b27da04b2f90ecfe9e92ab0936dc7c1fe14dfc7c490481ea61", func := "loop.example/s01723/laws.FnExactCrc32c", spec := "fnExactCrc32c", named := ["loop.example/s01723/impl.sumTable"], apart := false, laid := [("loop.example/s01723/impl.sumTable", laid_loop_example_s01723_impl_sumTable)] }
def FnExactCrc32cSaid : Prop := fnExactCrc32cRow.holds Tryd.pinned (OpenSpec.ofChange fnExactCrc32cSpec)

/-- ITS FALSE NEIGHBOUR: 'it returns false'. Refute it at one input. -/
def fnExactCrc32cWrong : ChangeSpec := { name := "fnExactCrc32c", vars := ["loop.example/s01723/impl.sumTable"], fn := fun _ => fun
  | [d, g1] => { results := [.lit (.bool false)], args := [d], vars := [g1] }
  | _ => none }
def FnExactCrc32cWrongFalsely : Prop := fnExactCrc32cRow.holds Tryd.pinned (OpenSpec.ofChange fnExactCrc32cWrong)

/-- 'laws.FnExactFrameEncode': WHATEVER THE INPUT: true; the input reads as it did. -/
def fnExactFrameEncodeSpec : ChangeSpec := { name := "fnExactFrameEncode", vars := ["loop.example/s01723/impl.sumTable"], fn := fun _ => fun
  | [d, g1] => { results := [.lit (.bool true)], args := [d], vars := [g1] }
  | _ => none }
def fnExactFrameEncodeRow : OpenClaim := { program := "ythabhpilajemeabdoor", sum := "338f81723cda18b27da04b2f90ecfe9e92ab0936dc7c1fe14dfc7c490481ea61", func := "loop.example/s01723/laws.FnExactFrameEncode", spec := "fnExactFrameEncode", named := ["loop.example/s01723/impl.sumTable"], apart := false, laid := [("loop.example/s01723/impl.sumTable", laid_loop_example_s01723_impl_sumTable)] }
def FnExactFrameEncodeSaid : Prop := fnExactFrameEncodeRow.holds Tryd.pinned (OpenSpec.ofChange fnExactFrameEncodeSpec)

/-- ITS FALSE NEIGHBOUR: 'it returns false'. Refute it at one input. -/
def fnExactFrameEncodeWrong : ChangeSpec := { name := "fnExactFrameEncode", vars := ["loop.example/s01723/impl.sumTable"], fn := fun _ => fun
  | [d, g1] => { results := [.lit (.bool false)], args := [d], vars := [g1] }
  | _ => none }
def FnExactFrameEncodeWrongFalsely : Prop := fnExactFrameEncodeRow.holds Tryd.pinned (OpenSpec.ofChange fnExactFrameEncodeWrong)

/-- 'laws.FnExactFrameScan': WHATEVER THE INPUT: true; the input reads as it did. -/
def fnExactFrameScanSpec : ChangeSpec := { name := "fnExactFrameScan", vars := ["loop.example/s01723/impl.sumTable"], fn := fun _ => fun
  | [d, g1] => { results := [.lit (.bool true)], args := [d], vars := [g1] }
  | _ => none }
def fnExactFrameScanRow : OpenClaim := { program := "ythabhpilajemeabdoor", sum := "338f81723cda18b27da04b2f90ecfe9e92ab0936dc7c1fe14dfc7c490481ea61", func := "loop.example/s01723/laws.FnExactFrameScan", spec := "fnExactFrameScan", unfollowed := true, recurses := true, named := ["loop.example/s01723/impl.sumTable"], apart := false, laid := [("loop.example/s01723/impl.sumTable", laid_loop_example_s01723_impl_sumTable)] }
def FnExactFrameScanSaid : Prop := fnExactFrameScanRow.holds Tryd.pinned (OpenSpec.ofChange fnExactFrameScanSpec)

/-- ITS FALSE NEIGHBOUR: 'it returns false'. Refute it at one input. -/
def fnExactFrameScanWrong : ChangeSpec := { name := "fnExactFrameScan", vars := ["loop.example/s01723/impl.sumTable"], fn := fun _ => fun
  | [d, g1] => { results := [.lit (.bool false)], args := [d], vars := [g1] }
  | _ => none }
def FnExactFrameScanWrongFalsely : Prop := fnExactFrameScanRow.holds Tryd.pinned (OpenSpec.ofChange fnExactFrameScanWrong)

/- THE SECOND FORM. 'bulk': how many values and letters a reading holds, each counted each time it is reached (what is shared counts as often as it is met; a slice's spare places count too). A statement '..UptoSaid' is the law's where the arguments, and the package variables that the reading takes, are together of bulk at most 1048576: NARROWER than '..Said'. Prove '..Said' where nothing that the law and all that it calls make is longer than what came in: it says more and counts as full. Else prove '..UptoSaid'. A law counts once. -/
mutual
def uptoBulk {H : Type} : DataW H → Nat
  | .lit (.string bytes) => bytes.length + 1
  | .lit _ => 1
  | .nil => 1
  | .ptr d => uptoBulk d + 1
  | .slice elems spare => uptoBulkAll elems + uptoBulkAll spare + 1
  | .agg parts => uptoBulkAll parts + 1
  | .iface _ d => uptoBulk d + 1
  | .map entries => uptoBulkEntries entries + 1
  | .held _ => 1
def uptoBulkAll {H : Type} : List (DataW H) → Nat
  | [] => 0
  | d :: r => uptoBulk d + uptoBulkAll r
def uptoBulkEntries {H : Type} : List (Lit × DataW H) → Nat
  | [] => 0
  | x :: r => uptoBulkEntry x + uptoBulkEntries r
def uptoBulkEntry {H : Type} : Lit × DataW H → Nat
  | (.string bytes, d) => bytes.length + uptoBulk d + 1
  | (_, d) => uptoBulk d + 1
 end
def uptoSmall : (H : Type) → List (DataW H) → Bool := fun _ ds => decide (uptoBulkAll ds ≤ 1048576)
def OpenSpec.upto (s : _root_.Go.ChangeSpec) : _root_.Go.OpenSpec := { _root_.Go.OpenSpec.ofChange s with cond := some uptoSmall }

/-- 'laws.FnExactCrc32c', WHERE WHAT IT READS IS OF BULK AT MOST 1048576: true; the input reads as it did. -/
def fnExactCrc32cUptoRow : OpenClaim := { program := "ythabhpilajemeabdoor", sum := "338f81723cda18b27da04b2f90ecfe9e92ab0936dc7c1fe14dfc7c490481ea61", func := "loop.example/s01723/laws.FnExactCrc32c", spec := "fnExactCrc32c", named := ["loop.example/s01723/impl.sumTable"], apart := false, laid := [("loop.example/s01723/impl.sumTable", laid_loop_example_s01723_impl_sumTable)], narrowed := true }
def FnExactCrc32cUptoSaid : Prop := fnExactCrc32cUptoRow.holds Tryd.pinned (OpenSpec.upto fnExactCrc32cSpec)

/-- 'laws.FnExactFrameEncode', WHERE WHAT IT READS IS OF BULK AT MOST 1048576: true; the input reads as it did. -/
def fnExactFrameEncodeUptoRow : OpenClaim := { program := "ythabhpilajemeabdoor", sum := "338f81723cda18b27da04b2f90ecfe9e92ab0936dc7c1fe14dfc7c490481ea61", func := "loop.example/s01723/laws.FnExactFrameEncode", spec := "fnExactFrameEncode", named := ["loop.example/s01723/impl.sumTable"], apart := false, laid := [("loop.example/s01723/impl.sumTable", laid_loop_example_s01723_impl_sumTable)], narrowed := true }
def FnExactFrameEncodeUptoSaid : Prop := fnExactFrameEncodeUptoRow.holds Tryd.pinned (OpenSpec.upto fnExactFrameEncodeSpec)

/-- 'laws.FnExactFrameScan', WHERE WHAT IT READS IS OF BULK AT MOST 1048576: true; the input reads as it did. -/
def fnExactFrameScanUptoRow : OpenClaim := { program := "ythabhpilajemeabdoor", sum := "338f81723cda18b27da04b2f90ecfe9e92ab0936dc7c1fe14dfc7c490481ea61", func := "loop.example/s01723/laws.FnExactFrameScan", spec := "fnExactFrameScan", unfollowed := true, recurses := true, named := ["loop.example/s01723/impl.sumTable"], apart := false, laid := [("loop.example/s01723/impl.sumTable", laid_loop_example_s01723_impl_sumTable)], narrowed := true }
def FnExactFrameScanUptoSaid : Prop := fnExactFrameScanUptoRow.holds Tryd.pinned (OpenSpec.upto fnExactFrameScanSpec)

end Rows
end Go.Proofs.YthabhpilajemeabDoor
