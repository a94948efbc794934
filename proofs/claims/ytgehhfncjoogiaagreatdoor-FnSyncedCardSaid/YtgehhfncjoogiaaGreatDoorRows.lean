/-
  NARROWER THAN 'FOR EVERY INPUT', by the rows' own cells (each row's printed sentence says how): FnSynced: ifaces, laid.
  DERIVED. THE GIVEN ROWS OF THIS SEAT. 1 by the template 'for every input the law returns true; each argument reads behind the call as it read before'; 0 by the template 'total and deterministic' (their statements: YtgehhfncjoogiaaGreatDoorTotals.lean).
  GIVEN WITH THE SEED: the statements are not yours to turn. If you find one false, say at which input.
  Laid BY PROGRAM, IN A SANDBOX (cutbox-rows.mjs): the forced cells as the released guide's own fill.sh prints them over the translation d414e17aa51f90c5… (all of the seat's roots in one cut). By AI agents, Wed Nov 11 2026. No macro, syntax, notation, axiom, sorry.
-/
import Derived.Test.YtgehhfncjoogiaaGreatDoorChecked
import GoSem.Claim
import GoSem.ClaimJoined
import GoSem.ClaimMapViews
import Derived.JoinedTies
import Derived.KernelRfl
namespace Go.Proofs.YtgehhfncjoogiaaGreatDoor
/- THE CELL 'sum', in the pinned program and in every row, IS THE sha256 OF THE DUMP (.gsa) THAT YtgehhfncjoogiaaGreatDoorProg.lean LOADS. Nothing in Lean hashes anything: it is a label: what it is worth is what the hold of that sum in a sandbox is worth. -/
noncomputable def Tryz.pinned : Pinned := { name := "ytgehhfncjoogiaagreatdoor", sum := "d414e17aa51f90c5bc7dda3d517ecf2f51d03d2beabfd8c578ed85f4e21d9c34", checked := Tryz.checked }
namespace Rows
def none {H : Type} : Left H := { results := [], args := [] }

/- WHAT THE LISTED PACKAGE-LEVEL VARIABLES READ AS WHEN THE CALL BEGINS. Each datum BY PROGRAM (the guide's laid-datum.mjs) off the statement by which the dump's own 'gosem.cut.vars' lays the variable. In a bare row this is a premise. The card (YtgehhfncjoogiaaGreatDoorCards.lean) ties it to the program's text. -/
def laid_errors_errorType {H : Type} : DataW H := .iface "internal/reflectlite.rtype" (.agg [.ptr (.lit (.string [101, 114, 114, 111, 114]))])
def laid_loop_example_s01723_impl_errName {H : Type} : DataW H := .iface "*errors.errorString" (.ptr (.agg [.lit (.string [110, 111, 116, 32, 97, 32, 103, 111, 111, 100, 32, 110, 97, 109, 101])]))
def laid_loop_example_s01723_impl_errNone {H : Type} : DataW H := .iface "*errors.errorString" (.ptr (.agg [.lit (.string [110, 111, 32, 115, 117, 99, 104, 32, 102, 105, 108, 101])]))
def laid_loop_example_s01723_impl_errExist {H : Type} : DataW H := .iface "*errors.errorString" (.ptr (.agg [.lit (.string [116, 104, 101, 32, 110, 97, 109, 101, 32, 105, 115, 32, 116, 97, 107, 101, 110])]))
def laid_loop_example_s01723_impl_errRange {H : Type} : DataW H := .iface "*errors.errorString" (.ptr (.agg [.lit (.string [111, 117, 116, 32, 111, 102, 32, 114, 97, 110, 103, 101])]))
def laid_loop_example_s01723_impl_errFull {H : Type} : DataW H := .iface "*errors.errorString" (.ptr (.agg [.lit (.string [110, 111, 32, 114, 111, 111, 109, 32, 105, 115, 32, 108, 101, 102, 116])]))
def laid_loop_example_s01723_impl_errPower {H : Type} : DataW H := .iface "*errors.errorString" (.ptr (.agg [.lit (.string [116, 104, 101, 32, 112, 111, 119, 101, 114, 32, 105, 115, 32, 111, 102, 102])]))
def laid_loop_example_s01723_impl_errCorrupt {H : Type} : DataW H := .iface "*errors.errorString" (.ptr (.agg [.lit (.string [110, 111, 32, 110, 111, 100, 101, 32, 104, 97, 115, 32, 108, 101, 102, 116, 32, 116, 104, 101, 115, 101, 32, 102, 105, 108, 101, 115])]))
def laid_loop_example_s01723_impl_errFailed {H : Type} : DataW H := .iface "*errors.errorString" (.ptr (.agg [.lit (.string [116, 104, 101, 32, 110, 111, 100, 101, 32, 104, 97, 115, 32, 102, 97, 105, 108, 101, 100])]))
def laid_loop_example_s01723_impl_errKind {H : Type} : DataW H := .iface "*errors.errorString" (.ptr (.agg [.lit (.string [110, 111, 32, 115, 117, 99, 104, 32, 107, 105, 110, 100, 32, 111, 102, 32, 111, 112, 101, 114, 97, 116, 105, 111, 110])]))
def laid_loop_example_s01723_impl_errDown {H : Type} : DataW H := .iface "*errors.errorString" (.ptr (.agg [.lit (.string [116, 104, 101, 32, 110, 111, 100, 101, 32, 105, 115, 32, 100, 111, 119, 110])]))
def laid_loop_example_s01723_impl_errLeader {H : Type} : DataW H := .iface "*errors.errorString" (.ptr (.agg [.lit (.string [110, 111, 116, 32, 102, 111, 114, 32, 97, 32, 110, 111, 100, 101, 32, 111, 102, 32, 116, 104, 97, 116, 32, 114, 111, 108, 101])]))
def laid_loop_example_s01723_impl_errBeyond {H : Type} : DataW H := .iface "*errors.errorString" (.ptr (.agg [.lit (.string [116, 104, 101, 32, 112, 108, 97, 99, 101, 32, 105, 115, 32, 98, 101, 121, 111, 110, 100, 32, 116, 104, 101, 32, 108, 97, 115, 116, 32, 105, 116, 101, 109])]))
def laid_loop_example_s01723_impl_errCompacted {H : Type} : DataW H := .iface "*errors.errorString" (.ptr (.agg [.lit (.string [116, 104, 101, 32, 105, 116, 101, 109, 32, 105, 115, 110, 39, 116, 32, 107, 101, 112, 116, 32, 97, 110, 121, 32, 109, 111, 114, 101])]))

/-- 'laws.FnSynced': WHATEVER THE INPUT: true; the input reads as it did. -/
def fnSyncedSpec : ChangeSpec := { name := "fnSynced", vars := ["loop.example/s01723/impl.errPower", "loop.example/s01723/impl.errKind", "loop.example/s01723/impl.errNone", "loop.example/s01723/impl.errRange", "loop.example/s01723/impl.errName", "loop.example/s01723/impl.errExist", "loop.example/s01723/impl.errFull", "loop.example/s01723/impl.errCorrupt", "loop.example/s01723/impl.errFailed", "loop.example/s01723/impl.errDown", "loop.example/s01723/impl.errLeader", "loop.example/s01723/impl.errBeyond", "loop.example/s01723/impl.errCompacted"], fn := fun _ => fun
  | [d1, d2, g1, g2, g3, g4, g5, g6, g7, g8, g9, g10, g11, g12, g13] => { results := [.lit (.bool true)], args := [d1, d2], vars := [g1, g2, g3, g4, g5, g6, g7, g8, g9, g10, g11, g12, g13] }
  | _ => none }
def fnSyncedRow : OpenClaim := { program := "ytgehhfncjoogiaagreatdoor", sum := "d414e17aa51f90c5bc7dda3d517ecf2f51d03d2beabfd8c578ed85f4e21d9c34", func := "loop.example/s01723/laws.FnSynced", spec := "fnSynced", inPlace := ["internal/reflectlite.ValueOf", "(internal/reflectlite.Value).Type", "(internal/reflectlite.Value).IsNil", "internal/reflectlite.TypeOf", "(internal/reflectlite.Value).Elem", "(internal/reflectlite.Value).Set"], unfollowed := true, recurses := true, named := ["loop.example/s01723/impl.errPower", "loop.example/s01723/impl.errKind", "loop.example/s01723/impl.errNone", "loop.example/s01723/impl.errRange", "loop.example/s01723/impl.errName", "loop.example/s01723/impl.errExist", "loop.example/s01723/impl.errFull", "loop.example/s01723/impl.errCorrupt", "loop.example/s01723/impl.errFailed", "loop.example/s01723/impl.errDown", "loop.example/s01723/impl.errLeader", "loop.example/s01723/impl.errBeyond", "loop.example/s01723/impl.errCompacted", "errors.errorType"], ifaces := true, apart := false, laid := [("errors.errorType", laid_errors_errorType), ("loop.example/s01723/impl.errName", laid_loop_example_s01723_impl_errName), ("loop.example/s01723/impl.errNone", laid_loop_example_s01723_impl_errNone), ("loop.example/s01723/impl.errExist", laid_loop_example_s01723_impl_errExist), ("loop.example/s01723/impl.errRange", laid_loop_example_s01723_impl_errRange), ("loop.example/s01723/impl.errFull", laid_loop_example_s01723_impl_errFull), ("loop.example/s01723/impl.errPower", laid_loop_example_s01723_impl_errPower), ("loop.example/s01723/impl.errCorrupt", laid_loop_example_s01723_impl_errCorrupt), ("loop.example/s01723/impl.errFailed", laid_loop_example_s01723_impl_errFailed), ("loop.example/s01723/impl.errKind", laid_loop_example_s01723_impl_errKind), ("loop.example/s01723/impl.errDown", laid_loop_example_s01723_impl_errDown), ("loop.example/s01723/impl.errLeader", laid_loop_example_s01723_impl_errLeader), ("loop.example/s01723/impl.errBeyond", laid_loop_example_s01723_impl_errBeyond), ("loop.example/s01723/impl.errCompacted", laid_loop_example_s01723_impl_errCompacted)] }
def FnSyncedSaid : Prop := fnSyncedRow.holds Tryz.pinned (OpenSpec.ofChange fnSyncedSpec)

/-- ITS FALSE NEIGHBOUR: 'it returns false'. Refute it at one input. -/
def fnSyncedWrong : ChangeSpec := { name := "fnSynced", vars := ["loop.example/s01723/impl.errPower", "loop.example/s01723/impl.errKind", "loop.example/s01723/impl.errNone", "loop.example/s01723/impl.errRange", "loop.example/s01723/impl.errName", "loop.example/s01723/impl.errExist", "loop.example/s01723/impl.errFull", "loop.example/s01723/impl.errCorrupt", "loop.example/s01723/impl.errFailed", "loop.example/s01723/impl.errDown", "loop.example/s01723/impl.errLeader", "loop.example/s01723/impl.errBeyond", "loop.example/s01723/impl.errCompacted"], fn := fun _ => fun
  | [d1, d2, g1, g2, g3, g4, g5, g6, g7, g8, g9, g10, g11, g12, g13] => { results := [.lit (.bool false)], args := [d1, d2], vars := [g1, g2, g3, g4, g5, g6, g7, g8, g9, g10, g11, g12, g13] }
  | _ => none }
def FnSyncedWrongFalsely : Prop := fnSyncedRow.holds Tryz.pinned (OpenSpec.ofChange fnSyncedWrong)

/- THE SECOND FORM. 'bulk': how many values and letters a reading holds, each counted each time it is reached (what is shared counts as often as it is met; a slice's spare places count too). A statement '..UptoSaid' is the law's where the arguments, and the package variables that the reading takes, are together of bulk at most 1048576: NARROWER than '..Said'. Prove '..Said' where nothing that the law and all that it calls make is longer than what came in: it says more and counts as full. Else prove '..UptoSaid'. A law counts once. -/
mutual
def uptoBulk {H : Type} : DataW H → Nat
  | .lit (.string bytes) => bytes.length + 1
  | .lit _ => 1
  | .nil => 1
  | .ptr d => uptoBulk d + 1
  | .slice elems spare => uptoBulkAll elems + uptoBulkAll spare + 1
  | .agg parts => uptoBulkAll parts + 1
  | .iface _ d => uptoBulk d + 1
  | .map entries => uptoBulkEntries entries + 1
  | .held _ => 1
def uptoBulkAll {H : Type} : List (DataW H) → Nat
  | [] => 0
  | d :: r => uptoBulk d + uptoBulkAll r
def uptoBulkEntries {H : Type} : List (Lit × DataW H) → Nat
  | [] => 0
  | x :: r => uptoBulkEntry x + uptoBulkEntries r
def uptoBulkEntry {H : Type} : Lit × DataW H → Nat
  | (.string bytes, d) => bytes.length + uptoBulk d + 1
  | (_, d) => uptoBulk d + 1
 end
def uptoSmall : (H : Type) → List (DataW H) → Bool := fun _ ds => decide (uptoBulkAll ds ≤ 1048576)
def OpenSpec.upto (s : _root_.Go.ChangeSpec) : _root_.Go.OpenSpec := { _root_.Go.OpenSpec.ofChange s with cond := some uptoSmall }

/-- 'laws.FnSynced', WHERE WHAT IT READS IS OF BULK AT MOST 1048576: true; the input reads as it did. -/
def fnSyncedUptoRow : OpenClaim := { program := "ytgehhfncjoogiaagreatdoor", sum := "d414e17aa51f90c5bc7dda3d517ecf2f51d03d2beabfd8c578ed85f4e21d9c34", func := "loop.example/s01723/laws.FnSynced", spec := "fnSynced", inPlace := ["internal/reflectlite.ValueOf", "(internal/reflectlite.Value).Type", "(internal/reflectlite.Value).IsNil", "internal/reflectlite.TypeOf", "(internal/reflectlite.Value).Elem", "(internal/reflectlite.Value).Set"], unfollowed := true, recurses := true, named := ["loop.example/s01723/impl.errPower", "loop.example/s01723/impl.errKind", "loop.example/s01723/impl.errNone", "loop.example/s01723/impl.errRange", "loop.example/s01723/impl.errName", "loop.example/s01723/impl.errExist", "loop.example/s01723/impl.errFull", "loop.example/s01723/impl.errCorrupt", "loop.example/s01723/impl.errFailed", "loop.example/s01723/impl.errDown", "loop.example/s01723/impl.errLeader", "loop.example/s01723/impl.errBeyond", "loop.example/s01723/impl.errCompacted", "errors.errorType"], ifaces := true, apart := false, laid := [("errors.errorType", laid_errors_errorType), ("loop.example/s01723/impl.errName", laid_loop_example_s01723_impl_errName), ("loop.example/s01723/impl.errNone", laid_loop_example_s01723_impl_errNone), ("loop.example/s01723/impl.errExist", laid_loop_example_s01723_impl_errExist), ("loop.example/s01723/impl.errRange", laid_loop_example_s01723_impl_errRange), ("loop.example/s01723/impl.errFull", laid_loop_example_s01723_impl_errFull), ("loop.example/s01723/impl.errPower", laid_loop_example_s01723_impl_errPower), ("loop.example/s01723/impl.errCorrupt", laid_loop_example_s01723_impl_errCorrupt), ("loop.example/s01723/impl.errFailed", laid_loop_example_s01723_impl_errFailed), ("loop.example/s01723/impl.errKind", laid_loop_example_s01723_impl_errKind), ("loop.example/s01723/impl.errDown", laid_loop_example_s01723_impl_errDown), ("loop.example/s01723/impl.errLeader", laid_loop_example_s01723_impl_errLeader), ("loop.example/s01723/impl.errBeyond", laid_loop_example_s01723_impl_errBeyond), ("loop.example/s01723/impl.errCompacted", laid_loop_example_s01723_impl_errCompacted)], narrowed := true }
def FnSyncedUptoSaid : Prop := fnSyncedUptoRow.holds Tryz.pinned (OpenSpec.upto fnSyncedSpec)

end Rows
end Go.Proofs.YtgehhfncjoogiaaGreatDoor
