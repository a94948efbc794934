/-
  DERIVED. GIVEN WITH THE SEED: THE CARDS: each row of YtgehhfncjoogiaaGreatDoorRows.lean that lists a variable, with what it lists TIED to the program's text (the seventh form; the later family's looks); each row that meets fmt, with fmt's text TOLD by the authors' own Lean function (tested against real Go, not proved from fmt's source: count such statements apart). THE CARD IS WHAT COUNTS. Prove the row's statement (the work); the ties are given (YtgehhfncjoogiaaGreatDoorTie.lean); close each card by the builder's one call (the guide's Derived/Test/ToyasCard.lean, 'card_holds'). Laid BY PROGRAM, IN A SANDBOX (cutbox-door.mjs). By AI agents, Wed Nov 11 2026. No macro, syntax, notation, axiom, sorry.
-/
import Derived.Test.YtgehhfncjoogiaaGreatDoorRows
import GoSem.ClaimSeven
namespace Go.Proofs.YtgehhfncjoogiaaGreatDoor
namespace Rows

/-- THE TIED CARD OF 'laws.FnSynced'. -/
def fnSyncedCard : Claim7 := { stood := { row := fnSyncedRow, standIns := [], harness := (true, "f37abcc894ab3b3d48c1eb129849d91f77eaf8cc442779397bf12e5c79d6f320"), looks := true }, kinds := [], alts := [], laidByText := true, laidKinds := [.handle, .sentinel, .sentinel, .sentinel, .sentinel, .sentinel, .sentinel, .sentinel, .sentinel, .sentinel, .sentinel, .sentinel, .sentinel, .sentinel], laidTests := true, laidLooks := .later }
def FnSyncedCardSaid : Prop := Claim7.holds Tryz.pinned (.plain (OpenSpec.ofChange fnSyncedSpec)) fnSyncedCard

/-- THE SECOND FORM's CARD OF 'laws.FnSynced'. -/
def fnSyncedUptoCard : Claim7 := { stood := { row := fnSyncedUptoRow, standIns := [], harness := (true, "f37abcc894ab3b3d48c1eb129849d91f77eaf8cc442779397bf12e5c79d6f320"), looks := true }, kinds := [], alts := [], laidByText := true, laidKinds := [.handle, .sentinel, .sentinel, .sentinel, .sentinel, .sentinel, .sentinel, .sentinel, .sentinel, .sentinel, .sentinel, .sentinel, .sentinel, .sentinel], laidTests := true, laidLooks := .later }
def FnSyncedUptoCardSaid : Prop := Claim7.holds Tryz.pinned (.plain (OpenSpec.upto fnSyncedSpec)) fnSyncedUptoCard
end Rows
end Go.Proofs.YtgehhfncjoogiaaGreatDoor
