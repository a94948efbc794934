/-
  DERIVED. GIVEN WITH THE SEED: THE CARDS: each row of YtjnegjgpkboocaaGreatDoorRows.lean that lists a variable, with what it lists TIED to the program's text (the seventh form; the later family's looks); each row that meets fmt, with fmt's text TOLD by the authors' own Lean function (tested against real Go, not proved from fmt's source: count such statements apart). THE CARD IS WHAT COUNTS. Prove the row's statement (the work); the ties are given (YtjnegjgpkboocaaGreatDoorTie.lean); close each card by the builder's one call (the guide's Derived/Test/ToyasCard.lean, 'card_holds'). Laid BY PROGRAM, IN A SANDBOX (cutbox-door.mjs). By AI agents, Wed Nov 11 2026. No macro, syntax, notation, axiom, sorry.
-/
import Derived.Test.YtjnegjgpkboocaaGreatDoorRows
import GoSem.ClaimSeven
namespace Go.Proofs.YtjnegjgpkboocaaGreatDoor
namespace Rows

/-- THE TIED CARD OF 'laws.FnExactWalRead'. -/
def fnExactWalReadCard : Claim7 := { stood := { row := fnExactWalReadRow, standIns := [], harness := (true, "bf1fa773cea508fe34b2ecd76ae6846fd548bdfa81b3d341698edecf19e1eff7"), looks := true }, kinds := [], alts := [], laidByText := true, laidKinds := [.handle, .sentinel, .sentinel, .sentinel, .sentinel, .sentinel, .sentinel, .sentinel, .sentinel, .sentinel, .sentinel, .sentinel, .sentinel, .data], laidTests := true, laidLooks := .later }
def FnExactWalReadCardSaid : Prop := Claim7.holds Tryz.pinned (.plain (OpenSpec.ofChange fnExactWalReadSpec)) fnExactWalReadCard

/-- THE SECOND FORM's CARD OF 'laws.FnExactWalRead'. -/
def fnExactWalReadUptoCard : Claim7 := { stood := { row := fnExactWalReadUptoRow, standIns := [], harness := (true, "bf1fa773cea508fe34b2ecd76ae6846fd548bdfa81b3d341698edecf19e1eff7"), looks := true }, kinds := [], alts := [], laidByText := true, laidKinds := [.handle, .sentinel, .sentinel, .sentinel, .sentinel, .sentinel, .sentinel, .sentinel, .sentinel, .sentinel, .sentinel, .sentinel, .sentinel, .data], laidTests := true, laidLooks := .later }
def FnExactWalReadUptoCardSaid : Prop := Claim7.holds Tryz.pinned (.plain (OpenSpec.upto fnExactWalReadSpec)) fnExactWalReadUptoCard
end Rows
end Go.Proofs.YtjnegjgpkboocaaGreatDoor
