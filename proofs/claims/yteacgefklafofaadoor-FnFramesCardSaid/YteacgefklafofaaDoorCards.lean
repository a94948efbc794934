/-
  DERIVED. GIVEN WITH THE SEED: THE CARDS: each row of YteacgefklafofaaDoorRows.lean that lists a variable, with what it lists TIED to the program's text (the seventh form; the later family's looks); each row that meets fmt, with fmt's text TOLD by the authors' own Lean function (tested against real Go, not proved from fmt's source: count such statements apart). THE CARD IS WHAT COUNTS. Prove the row's statement (the work); the ties are given (YteacgefklafofaaDoorTie.lean); close each card by the builder's one call (the guide's Derived/Test/ToyasCard.lean, 'card_holds'). Laid BY PROGRAM, IN A SANDBOX (cutbox-door.mjs). By AI agents, Wed Nov 11 2026. No macro, syntax, notation, axiom, sorry.
-/
import Derived.Test.YteacgefklafofaaDoorRows
import GoSem.ClaimSeven
namespace Go.Proofs.YteacgefklafofaaDoor
namespace Rows

/-- THE TIED CARD OF 'laws.FnExactCrc32c'. -/
def fnExactCrc32cCard : Claim7 := { stood := { row := fnExactCrc32cRow, standIns := [], harness := (true, "9d5016cff4e1de8de3e0df0daacce525eb0797dcb2e6ef825c12b1388a3fdd6d"), looks := false }, kinds := [], alts := [], laidByText := true, laidKinds := [.data], laidTests := true, laidLooks := .later }
def FnExactCrc32cCardSaid : Prop := Claim7.holds Tryd.pinned (.plain (OpenSpec.ofChange fnExactCrc32cSpec)) fnExactCrc32cCard

/-- THE TIED CARD OF 'laws.FnExactFrameEncode'. -/
def fnExactFrameEncodeCard : Claim7 := { stood := { row := fnExactFrameEncodeRow, standIns := [], harness := (true, "9d5016cff4e1de8de3e0df0daacce525eb0797dcb2e6ef825c12b1388a3fdd6d"), looks := false }, kinds := [], alts := [], laidByText := true, laidKinds := [.data], laidTests := true, laidLooks := .later }
def FnExactFrameEncodeCardSaid : Prop := Claim7.holds Tryd.pinned (.plain (OpenSpec.ofChange fnExactFrameEncodeSpec)) fnExactFrameEncodeCard

/-- THE TIED CARD OF 'laws.FnExactFrameScan'. -/
def fnExactFrameScanCard : Claim7 := { stood := { row := fnExactFrameScanRow, standIns := [], harness := (true, "9d5016cff4e1de8de3e0df0daacce525eb0797dcb2e6ef825c12b1388a3fdd6d"), looks := false }, kinds := [], alts := [], laidByText := true, laidKinds := [.data], laidTests := true, laidLooks := .later }
def FnExactFrameScanCardSaid : Prop := Claim7.holds Tryd.pinned (.plain (OpenSpec.ofChange fnExactFrameScanSpec)) fnExactFrameScanCard

/-- THE TIED CARD OF 'laws.FnExactSegmentName'. -/
def fnExactSegmentNameCard : Claim7 := { stood := { row := fnExactSegmentNameRow, standIns := [], harness := (true, "9d5016cff4e1de8de3e0df0daacce525eb0797dcb2e6ef825c12b1388a3fdd6d"), looks := false }, kinds := [], alts := [], laidByText := true, laidKinds := [.data, .data, .data], laidTests := true, laidLooks := .later }
def FnExactSegmentNameCardSaid : Prop := Claim7.holds Tryd.pinned (.plain (OpenSpec.ofChange fnExactSegmentNameSpec)) fnExactSegmentNameCard

/-- THE TIED CARD OF 'laws.FnFrames'. -/
def fnFramesCard : Claim7 := { stood := { row := fnFramesRow, standIns := [], harness := (true, "9d5016cff4e1de8de3e0df0daacce525eb0797dcb2e6ef825c12b1388a3fdd6d"), looks := false }, kinds := [], alts := [], laidByText := true, laidKinds := [.data], laidTests := true, laidLooks := .later }
def FnFramesCardSaid : Prop := Claim7.holds Tryd.pinned (.plain (OpenSpec.ofChange fnFramesSpec)) fnFramesCard

/-- THE SECOND FORM's CARD OF 'laws.FnExactCrc32c'. -/
def fnExactCrc32cUptoCard : Claim7 := { stood := { row := fnExactCrc32cUptoRow, standIns := [], harness := (true, "9d5016cff4e1de8de3e0df0daacce525eb0797dcb2e6ef825c12b1388a3fdd6d"), looks := false }, kinds := [], alts := [], laidByText := true, laidKinds := [.data], laidTests := true, laidLooks := .later }
def FnExactCrc32cUptoCardSaid : Prop := Claim7.holds Tryd.pinned (.plain (OpenSpec.upto fnExactCrc32cSpec)) fnExactCrc32cUptoCard

/-- THE SECOND FORM's CARD OF 'laws.FnExactFrameEncode'. -/
def fnExactFrameEncodeUptoCard : Claim7 := { stood := { row := fnExactFrameEncodeUptoRow, standIns := [], harness := (true, "9d5016cff4e1de8de3e0df0daacce525eb0797dcb2e6ef825c12b1388a3fdd6d"), looks := false }, kinds := [], alts := [], laidByText := true, laidKinds := [.data], laidTests := true, laidLooks := .later }
def FnExactFrameEncodeUptoCardSaid : Prop := Claim7.holds Tryd.pinned (.plain (OpenSpec.upto fnExactFrameEncodeSpec)) fnExactFrameEncodeUptoCard

/-- THE SECOND FORM's CARD OF 'laws.FnExactFrameScan'. -/
def fnExactFrameScanUptoCard : Claim7 := { stood := { row := fnExactFrameScanUptoRow, standIns := [], harness := (true, "9d5016cff4e1de8de3e0df0daacce525eb0797dcb2e6ef825c12b1388a3fdd6d"), looks := false }, kinds := [], alts := [], laidByText := true, laidKinds := [.data], laidTests := true, laidLooks := .later }
def FnExactFrameScanUptoCardSaid : Prop := Claim7.holds Tryd.pinned (.plain (OpenSpec.upto fnExactFrameScanSpec)) fnExactFrameScanUptoCard

/-- THE SECOND FORM's CARD OF 'laws.FnExactSegmentName'. -/
def fnExactSegmentNameUptoCard : Claim7 := { stood := { row := fnExactSegmentNameUptoRow, standIns := [], harness := (true, "9d5016cff4e1de8de3e0df0daacce525eb0797dcb2e6ef825c12b1388a3fdd6d"), looks := false }, kinds := [], alts := [], laidByText := true, laidKinds := [.data, .data, .data], laidTests := true, laidLooks := .later }
def FnExactSegmentNameUptoCardSaid : Prop := Claim7.holds Tryd.pinned (.plain (OpenSpec.upto fnExactSegmentNameSpec)) fnExactSegmentNameUptoCard

/-- THE SECOND FORM's CARD OF 'laws.FnFrames'. -/
def fnFramesUptoCard : Claim7 := { stood := { row := fnFramesUptoRow, standIns := [], harness := (true, "9d5016cff4e1de8de3e0df0daacce525eb0797dcb2e6ef825c12b1388a3fdd6d"), looks := false }, kinds := [], alts := [], laidByText := true, laidKinds := [.data], laidTests := true, laidLooks := .later }
def FnFramesUptoCardSaid : Prop := Claim7.holds Tryd.pinned (.plain (OpenSpec.upto fnFramesSpec)) fnFramesUptoCard
end Rows
end Go.Proofs.YteacgefklafofaaDoor
