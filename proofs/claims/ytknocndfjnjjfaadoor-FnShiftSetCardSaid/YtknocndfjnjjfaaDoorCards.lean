/-
  DERIVED. GIVEN WITH THE SEED: THE CARDS: each row of YtknocndfjnjjfaaDoorRows.lean that lists a variable, with what it lists TIED to the program's text (the seventh form; the later family's looks); each row that meets fmt, with fmt's text TOLD by the authors' own Lean function (tested against real Go, not proved from fmt's source: count such statements apart). THE CARD IS WHAT COUNTS. Prove the row's statement (the work); the ties are given (YtknocndfjnjjfaaDoorTie.lean); close each card by the builder's one call (the guide's Derived/Test/ToyasCard.lean, 'card_holds'). Laid BY PROGRAM, IN A SANDBOX (cutbox-door.mjs). By AI agents, Wed Nov 11 2026. No macro, syntax, notation, axiom, sorry.
-/
import Derived.Test.YtknocndfjnjjfaaDoorRows
import GoSem.ClaimSeven
namespace Go.Proofs.YtknocndfjnjjfaaDoor
namespace Rows

/-- THE TIED CARD OF 'laws.FnUnionMeet'. -/
def fnUnionMeetCard : Claim7 := { stood := { row := fnUnionMeetRow, standIns := [], harness := (true, "718875e97bbd898c28c3b86c3e3e990a8909224e7e02ead71c6e5ebcb29547f0"), looks := false }, kinds := [], alts := [], laidByText := true, laidKinds := [.data, .pinned], laidTests := true, laidLooks := .later }
def FnUnionMeetCardSaid : Prop := Claim7.holds Tryd.pinned (.plain (OpenSpec.ofChange fnUnionMeetSpec)) fnUnionMeetCard

/-- THE TIED CARD OF 'laws.FnOther'. -/
def fnOtherCard : Claim7 := { stood := { row := fnOtherRow, standIns := [], harness := (true, "718875e97bbd898c28c3b86c3e3e990a8909224e7e02ead71c6e5ebcb29547f0"), looks := false }, kinds := [], alts := [], laidByText := true, laidKinds := [.data, .pinned], laidTests := true, laidLooks := .later }
def FnOtherCardSaid : Prop := Claim7.holds Tryd.pinned (.plain (OpenSpec.ofChange fnOtherSpec)) fnOtherCard

/-- THE TIED CARD OF 'laws.FnCount'. -/
def fnCountCard : Claim7 := { stood := { row := fnCountRow, standIns := [], harness := (true, "718875e97bbd898c28c3b86c3e3e990a8909224e7e02ead71c6e5ebcb29547f0"), looks := false }, kinds := [], alts := [], laidByText := true, laidKinds := [.data, .pinned], laidTests := true, laidLooks := .later }
def FnCountCardSaid : Prop := Claim7.holds Tryd.pinned (.plain (OpenSpec.ofChange fnCountSpec)) fnCountCard

/-- THE TIED CARD OF 'laws.FnShiftSet'. -/
def fnShiftSetCard : Claim7 := { stood := { row := fnShiftSetRow, standIns := [], harness := (true, "718875e97bbd898c28c3b86c3e3e990a8909224e7e02ead71c6e5ebcb29547f0"), looks := false }, kinds := [], alts := [], laidByText := true, laidKinds := [.data, .pinned], laidTests := true, laidLooks := .later }
def FnShiftSetCardSaid : Prop := Claim7.holds Tryd.pinned (.plain (OpenSpec.ofChange fnShiftSetSpec)) fnShiftSetCard

/-- THE TIED CARD OF 'laws.FnStretch'. -/
def fnStretchCard : Claim7 := { stood := { row := fnStretchRow, standIns := [], harness := (true, "718875e97bbd898c28c3b86c3e3e990a8909224e7e02ead71c6e5ebcb29547f0"), looks := false }, kinds := [], alts := [], laidByText := true, laidKinds := [.data, .pinned], laidTests := true, laidLooks := .later }
def FnStretchCardSaid : Prop := Claim7.holds Tryd.pinned (.plain (OpenSpec.ofChange fnStretchSpec)) fnStretchCard

/-- THE TIED CARD OF 'laws.FnDivide'. -/
def fnDivideCard : Claim7 := { stood := { row := fnDivideRow, standIns := [], harness := (true, "718875e97bbd898c28c3b86c3e3e990a8909224e7e02ead71c6e5ebcb29547f0"), looks := false }, kinds := [], alts := [], laidByText := true, laidKinds := [.data, .pinned], laidTests := true, laidLooks := .later }
def FnDivideCardSaid : Prop := Claim7.holds Tryd.pinned (.plain (OpenSpec.ofChange fnDivideSpec)) fnDivideCard

/-- THE TIED CARD OF 'laws.FnSum'. -/
def fnSumCard : Claim7 := { stood := { row := fnSumRow, standIns := [], harness := (true, "718875e97bbd898c28c3b86c3e3e990a8909224e7e02ead71c6e5ebcb29547f0"), looks := false }, kinds := [], alts := [], laidByText := true, laidKinds := [.data, .pinned], laidTests := true, laidLooks := .later }
def FnSumCardSaid : Prop := Claim7.holds Tryd.pinned (.plain (OpenSpec.ofChange fnSumSpec)) fnSumCard

/-- THE TIED CARD OF 'laws.FnSumUnion'. -/
def fnSumUnionCard : Claim7 := { stood := { row := fnSumUnionRow, standIns := [], harness := (true, "718875e97bbd898c28c3b86c3e3e990a8909224e7e02ead71c6e5ebcb29547f0"), looks := false }, kinds := [], alts := [], laidByText := true, laidKinds := [.data, .pinned], laidTests := true, laidLooks := .later }
def FnSumUnionCardSaid : Prop := Claim7.holds Tryd.pinned (.plain (OpenSpec.ofChange fnSumUnionSpec)) fnSumUnionCard

/-- THE SECOND FORM's CARD OF 'laws.FnUnionMeet'. -/
def fnUnionMeetUptoCard : Claim7 := { stood := { row := fnUnionMeetUptoRow, standIns := [], harness := (true, "718875e97bbd898c28c3b86c3e3e990a8909224e7e02ead71c6e5ebcb29547f0"), looks := false }, kinds := [], alts := [], laidByText := true, laidKinds := [.data, .pinned], laidTests := true, laidLooks := .later }
def FnUnionMeetUptoCardSaid : Prop := Claim7.holds Tryd.pinned (.plain (OpenSpec.upto fnUnionMeetSpec)) fnUnionMeetUptoCard

/-- THE SECOND FORM's CARD OF 'laws.FnOther'. -/
def fnOtherUptoCard : Claim7 := { stood := { row := fnOtherUptoRow, standIns := [], harness := (true, "718875e97bbd898c28c3b86c3e3e990a8909224e7e02ead71c6e5ebcb29547f0"), looks := false }, kinds := [], alts := [], laidByText := true, laidKinds := [.data, .pinned], laidTests := true, laidLooks := .later }
def FnOtherUptoCardSaid : Prop := Claim7.holds Tryd.pinned (.plain (OpenSpec.upto fnOtherSpec)) fnOtherUptoCard

/-- THE SECOND FORM's CARD OF 'laws.FnCount'. -/
def fnCountUptoCard : Claim7 := { stood := { row := fnCountUptoRow, standIns := [], harness := (true, "718875e97bbd898c28c3b86c3e3e990a8909224e7e02ead71c6e5ebcb29547f0"), looks := false }, kinds := [], alts := [], laidByText := true, laidKinds := [.data, .pinned], laidTests := true, laidLooks := .later }
def FnCountUptoCardSaid : Prop := Claim7.holds Tryd.pinned (.plain (OpenSpec.upto fnCountSpec)) fnCountUptoCard

/-- THE SECOND FORM's CARD OF 'laws.FnShiftSet'. -/
def fnShiftSetUptoCard : Claim7 := { stood := { row := fnShiftSetUptoRow, standIns := [], harness := (true, "718875e97bbd898c28c3b86c3e3e990a8909224e7e02ead71c6e5ebcb29547f0"), looks := false }, kinds := [], alts := [], laidByText := true, laidKinds := [.data, .pinned], laidTests := true, laidLooks := .later }
def FnShiftSetUptoCardSaid : Prop := Claim7.holds Tryd.pinned (.plain (OpenSpec.upto fnShiftSetSpec)) fnShiftSetUptoCard

/-- THE SECOND FORM's CARD OF 'laws.FnStretch'. -/
def fnStretchUptoCard : Claim7 := { stood := { row := fnStretchUptoRow, standIns := [], harness := (true, "718875e97bbd898c28c3b86c3e3e990a8909224e7e02ead71c6e5ebcb29547f0"), looks := false }, kinds := [], alts := [], laidByText := true, laidKinds := [.data, .pinned], laidTests := true, laidLooks := .later }
def FnStretchUptoCardSaid : Prop := Claim7.holds Tryd.pinned (.plain (OpenSpec.upto fnStretchSpec)) fnStretchUptoCard

/-- THE SECOND FORM's CARD OF 'laws.FnDivide'. -/
def fnDivideUptoCard : Claim7 := { stood := { row := fnDivideUptoRow, standIns := [], harness := (true, "718875e97bbd898c28c3b86c3e3e990a8909224e7e02ead71c6e5ebcb29547f0"), looks := false }, kinds := [], alts := [], laidByText := true, laidKinds := [.data, .pinned], laidTests := true, laidLooks := .later }
def FnDivideUptoCardSaid : Prop := Claim7.holds Tryd.pinned (.plain (OpenSpec.upto fnDivideSpec)) fnDivideUptoCard

/-- THE SECOND FORM's CARD OF 'laws.FnSum'. -/
def fnSumUptoCard : Claim7 := { stood := { row := fnSumUptoRow, standIns := [], harness := (true, "718875e97bbd898c28c3b86c3e3e990a8909224e7e02ead71c6e5ebcb29547f0"), looks := false }, kinds := [], alts := [], laidByText := true, laidKinds := [.data, .pinned], laidTests := true, laidLooks := .later }
def FnSumUptoCardSaid : Prop := Claim7.holds Tryd.pinned (.plain (OpenSpec.upto fnSumSpec)) fnSumUptoCard

/-- THE SECOND FORM's CARD OF 'laws.FnSumUnion'. -/
def fnSumUnionUptoCard : Claim7 := { stood := { row := fnSumUnionUptoRow, standIns := [], harness := (true, "718875e97bbd898c28c3b86c3e3e990a8909224e7e02ead71c6e5ebcb29547f0"), looks := false }, kinds := [], alts := [], laidByText := true, laidKinds := [.data, .pinned], laidTests := true, laidLooks := .later }
def FnSumUnionUptoCardSaid : Prop := Claim7.holds Tryd.pinned (.plain (OpenSpec.upto fnSumUnionSpec)) fnSumUnionUptoCard
end Rows
end Go.Proofs.YtknocndfjnjjfaaDoor
