/-
  DERIVED. GIVEN WITH THE SEED: THE CARDS: each row of YtpheihejgnlanaaDoorRows.lean that lists a variable, with what it lists TIED to the program's text (the seventh form; the later family's looks); each row that meets fmt, with fmt's text TOLD by the authors' own Lean function (tested against real Go, not proved from fmt's source: count such statements apart). THE CARD IS WHAT COUNTS. Prove the row's statement (the work); the ties are given (YtpheihejgnlanaaDoorTie.lean); close each card by the builder's one call (the guide's Derived/Test/ToyasCard.lean, 'card_holds'). Laid BY PROGRAM, IN A SANDBOX (cutbox-door.mjs). By AI agents, Wed Nov 11 2026. No macro, syntax, notation, axiom, sorry.
-/
import Derived.Test.YtpheihejgnlanaaDoorRows
import GoSem.ClaimSeven
namespace Go.Proofs.YtpheihejgnlanaaDoor
namespace Rows

/-- THE TIED CARD OF 'laws.FnExactUnionSets'. -/
def fnExactUnionSetsCard : Claim7 := { stood := { row := fnExactUnionSetsRow, standIns := [], harness := (true, "54dc9044f7cdba32fbe00b68973b287188bfb6a4b24045704fabc4eb117a5405"), looks := false }, kinds := [], alts := [], laidByText := true, laidKinds := [.data, .pinned], laidTests := true, laidLooks := .later }
def FnExactUnionSetsCardSaid : Prop := Claim7.holds Tryd.pinned (.plain (OpenSpec.ofChange fnExactUnionSetsSpec)) fnExactUnionSetsCard

/-- THE TIED CARD OF 'laws.FnExactMeetSets'. -/
def fnExactMeetSetsCard : Claim7 := { stood := { row := fnExactMeetSetsRow, standIns := [], harness := (true, "54dc9044f7cdba32fbe00b68973b287188bfb6a4b24045704fabc4eb117a5405"), looks := false }, kinds := [], alts := [], laidByText := true, laidKinds := [.data, .pinned], laidTests := true, laidLooks := .later }
def FnExactMeetSetsCardSaid : Prop := Claim7.holds Tryd.pinned (.plain (OpenSpec.ofChange fnExactMeetSetsSpec)) fnExactMeetSetsCard

/-- THE TIED CARD OF 'laws.FnExactOtherSet'. -/
def fnExactOtherSetCard : Claim7 := { stood := { row := fnExactOtherSetRow, standIns := [], harness := (true, "54dc9044f7cdba32fbe00b68973b287188bfb6a4b24045704fabc4eb117a5405"), looks := false }, kinds := [], alts := [], laidByText := true, laidKinds := [.data, .pinned], laidTests := true, laidLooks := .later }
def FnExactOtherSetCardSaid : Prop := Claim7.holds Tryd.pinned (.plain (OpenSpec.ofChange fnExactOtherSetSpec)) fnExactOtherSetCard

/-- THE TIED CARD OF 'laws.FnExactProgressionSet'. -/
def fnExactProgressionSetCard : Claim7 := { stood := { row := fnExactProgressionSetRow, standIns := [], harness := (true, "54dc9044f7cdba32fbe00b68973b287188bfb6a4b24045704fabc4eb117a5405"), looks := false }, kinds := [], alts := [], laidByText := true, laidKinds := [.data, .pinned], laidTests := true, laidLooks := .later }
def FnExactProgressionSetCardSaid : Prop := Claim7.holds Tryd.pinned (.plain (OpenSpec.ofChange fnExactProgressionSetSpec)) fnExactProgressionSetCard

/-- THE TIED CARD OF 'laws.FnExactShiftSet'. -/
def fnExactShiftSetCard : Claim7 := { stood := { row := fnExactShiftSetRow, standIns := [], harness := (true, "54dc9044f7cdba32fbe00b68973b287188bfb6a4b24045704fabc4eb117a5405"), looks := false }, kinds := [], alts := [], laidByText := true, laidKinds := [.data, .pinned], laidTests := true, laidLooks := .later }
def FnExactShiftSetCardSaid : Prop := Claim7.holds Tryd.pinned (.plain (OpenSpec.ofChange fnExactShiftSetSpec)) fnExactShiftSetCard

/-- THE TIED CARD OF 'laws.FnExactStretchSet'. -/
def fnExactStretchSetCard : Claim7 := { stood := { row := fnExactStretchSetRow, standIns := [], harness := (true, "54dc9044f7cdba32fbe00b68973b287188bfb6a4b24045704fabc4eb117a5405"), looks := false }, kinds := [], alts := [], laidByText := true, laidKinds := [.data, .pinned], laidTests := true, laidLooks := .later }
def FnExactStretchSetCardSaid : Prop := Claim7.holds Tryd.pinned (.plain (OpenSpec.ofChange fnExactStretchSetSpec)) fnExactStretchSetCard

/-- THE TIED CARD OF 'laws.FnExactDivideSet'. -/
def fnExactDivideSetCard : Claim7 := { stood := { row := fnExactDivideSetRow, standIns := [], harness := (true, "54dc9044f7cdba32fbe00b68973b287188bfb6a4b24045704fabc4eb117a5405"), looks := false }, kinds := [], alts := [], laidByText := true, laidKinds := [.data, .pinned], laidTests := true, laidLooks := .later }
def FnExactDivideSetCardSaid : Prop := Claim7.holds Tryd.pinned (.plain (OpenSpec.ofChange fnExactDivideSetSpec)) fnExactDivideSetCard

/-- THE TIED CARD OF 'laws.FnExactSumSets'. -/
def fnExactSumSetsCard : Claim7 := { stood := { row := fnExactSumSetsRow, standIns := [], harness := (true, "54dc9044f7cdba32fbe00b68973b287188bfb6a4b24045704fabc4eb117a5405"), looks := false }, kinds := [], alts := [], laidByText := true, laidKinds := [.data, .pinned], laidTests := true, laidLooks := .later }
def FnExactSumSetsCardSaid : Prop := Claim7.holds Tryd.pinned (.plain (OpenSpec.ofChange fnExactSumSetsSpec)) fnExactSumSetsCard

/-- THE TIED CARD OF 'laws.FnProgression'. -/
def fnProgressionCard : Claim7 := { stood := { row := fnProgressionRow, standIns := [], harness := (true, "54dc9044f7cdba32fbe00b68973b287188bfb6a4b24045704fabc4eb117a5405"), looks := false }, kinds := [], alts := [], laidByText := true, laidKinds := [.data, .pinned], laidTests := true, laidLooks := .later }
def FnProgressionCardSaid : Prop := Claim7.holds Tryd.pinned (.plain (OpenSpec.ofChange fnProgressionSpec)) fnProgressionCard

/-- THE TIED CARD OF 'laws.FnFrobenius'. -/
def fnFrobeniusCard : Claim7 := { stood := { row := fnFrobeniusRow, standIns := [], harness := (true, "54dc9044f7cdba32fbe00b68973b287188bfb6a4b24045704fabc4eb117a5405"), looks := false }, kinds := [], alts := [], laidByText := true, laidKinds := [.data, .pinned], laidTests := true, laidLooks := .later }
def FnFrobeniusCardSaid : Prop := Claim7.holds Tryd.pinned (.plain (OpenSpec.ofChange fnFrobeniusSpec)) fnFrobeniusCard

/-- THE SECOND FORM's CARD OF 'laws.FnExactUnionSets'. -/
def fnExactUnionSetsUptoCard : Claim7 := { stood := { row := fnExactUnionSetsUptoRow, standIns := [], harness := (true, "54dc9044f7cdba32fbe00b68973b287188bfb6a4b24045704fabc4eb117a5405"), looks := false }, kinds := [], alts := [], laidByText := true, laidKinds := [.data, .pinned], laidTests := true, laidLooks := .later }
def FnExactUnionSetsUptoCardSaid : Prop := Claim7.holds Tryd.pinned (.plain (OpenSpec.upto fnExactUnionSetsSpec)) fnExactUnionSetsUptoCard

/-- THE SECOND FORM's CARD OF 'laws.FnExactMeetSets'. -/
def fnExactMeetSetsUptoCard : Claim7 := { stood := { row := fnExactMeetSetsUptoRow, standIns := [], harness := (true, "54dc9044f7cdba32fbe00b68973b287188bfb6a4b24045704fabc4eb117a5405"), looks := false }, kinds := [], alts := [], laidByText := true, laidKinds := [.data, .pinned], laidTests := true, laidLooks := .later }
def FnExactMeetSetsUptoCardSaid : Prop := Claim7.holds Tryd.pinned (.plain (OpenSpec.upto fnExactMeetSetsSpec)) fnExactMeetSetsUptoCard

/-- THE SECOND FORM's CARD OF 'laws.FnExactOtherSet'. -/
def fnExactOtherSetUptoCard : Claim7 := { stood := { row := fnExactOtherSetUptoRow, standIns := [], harness := (true, "54dc9044f7cdba32fbe00b68973b287188bfb6a4b24045704fabc4eb117a5405"), looks := false }, kinds := [], alts := [], laidByText := true, laidKinds := [.data, .pinned], laidTests := true, laidLooks := .later }
def FnExactOtherSetUptoCardSaid : Prop := Claim7.holds Tryd.pinned (.plain (OpenSpec.upto fnExactOtherSetSpec)) fnExactOtherSetUptoCard

/-- THE SECOND FORM's CARD OF 'laws.FnExactProgressionSet'. -/
def fnExactProgressionSetUptoCard : Claim7 := { stood := { row := fnExactProgressionSetUptoRow, standIns := [], harness := (true, "54dc9044f7cdba32fbe00b68973b287188bfb6a4b24045704fabc4eb117a5405"), looks := false }, kinds := [], alts := [], laidByText := true, laidKinds := [.data, .pinned], laidTests := true, laidLooks := .later }
def FnExactProgressionSetUptoCardSaid : Prop := Claim7.holds Tryd.pinned (.plain (OpenSpec.upto fnExactProgressionSetSpec)) fnExactProgressionSetUptoCard

/-- THE SECOND FORM's CARD OF 'laws.FnExactShiftSet'. -/
def fnExactShiftSetUptoCard : Claim7 := { stood := { row := fnExactShiftSetUptoRow, standIns := [], harness := (true, "54dc9044f7cdba32fbe00b68973b287188bfb6a4b24045704fabc4eb117a5405"), looks := false }, kinds := [], alts := [], laidByText := true, laidKinds := [.data, .pinned], laidTests := true, laidLooks := .later }
def FnExactShiftSetUptoCardSaid : Prop := Claim7.holds Tryd.pinned (.plain (OpenSpec.upto fnExactShiftSetSpec)) fnExactShiftSetUptoCard

/-- THE SECOND FORM's CARD OF 'laws.FnExactStretchSet'. -/
def fnExactStretchSetUptoCard : Claim7 := { stood := { row := fnExactStretchSetUptoRow, standIns := [], harness := (true, "54dc9044f7cdba32fbe00b68973b287188bfb6a4b24045704fabc4eb117a5405"), looks := false }, kinds := [], alts := [], laidByText := true, laidKinds := [.data, .pinned], laidTests := true, laidLooks := .later }
def FnExactStretchSetUptoCardSaid : Prop := Claim7.holds Tryd.pinned (.plain (OpenSpec.upto fnExactStretchSetSpec)) fnExactStretchSetUptoCard

/-- THE SECOND FORM's CARD OF 'laws.FnExactDivideSet'. -/
def fnExactDivideSetUptoCard : Claim7 := { stood := { row := fnExactDivideSetUptoRow, standIns := [], harness := (true, "54dc9044f7cdba32fbe00b68973b287188bfb6a4b24045704fabc4eb117a5405"), looks := false }, kinds := [], alts := [], laidByText := true, laidKinds := [.data, .pinned], laidTests := true, laidLooks := .later }
def FnExactDivideSetUptoCardSaid : Prop := Claim7.holds Tryd.pinned (.plain (OpenSpec.upto fnExactDivideSetSpec)) fnExactDivideSetUptoCard

/-- THE SECOND FORM's CARD OF 'laws.FnExactSumSets'. -/
def fnExactSumSetsUptoCard : Claim7 := { stood := { row := fnExactSumSetsUptoRow, standIns := [], harness := (true, "54dc9044f7cdba32fbe00b68973b287188bfb6a4b24045704fabc4eb117a5405"), looks := false }, kinds := [], alts := [], laidByText := true, laidKinds := [.data, .pinned], laidTests := true, laidLooks := .later }
def FnExactSumSetsUptoCardSaid : Prop := Claim7.holds Tryd.pinned (.plain (OpenSpec.upto fnExactSumSetsSpec)) fnExactSumSetsUptoCard

/-- THE SECOND FORM's CARD OF 'laws.FnProgression'. -/
def fnProgressionUptoCard : Claim7 := { stood := { row := fnProgressionUptoRow, standIns := [], harness := (true, "54dc9044f7cdba32fbe00b68973b287188bfb6a4b24045704fabc4eb117a5405"), looks := false }, kinds := [], alts := [], laidByText := true, laidKinds := [.data, .pinned], laidTests := true, laidLooks := .later }
def FnProgressionUptoCardSaid : Prop := Claim7.holds Tryd.pinned (.plain (OpenSpec.upto fnProgressionSpec)) fnProgressionUptoCard

/-- THE SECOND FORM's CARD OF 'laws.FnFrobenius'. -/
def fnFrobeniusUptoCard : Claim7 := { stood := { row := fnFrobeniusUptoRow, standIns := [], harness := (true, "54dc9044f7cdba32fbe00b68973b287188bfb6a4b24045704fabc4eb117a5405"), looks := false }, kinds := [], alts := [], laidByText := true, laidKinds := [.data, .pinned], laidTests := true, laidLooks := .later }
def FnFrobeniusUptoCardSaid : Prop := Claim7.holds Tryd.pinned (.plain (OpenSpec.upto fnFrobeniusSpec)) fnFrobeniusUptoCard
end Rows
end Go.Proofs.YtpheihejgnlanaaDoor
