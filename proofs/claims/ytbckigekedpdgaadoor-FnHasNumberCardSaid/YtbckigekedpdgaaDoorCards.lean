/-
  DERIVED. GIVEN WITH THE SEED: THE CARDS: each row of YtbckigekedpdgaaDoorRows.lean that lists a variable, with what it lists TIED to the program's text (the seventh form; the later family's looks); each row that meets fmt, with fmt's text TOLD by the authors' own Lean function (tested against real Go, not proved from fmt's source: count such statements apart). THE CARD IS WHAT COUNTS. Prove the row's statement (the work); the ties are given (YtbckigekedpdgaaDoorTie.lean); close each card by the builder's one call (the guide's Derived/Test/ToyasCard.lean, 'card_holds'). Laid BY PROGRAM, IN A SANDBOX (cutbox-door.mjs). By AI agents, Wed Nov 11 2026. No macro, syntax, notation, axiom, sorry.
-/
import Derived.Test.YtbckigekedpdgaaDoorRows
import GoSem.ClaimSeven
namespace Go.Proofs.YtbckigekedpdgaaDoor
namespace Rows

/-- THE TIED CARD OF 'laws.FnHasNumber'. -/
def fnHasNumberCard : Claim7 := { stood := { row := fnHasNumberRow, standIns := [], harness := (true, "f538ffc3508bfe919cb5ab56b1f21894193014bb96f00f056ea866390368eae0"), looks := false }, kinds := [], alts := [], laidByText := true, laidKinds := [.data, .pinned], laidTests := true, laidLooks := .later }
def FnHasNumberCardSaid : Prop := Claim7.holds Tryd.pinned (.plain (OpenSpec.ofChange fnHasNumberSpec)) fnHasNumberCard

/-- THE TIED CARD OF 'laws.FnNormalSet'. -/
def fnNormalSetCard : Claim7 := { stood := { row := fnNormalSetRow, standIns := [], harness := (true, "f538ffc3508bfe919cb5ab56b1f21894193014bb96f00f056ea866390368eae0"), looks := false }, kinds := [], alts := [], laidByText := true, laidKinds := [.data, .pinned], laidTests := true, laidLooks := .later }
def FnNormalSetCardSaid : Prop := Claim7.holds Tryd.pinned (.plain (OpenSpec.ofChange fnNormalSetSpec)) fnNormalSetCard

/-- THE TIED CARD OF 'laws.FnSameSet'. -/
def fnSameSetCard : Claim7 := { stood := { row := fnSameSetRow, standIns := [], harness := (true, "f538ffc3508bfe919cb5ab56b1f21894193014bb96f00f056ea866390368eae0"), looks := false }, kinds := [], alts := [], laidByText := true, laidKinds := [.data, .pinned], laidTests := true, laidLooks := .later }
def FnSameSetCardSaid : Prop := Claim7.holds Tryd.pinned (.plain (OpenSpec.ofChange fnSameSetSpec)) fnSameSetCard

/-- THE TIED CARD OF 'laws.FnLeastGreatest'. -/
def fnLeastGreatestCard : Claim7 := { stood := { row := fnLeastGreatestRow, standIns := [], harness := (true, "f538ffc3508bfe919cb5ab56b1f21894193014bb96f00f056ea866390368eae0"), looks := false }, kinds := [], alts := [], laidByText := true, laidKinds := [.data, .pinned], laidTests := true, laidLooks := .later }
def FnLeastGreatestCardSaid : Prop := Claim7.holds Tryd.pinned (.plain (OpenSpec.ofChange fnLeastGreatestSpec)) fnLeastGreatestCard

/-- THE SECOND FORM's CARD OF 'laws.FnHasNumber'. -/
def fnHasNumberUptoCard : Claim7 := { stood := { row := fnHasNumberUptoRow, standIns := [], harness := (true, "f538ffc3508bfe919cb5ab56b1f21894193014bb96f00f056ea866390368eae0"), looks := false }, kinds := [], alts := [], laidByText := true, laidKinds := [.data, .pinned], laidTests := true, laidLooks := .later }
def FnHasNumberUptoCardSaid : Prop := Claim7.holds Tryd.pinned (.plain (OpenSpec.upto fnHasNumberSpec)) fnHasNumberUptoCard

/-- THE SECOND FORM's CARD OF 'laws.FnNormalSet'. -/
def fnNormalSetUptoCard : Claim7 := { stood := { row := fnNormalSetUptoRow, standIns := [], harness := (true, "f538ffc3508bfe919cb5ab56b1f21894193014bb96f00f056ea866390368eae0"), looks := false }, kinds := [], alts := [], laidByText := true, laidKinds := [.data, .pinned], laidTests := true, laidLooks := .later }
def FnNormalSetUptoCardSaid : Prop := Claim7.holds Tryd.pinned (.plain (OpenSpec.upto fnNormalSetSpec)) fnNormalSetUptoCard

/-- THE SECOND FORM's CARD OF 'laws.FnSameSet'. -/
def fnSameSetUptoCard : Claim7 := { stood := { row := fnSameSetUptoRow, standIns := [], harness := (true, "f538ffc3508bfe919cb5ab56b1f21894193014bb96f00f056ea866390368eae0"), looks := false }, kinds := [], alts := [], laidByText := true, laidKinds := [.data, .pinned], laidTests := true, laidLooks := .later }
def FnSameSetUptoCardSaid : Prop := Claim7.holds Tryd.pinned (.plain (OpenSpec.upto fnSameSetSpec)) fnSameSetUptoCard

/-- THE SECOND FORM's CARD OF 'laws.FnLeastGreatest'. -/
def fnLeastGreatestUptoCard : Claim7 := { stood := { row := fnLeastGreatestUptoRow, standIns := [], harness := (true, "f538ffc3508bfe919cb5ab56b1f21894193014bb96f00f056ea866390368eae0"), looks := false }, kinds := [], alts := [], laidByText := true, laidKinds := [.data, .pinned], laidTests := true, laidLooks := .later }
def FnLeastGreatestUptoCardSaid : Prop := Claim7.holds Tryd.pinned (.plain (OpenSpec.upto fnLeastGreatestSpec)) fnLeastGreatestUptoCard
end Rows
end Go.Proofs.YtbckigekedpdgaaDoor
