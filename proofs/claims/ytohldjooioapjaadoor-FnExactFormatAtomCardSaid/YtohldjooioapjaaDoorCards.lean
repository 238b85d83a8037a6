/-
  DERIVED. GIVEN WITH THE SEED: THE CARDS: each row of YtohldjooioapjaaDoorRows.lean that lists a variable, with what it lists TIED to the program's text (the seventh form; the later family's looks); each row that meets fmt, with fmt's text TOLD by the authors' own Lean function (tested against real Go, not proved from fmt's source: count such statements apart). THE CARD IS WHAT COUNTS. Prove the row's statement (the work); the ties are given (YtohldjooioapjaaDoorTie.lean); close each card by the builder's one call (the guide's Derived/Test/ToyasCard.lean, 'card_holds'). Laid BY PROGRAM, IN A SANDBOX (cutbox-door.mjs). By AI agents, Wed Nov 11 2026. No macro, syntax, notation, axiom, sorry.
-/
import Derived.Test.YtohldjooioapjaaDoorRows
import GoSem.ClaimSeven
namespace Go.Proofs.YtohldjooioapjaaDoor
namespace Rows

/-- THE TIED CARD OF 'laws.FnTermText'. -/
def fnTermTextCard : Claim7 := { stood := { row := fnTermTextRow, standIns := [], harness := (true, "fc119eb7f956197a7d6d071acf4b5a92e63b6d60ea06f9f2ebfb2e5a3aa01508"), looks := true }, kinds := [], alts := [], laidByText := true, laidKinds := [.data, .data, .data, .sentinel, .sentinel], laidTests := true, laidLooks := .later }
def FnTermTextCardSaid : Prop := Claim7.holds Tryd.pinned (.plain (OpenSpec.ofChange fnTermTextSpec)) fnTermTextCard

/-- THE TIED CARD OF 'laws.FnAtomText'. -/
def fnAtomTextCard : Claim7 := { stood := { row := fnAtomTextRow, standIns := [], harness := (true, "fc119eb7f956197a7d6d071acf4b5a92e63b6d60ea06f9f2ebfb2e5a3aa01508"), looks := true }, kinds := [], alts := [], laidByText := true, laidKinds := [.data, .data, .data, .sentinel, .sentinel], laidTests := true, laidLooks := .later }
def FnAtomTextCardSaid : Prop := Claim7.holds Tryd.pinned (.plain (OpenSpec.ofChange fnAtomTextSpec)) fnAtomTextCard

/-- THE TIED CARD OF 'laws.FnSameFormula'. -/
def fnSameFormulaCard : Claim7 := { stood := { row := fnSameFormulaRow, standIns := [], harness := (true, "fc119eb7f956197a7d6d071acf4b5a92e63b6d60ea06f9f2ebfb2e5a3aa01508"), looks := true }, kinds := [], alts := [], laidByText := true, laidKinds := [.data, .data, .data, .data], laidTests := true, laidLooks := .later }
def FnSameFormulaCardSaid : Prop := Claim7.holds Tryd.pinned (.plain (OpenSpec.ofChange fnSameFormulaSpec)) fnSameFormulaCard

/-- THE TIED CARD OF 'laws.FnExactFormatTerm'. -/
def fnExactFormatTermCard : Claim7 := { stood := { row := fnExactFormatTermRow, standIns := [], harness := (true, "fc119eb7f956197a7d6d071acf4b5a92e63b6d60ea06f9f2ebfb2e5a3aa01508"), looks := true }, kinds := [], alts := [], laidByText := true, laidKinds := [.data, .data, .data], laidTests := true, laidLooks := .later }
def FnExactFormatTermCardSaid : Prop := Claim7.holds Tryd.pinned (.plain (OpenSpec.ofChange fnExactFormatTermSpec)) fnExactFormatTermCard

/-- THE TIED CARD OF 'laws.FnExactParseTerm'. -/
def fnExactParseTermCard : Claim7 := { stood := { row := fnExactParseTermRow, standIns := [], harness := (true, "fc119eb7f956197a7d6d071acf4b5a92e63b6d60ea06f9f2ebfb2e5a3aa01508"), looks := true }, kinds := [], alts := [], laidByText := true, laidKinds := [.data, .data, .data, .sentinel, .sentinel], laidTests := true, laidLooks := .later }
def FnExactParseTermCardSaid : Prop := Claim7.holds Tryd.pinned (.plain (OpenSpec.ofChange fnExactParseTermSpec)) fnExactParseTermCard

/-- THE TIED CARD OF 'laws.FnExactFormatAtom'. -/
def fnExactFormatAtomCard : Claim7 := { stood := { row := fnExactFormatAtomRow, standIns := [], harness := (true, "fc119eb7f956197a7d6d071acf4b5a92e63b6d60ea06f9f2ebfb2e5a3aa01508"), looks := true }, kinds := [], alts := [], laidByText := true, laidKinds := [.data, .data, .data], laidTests := true, laidLooks := .later }
def FnExactFormatAtomCardSaid : Prop := Claim7.holds Tryd.pinned (.plain (OpenSpec.ofChange fnExactFormatAtomSpec)) fnExactFormatAtomCard

/-- THE TIED CARD OF 'laws.FnExactParseAtom'. -/
def fnExactParseAtomCard : Claim7 := { stood := { row := fnExactParseAtomRow, standIns := [], harness := (true, "fc119eb7f956197a7d6d071acf4b5a92e63b6d60ea06f9f2ebfb2e5a3aa01508"), looks := true }, kinds := [], alts := [], laidByText := true, laidKinds := [.data, .data, .data, .sentinel, .sentinel], laidTests := true, laidLooks := .later }
def FnExactParseAtomCardSaid : Prop := Claim7.holds Tryd.pinned (.plain (OpenSpec.ofChange fnExactParseAtomSpec)) fnExactParseAtomCard

/-- THE TIED CARD OF 'laws.FnExactFormatFormula'. -/
def fnExactFormatFormulaCard : Claim7 := { stood := { row := fnExactFormatFormulaRow, standIns := [], harness := (true, "fc119eb7f956197a7d6d071acf4b5a92e63b6d60ea06f9f2ebfb2e5a3aa01508"), looks := true }, kinds := [], alts := [], laidByText := true, laidKinds := [.data, .data, .data, .data], laidTests := true, laidLooks := .later }
def FnExactFormatFormulaCardSaid : Prop := Claim7.holds Tryd.pinned (.plain (OpenSpec.ofChange fnExactFormatFormulaSpec)) fnExactFormatFormulaCard

/-- THE TIED CARD OF 'laws.FnExactSameFormula'. -/
def fnExactSameFormulaCard : Claim7 := { stood := { row := fnExactSameFormulaRow, standIns := [], harness := (true, "fc119eb7f956197a7d6d071acf4b5a92e63b6d60ea06f9f2ebfb2e5a3aa01508"), looks := true }, kinds := [], alts := [], laidByText := true, laidKinds := [.data, .data, .data, .data], laidTests := true, laidLooks := .later }
def FnExactSameFormulaCardSaid : Prop := Claim7.holds Tryd.pinned (.plain (OpenSpec.ofChange fnExactSameFormulaSpec)) fnExactSameFormulaCard

/-- THE TIED CARD OF 'laws.FnExactFormatClauses'. -/
def fnExactFormatClausesCard : Claim7 := { stood := { row := fnExactFormatClausesRow, standIns := [], harness := (true, "fc119eb7f956197a7d6d071acf4b5a92e63b6d60ea06f9f2ebfb2e5a3aa01508"), looks := true }, kinds := [], alts := [], laidByText := true, laidKinds := [.data, .data, .data, .data], laidTests := true, laidLooks := .later }
def FnExactFormatClausesCardSaid : Prop := Claim7.holds Tryd.pinned (.plain (OpenSpec.ofChange fnExactFormatClausesSpec)) fnExactFormatClausesCard

/-- THE SECOND FORM's CARD OF 'laws.FnTermText'. -/
def fnTermTextUptoCard : Claim7 := { stood := { row := fnTermTextUptoRow, standIns := [], harness := (true, "fc119eb7f956197a7d6d071acf4b5a92e63b6d60ea06f9f2ebfb2e5a3aa01508"), looks := true }, kinds := [], alts := [], laidByText := true, laidKinds := [.data, .data, .data, .sentinel, .sentinel], laidTests := true, laidLooks := .later }
def FnTermTextUptoCardSaid : Prop := Claim7.holds Tryd.pinned (.plain (OpenSpec.upto fnTermTextSpec)) fnTermTextUptoCard

/-- THE SECOND FORM's CARD OF 'laws.FnAtomText'. -/
def fnAtomTextUptoCard : Claim7 := { stood := { row := fnAtomTextUptoRow, standIns := [], harness := (true, "fc119eb7f956197a7d6d071acf4b5a92e63b6d60ea06f9f2ebfb2e5a3aa01508"), looks := true }, kinds := [], alts := [], laidByText := true, laidKinds := [.data, .data, .data, .sentinel, .sentinel], laidTests := true, laidLooks := .later }
def FnAtomTextUptoCardSaid : Prop := Claim7.holds Tryd.pinned (.plain (OpenSpec.upto fnAtomTextSpec)) fnAtomTextUptoCard

/-- THE SECOND FORM's CARD OF 'laws.FnSameFormula'. -/
def fnSameFormulaUptoCard : Claim7 := { stood := { row := fnSameFormulaUptoRow, standIns := [], harness := (true, "fc119eb7f956197a7d6d071acf4b5a92e63b6d60ea06f9f2ebfb2e5a3aa01508"), looks := true }, kinds := [], alts := [], laidByText := true, laidKinds := [.data, .data, .data, .data], laidTests := true, laidLooks := .later }
def FnSameFormulaUptoCardSaid : Prop := Claim7.holds Tryd.pinned (.plain (OpenSpec.upto fnSameFormulaSpec)) fnSameFormulaUptoCard

/-- THE SECOND FORM's CARD OF 'laws.FnExactFormatTerm'. -/
def fnExactFormatTermUptoCard : Claim7 := { stood := { row := fnExactFormatTermUptoRow, standIns := [], harness := (true, "fc119eb7f956197a7d6d071acf4b5a92e63b6d60ea06f9f2ebfb2e5a3aa01508"), looks := true }, kinds := [], alts := [], laidByText := true, laidKinds := [.data, .data, .data], laidTests := true, laidLooks := .later }
def FnExactFormatTermUptoCardSaid : Prop := Claim7.holds Tryd.pinned (.plain (OpenSpec.upto fnExactFormatTermSpec)) fnExactFormatTermUptoCard

/-- THE SECOND FORM's CARD OF 'laws.FnExactParseTerm'. -/
def fnExactParseTermUptoCard : Claim7 := { stood := { row := fnExactParseTermUptoRow, standIns := [], harness := (true, "fc119eb7f956197a7d6d071acf4b5a92e63b6d60ea06f9f2ebfb2e5a3aa01508"), looks := true }, kinds := [], alts := [], laidByText := true, laidKinds := [.data, .data, .data, .sentinel, .sentinel], laidTests := true, laidLooks := .later }
def FnExactParseTermUptoCardSaid : Prop := Claim7.holds Tryd.pinned (.plain (OpenSpec.upto fnExactParseTermSpec)) fnExactParseTermUptoCard

/-- THE SECOND FORM's CARD OF 'laws.FnExactFormatAtom'. -/
def fnExactFormatAtomUptoCard : Claim7 := { stood := { row := fnExactFormatAtomUptoRow, standIns := [], harness := (true, "fc119eb7f956197a7d6d071acf4b5a92e63b6d60ea06f9f2ebfb2e5a3aa01508"), looks := true }, kinds := [], alts := [], laidByText := true, laidKinds := [.data, .data, .data], laidTests := true, laidLooks := .later }
def FnExactFormatAtomUptoCardSaid : Prop := Claim7.holds Tryd.pinned (.plain (OpenSpec.upto fnExactFormatAtomSpec)) fnExactFormatAtomUptoCard

/-- THE SECOND FORM's CARD OF 'laws.FnExactParseAtom'. -/
def fnExactParseAtomUptoCard : Claim7 := { stood := { row := fnExactParseAtomUptoRow, standIns := [], harness := (true, "fc119eb7f956197a7d6d071acf4b5a92e63b6d60ea06f9f2ebfb2e5a3aa01508"), looks := true }, kinds := [], alts := [], laidByText := true, laidKinds := [.data, .data, .data, .sentinel, .sentinel], laidTests := true, laidLooks := .later }
def FnExactParseAtomUptoCardSaid : Prop := Claim7.holds Tryd.pinned (.plain (OpenSpec.upto fnExactParseAtomSpec)) fnExactParseAtomUptoCard

/-- THE SECOND FORM's CARD OF 'laws.FnExactFormatFormula'. -/
def fnExactFormatFormulaUptoCard : Claim7 := { stood := { row := fnExactFormatFormulaUptoRow, standIns := [], harness := (true, "fc119eb7f956197a7d6d071acf4b5a92e63b6d60ea06f9f2ebfb2e5a3aa01508"), looks := true }, kinds := [], alts := [], laidByText := true, laidKinds := [.data, .data, .data, .data], laidTests := true, laidLooks := .later }
def FnExactFormatFormulaUptoCardSaid : Prop := Claim7.holds Tryd.pinned (.plain (OpenSpec.upto fnExactFormatFormulaSpec)) fnExactFormatFormulaUptoCard

/-- THE SECOND FORM's CARD OF 'laws.FnExactSameFormula'. -/
def fnExactSameFormulaUptoCard : Claim7 := { stood := { row := fnExactSameFormulaUptoRow, standIns := [], harness := (true, "fc119eb7f956197a7d6d071acf4b5a92e63b6d60ea06f9f2ebfb2e5a3aa01508"), looks := true }, kinds := [], alts := [], laidByText := true, laidKinds := [.data, .data, .data, .data], laidTests := true, laidLooks := .later }
def FnExactSameFormulaUptoCardSaid : Prop := Claim7.holds Tryd.pinned (.plain (OpenSpec.upto fnExactSameFormulaSpec)) fnExactSameFormulaUptoCard

/-- THE SECOND FORM's CARD OF 'laws.FnExactFormatClauses'. -/
def fnExactFormatClausesUptoCard : Claim7 := { stood := { row := fnExactFormatClausesUptoRow, standIns := [], harness := (true, "fc119eb7f956197a7d6d071acf4b5a92e63b6d60ea06f9f2ebfb2e5a3aa01508"), looks := true }, kinds := [], alts := [], laidByText := true, laidKinds := [.data, .data, .data, .data], laidTests := true, laidLooks := .later }
def FnExactFormatClausesUptoCardSaid : Prop := Claim7.holds Tryd.pinned (.plain (OpenSpec.upto fnExactFormatClausesSpec)) fnExactFormatClausesUptoCard
end Rows
end Go.Proofs.YtohldjooioapjaaDoor
