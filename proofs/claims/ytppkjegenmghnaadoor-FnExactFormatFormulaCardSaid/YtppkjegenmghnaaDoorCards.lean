/-
  DERIVED. GIVEN WITH THE SEED: THE CARDS: each row of YtppkjegenmghnaaDoorRows.lean that lists a variable, with what it lists TIED to the program's text (the seventh form; the later family's looks); each row that meets fmt, with fmt's text TOLD by the authors' own Lean function (tested against real Go, not proved from fmt's source: count such statements apart). THE CARD IS WHAT COUNTS. Prove the row's statement (the work); the ties are given (YtppkjegenmghnaaDoorTie.lean); close each card by the builder's one call (the guide's Derived/Test/ToyasCard.lean, 'card_holds'). Laid BY PROGRAM, IN A SANDBOX (cutbox-door.mjs). By AI agents, Wed Nov 11 2026. No macro, syntax, notation, axiom, sorry.
-/
import Derived.Test.YtppkjegenmghnaaDoorRows
import GoSem.ClaimSeven
namespace Go.Proofs.YtppkjegenmghnaaDoor
namespace Rows

/-- THE TIED CARD OF 'laws.FnExactFormatSystem'. -/
def fnExactFormatSystemCard : Claim7 := { stood := { row := fnExactFormatSystemRow, standIns := [], harness := (true, "110013745f51a51eb917cac0729943404e95af2114916b3ed8c51dff3ea7ea7a"), looks := true }, kinds := [], alts := [], laidByText := true, laidKinds := [.data, .data, .data, .data], laidTests := true, laidLooks := .later }
def FnExactFormatSystemCardSaid : Prop := Claim7.holds Tryd.pinned (.plain (OpenSpec.ofChange fnExactFormatSystemSpec)) fnExactFormatSystemCard

/-- THE TIED CARD OF 'laws.FnExactFormatClauses'. -/
def fnExactFormatClausesCard : Claim7 := { stood := { row := fnExactFormatClausesRow, standIns := [], harness := (true, "110013745f51a51eb917cac0729943404e95af2114916b3ed8c51dff3ea7ea7a"), looks := true }, kinds := [], alts := [], laidByText := true, laidKinds := [.data, .data, .data, .data], laidTests := true, laidLooks := .later }
def FnExactFormatClausesCardSaid : Prop := Claim7.holds Tryd.pinned (.plain (OpenSpec.ofChange fnExactFormatClausesSpec)) fnExactFormatClausesCard

/-- THE TIED CARD OF 'laws.FnExactFormatFormula'. -/
def fnExactFormatFormulaCard : Claim7 := { stood := { row := fnExactFormatFormulaRow, standIns := [], harness := (true, "110013745f51a51eb917cac0729943404e95af2114916b3ed8c51dff3ea7ea7a"), looks := true }, kinds := [], alts := [], laidByText := true, laidKinds := [.data, .data, .data, .data], laidTests := true, laidLooks := .later }
def FnExactFormatFormulaCardSaid : Prop := Claim7.holds Tryd.pinned (.plain (OpenSpec.ofChange fnExactFormatFormulaSpec)) fnExactFormatFormulaCard

/-- THE TIED CARD OF 'laws.FnExactSameFormula'. -/
def fnExactSameFormulaCard : Claim7 := { stood := { row := fnExactSameFormulaRow, standIns := [], harness := (true, "110013745f51a51eb917cac0729943404e95af2114916b3ed8c51dff3ea7ea7a"), looks := true }, kinds := [], alts := [], laidByText := true, laidKinds := [.data, .data, .data, .data], laidTests := true, laidLooks := .later }
def FnExactSameFormulaCardSaid : Prop := Claim7.holds Tryd.pinned (.plain (OpenSpec.ofChange fnExactSameFormulaSpec)) fnExactSameFormulaCard

/-- THE SECOND FORM's CARD OF 'laws.FnExactFormatSystem'. -/
def fnExactFormatSystemUptoCard : Claim7 := { stood := { row := fnExactFormatSystemUptoRow, standIns := [], harness := (true, "110013745f51a51eb917cac0729943404e95af2114916b3ed8c51dff3ea7ea7a"), looks := true }, kinds := [], alts := [], laidByText := true, laidKinds := [.data, .data, .data, .data], laidTests := true, laidLooks := .later }
def FnExactFormatSystemUptoCardSaid : Prop := Claim7.holds Tryd.pinned (.plain (OpenSpec.upto fnExactFormatSystemSpec)) fnExactFormatSystemUptoCard

/-- THE SECOND FORM's CARD OF 'laws.FnExactFormatClauses'. -/
def fnExactFormatClausesUptoCard : Claim7 := { stood := { row := fnExactFormatClausesUptoRow, standIns := [], harness := (true, "110013745f51a51eb917cac0729943404e95af2114916b3ed8c51dff3ea7ea7a"), looks := true }, kinds := [], alts := [], laidByText := true, laidKinds := [.data, .data, .data, .data], laidTests := true, laidLooks := .later }
def FnExactFormatClausesUptoCardSaid : Prop := Claim7.holds Tryd.pinned (.plain (OpenSpec.upto fnExactFormatClausesSpec)) fnExactFormatClausesUptoCard

/-- THE SECOND FORM's CARD OF 'laws.FnExactFormatFormula'. -/
def fnExactFormatFormulaUptoCard : Claim7 := { stood := { row := fnExactFormatFormulaUptoRow, standIns := [], harness := (true, "110013745f51a51eb917cac0729943404e95af2114916b3ed8c51dff3ea7ea7a"), looks := true }, kinds := [], alts := [], laidByText := true, laidKinds := [.data, .data, .data, .data], laidTests := true, laidLooks := .later }
def FnExactFormatFormulaUptoCardSaid : Prop := Claim7.holds Tryd.pinned (.plain (OpenSpec.upto fnExactFormatFormulaSpec)) fnExactFormatFormulaUptoCard

/-- THE SECOND FORM's CARD OF 'laws.FnExactSameFormula'. -/
def fnExactSameFormulaUptoCard : Claim7 := { stood := { row := fnExactSameFormulaUptoRow, standIns := [], harness := (true, "110013745f51a51eb917cac0729943404e95af2114916b3ed8c51dff3ea7ea7a"), looks := true }, kinds := [], alts := [], laidByText := true, laidKinds := [.data, .data, .data, .data], laidTests := true, laidLooks := .later }
def FnExactSameFormulaUptoCardSaid : Prop := Claim7.holds Tryd.pinned (.plain (OpenSpec.upto fnExactSameFormulaSpec)) fnExactSameFormulaUptoCard
end Rows
end Go.Proofs.YtppkjegenmghnaaDoor
