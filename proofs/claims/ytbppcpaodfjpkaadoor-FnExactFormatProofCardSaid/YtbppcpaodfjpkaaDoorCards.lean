/-
  DERIVED. GIVEN WITH THE SEED: THE CARDS: each row of YtbppcpaodfjpkaaDoorRows.lean that lists a variable, with what it lists TIED to the program's text (the seventh form; the later family's looks); each row that meets fmt, with fmt's text TOLD by the authors' own Lean function (tested against real Go, not proved from fmt's source: count such statements apart). THE CARD IS WHAT COUNTS. Prove the row's statement (the work); the ties are given (YtbppcpaodfjpkaaDoorTie.lean); close each card by the builder's one call (the guide's Derived/Test/ToyasCard.lean, 'card_holds'). Laid BY PROGRAM, IN A SANDBOX (cutbox-door.mjs). By AI agents, Wed Nov 11 2026. No macro, syntax, notation, axiom, sorry.
-/
import Derived.Test.YtbppcpaodfjpkaaDoorRows
import GoSem.ClaimSeven
namespace Go.Proofs.YtbppcpaodfjpkaaDoor
namespace Rows

/-- THE TIED CARD OF 'laws.FnExactSameFormula'. -/
def fnExactSameFormulaCard : Claim7 := { stood := { row := fnExactSameFormulaRow, standIns := [], harness := (true, "87b5d62f754ad34407d10ff0f476ddfe3c374b24a180768f066ca5d606036092"), looks := true }, kinds := [], alts := [], laidByText := true, laidKinds := [.data, .data, .data, .data], laidTests := true, laidLooks := .later }
def FnExactSameFormulaCardSaid : Prop := Claim7.holds Tryd.pinned (.plain (OpenSpec.ofChange fnExactSameFormulaSpec)) fnExactSameFormulaCard

/-- THE TIED CARD OF 'laws.FnExactFormatClauses'. -/
def fnExactFormatClausesCard : Claim7 := { stood := { row := fnExactFormatClausesRow, standIns := [], harness := (true, "87b5d62f754ad34407d10ff0f476ddfe3c374b24a180768f066ca5d606036092"), looks := true }, kinds := [], alts := [], laidByText := true, laidKinds := [.data, .data, .data, .data], laidTests := true, laidLooks := .later }
def FnExactFormatClausesCardSaid : Prop := Claim7.holds Tryd.pinned (.plain (OpenSpec.ofChange fnExactFormatClausesSpec)) fnExactFormatClausesCard

/-- THE TIED CARD OF 'laws.FnExactFormatProof'. -/
def fnExactFormatProofCard : Claim7 := { stood := { row := fnExactFormatProofRow, standIns := [], harness := (true, "87b5d62f754ad34407d10ff0f476ddfe3c374b24a180768f066ca5d606036092"), looks := true }, kinds := [], alts := [], laidByText := true, laidKinds := [.data, .data, .data], laidTests := true, laidLooks := .later }
def FnExactFormatProofCardSaid : Prop := Claim7.holds Tryd.pinned (.plain (OpenSpec.ofChange fnExactFormatProofSpec)) fnExactFormatProofCard

/-- THE SECOND FORM's CARD OF 'laws.FnExactSameFormula'. -/
def fnExactSameFormulaUptoCard : Claim7 := { stood := { row := fnExactSameFormulaUptoRow, standIns := [], harness := (true, "87b5d62f754ad34407d10ff0f476ddfe3c374b24a180768f066ca5d606036092"), looks := true }, kinds := [], alts := [], laidByText := true, laidKinds := [.data, .data, .data, .data], laidTests := true, laidLooks := .later }
def FnExactSameFormulaUptoCardSaid : Prop := Claim7.holds Tryd.pinned (.plain (OpenSpec.upto fnExactSameFormulaSpec)) fnExactSameFormulaUptoCard

/-- THE SECOND FORM's CARD OF 'laws.FnExactFormatClauses'. -/
def fnExactFormatClausesUptoCard : Claim7 := { stood := { row := fnExactFormatClausesUptoRow, standIns := [], harness := (true, "87b5d62f754ad34407d10ff0f476ddfe3c374b24a180768f066ca5d606036092"), looks := true }, kinds := [], alts := [], laidByText := true, laidKinds := [.data, .data, .data, .data], laidTests := true, laidLooks := .later }
def FnExactFormatClausesUptoCardSaid : Prop := Claim7.holds Tryd.pinned (.plain (OpenSpec.upto fnExactFormatClausesSpec)) fnExactFormatClausesUptoCard

/-- THE SECOND FORM's CARD OF 'laws.FnExactFormatProof'. -/
def fnExactFormatProofUptoCard : Claim7 := { stood := { row := fnExactFormatProofUptoRow, standIns := [], harness := (true, "87b5d62f754ad34407d10ff0f476ddfe3c374b24a180768f066ca5d606036092"), looks := true }, kinds := [], alts := [], laidByText := true, laidKinds := [.data, .data, .data], laidTests := true, laidLooks := .later }
def FnExactFormatProofUptoCardSaid : Prop := Claim7.holds Tryd.pinned (.plain (OpenSpec.upto fnExactFormatProofSpec)) fnExactFormatProofUptoCard
end Rows
end Go.Proofs.YtbppcpaodfjpkaaDoor
