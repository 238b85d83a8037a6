/-
  DERIVED. GIVEN WITH THE SEED: THE CARDS: each row of YtmkflokcficmoaaDoorRows.lean that lists a variable, with what it lists TIED to the program's text (the seventh form; the later family's looks); each row that meets fmt, with fmt's text TOLD by the authors' own Lean function (tested against real Go, not proved from fmt's source: count such statements apart). THE CARD IS WHAT COUNTS. Prove the row's statement (the work); the ties are given (YtmkflokcficmoaaDoorTie.lean); close each card by the builder's one call (the guide's Derived/Test/ToyasCard.lean, 'card_holds'). Laid BY PROGRAM, IN A SANDBOX (cutbox-door.mjs). By AI agents, Wed Nov 11 2026. No macro, syntax, notation, axiom, sorry.
-/
import Derived.Test.YtmkflokcficmoaaDoorRows
import GoSem.ClaimSeven
namespace Go.Proofs.YtmkflokcficmoaaDoor
namespace Rows

/-- THE TIED CARD OF 'laws.FnExactFormulaOfSet'. -/
def fnExactFormulaOfSetCard : Claim7 := { stood := { row := fnExactFormulaOfSetRow, standIns := [], harness := (true, "b37a897811b6921c1f6baff527a5f88e24ed7ef01c8a97e60fb4a934c76bcfd6"), looks := true }, kinds := [], alts := [], laidByText := true, laidKinds := [.data, .pinned], laidTests := true, laidLooks := .later }
def FnExactFormulaOfSetCardSaid : Prop := Claim7.holds Tryd.pinned (.plain (OpenSpec.ofChange fnExactFormulaOfSetSpec)) fnExactFormulaOfSetCard

/-- THE SECOND FORM's CARD OF 'laws.FnExactFormulaOfSet'. -/
def fnExactFormulaOfSetUptoCard : Claim7 := { stood := { row := fnExactFormulaOfSetUptoRow, standIns := [], harness := (true, "b37a897811b6921c1f6baff527a5f88e24ed7ef01c8a97e60fb4a934c76bcfd6"), looks := true }, kinds := [], alts := [], laidByText := true, laidKinds := [.data, .pinned], laidTests := true, laidLooks := .later }
def FnExactFormulaOfSetUptoCardSaid : Prop := Claim7.holds Tryd.pinned (.plain (OpenSpec.upto fnExactFormulaOfSetSpec)) fnExactFormulaOfSetUptoCard
end Rows
end Go.Proofs.YtmkflokcficmoaaDoor
