/-
  DERIVED. GIVEN WITH THE SEED: THE CARDS: each row of YtlachkhfpddcnaaDoorRows.lean that lists a variable, with what it lists TIED to the program's text (the seventh form; the later family's looks); each row that meets fmt, with fmt's text TOLD by the authors' own Lean function (tested against real Go, not proved from fmt's source: count such statements apart). THE CARD IS WHAT COUNTS. Prove the row's statement (the work); the ties are given (YtlachkhfpddcnaaDoorTie.lean); close each card by the builder's one call (the guide's Derived/Test/ToyasCard.lean, 'card_holds'). Laid BY PROGRAM, IN A SANDBOX (cutbox-door.mjs). By AI agents, Wed Nov 11 2026. No macro, syntax, notation, axiom, sorry.
-/
import Derived.Test.YtlachkhfpddcnaaDoorRows
import GoSem.ClaimSeven
namespace Go.Proofs.YtlachkhfpddcnaaDoor
namespace Rows

/-- THE TIED CARD OF 'laws.FnExactFormatSet'. -/
def fnExactFormatSetCard : Claim7 := { stood := { row := fnExactFormatSetRow, standIns := [], harness := (true, "131ac29057a17deecf3f129b0d5dfb05b5db4a232a736fd1981b626f3b71ca12"), looks := false }, kinds := [], alts := [], laidByText := true, laidKinds := [.data, .pinned], laidTests := true, laidLooks := .later }
def FnExactFormatSetCardSaid : Prop := Claim7.holds Tryd.pinned (.plain (OpenSpec.ofChange fnExactFormatSetSpec)) fnExactFormatSetCard

/-- THE TIED CARD OF 'laws.FnExactLeastOf'. -/
def fnExactLeastOfCard : Claim7 := { stood := { row := fnExactLeastOfRow, standIns := [], harness := (true, "131ac29057a17deecf3f129b0d5dfb05b5db4a232a736fd1981b626f3b71ca12"), looks := false }, kinds := [], alts := [], laidByText := true, laidKinds := [.data, .pinned], laidTests := true, laidLooks := .later }
def FnExactLeastOfCardSaid : Prop := Claim7.holds Tryd.pinned (.plain (OpenSpec.ofChange fnExactLeastOfSpec)) fnExactLeastOfCard

/-- THE TIED CARD OF 'laws.FnExactGreatestOf'. -/
def fnExactGreatestOfCard : Claim7 := { stood := { row := fnExactGreatestOfRow, standIns := [], harness := (true, "131ac29057a17deecf3f129b0d5dfb05b5db4a232a736fd1981b626f3b71ca12"), looks := false }, kinds := [], alts := [], laidByText := true, laidKinds := [.data, .pinned], laidTests := true, laidLooks := .later }
def FnExactGreatestOfCardSaid : Prop := Claim7.holds Tryd.pinned (.plain (OpenSpec.ofChange fnExactGreatestOfSpec)) fnExactGreatestOfCard

/-- THE TIED CARD OF 'laws.FnExactCountBelow'. -/
def fnExactCountBelowCard : Claim7 := { stood := { row := fnExactCountBelowRow, standIns := [], harness := (true, "131ac29057a17deecf3f129b0d5dfb05b5db4a232a736fd1981b626f3b71ca12"), looks := false }, kinds := [], alts := [], laidByText := true, laidKinds := [.data, .pinned], laidTests := true, laidLooks := .later }
def FnExactCountBelowCardSaid : Prop := Claim7.holds Tryd.pinned (.plain (OpenSpec.ofChange fnExactCountBelowSpec)) fnExactCountBelowCard

/-- THE SECOND FORM's CARD OF 'laws.FnExactFormatSet'. -/
def fnExactFormatSetUptoCard : Claim7 := { stood := { row := fnExactFormatSetUptoRow, standIns := [], harness := (true, "131ac29057a17deecf3f129b0d5dfb05b5db4a232a736fd1981b626f3b71ca12"), looks := false }, kinds := [], alts := [], laidByText := true, laidKinds := [.data, .pinned], laidTests := true, laidLooks := .later }
def FnExactFormatSetUptoCardSaid : Prop := Claim7.holds Tryd.pinned (.plain (OpenSpec.upto fnExactFormatSetSpec)) fnExactFormatSetUptoCard

/-- THE SECOND FORM's CARD OF 'laws.FnExactLeastOf'. -/
def fnExactLeastOfUptoCard : Claim7 := { stood := { row := fnExactLeastOfUptoRow, standIns := [], harness := (true, "131ac29057a17deecf3f129b0d5dfb05b5db4a232a736fd1981b626f3b71ca12"), looks := false }, kinds := [], alts := [], laidByText := true, laidKinds := [.data, .pinned], laidTests := true, laidLooks := .later }
def FnExactLeastOfUptoCardSaid : Prop := Claim7.holds Tryd.pinned (.plain (OpenSpec.upto fnExactLeastOfSpec)) fnExactLeastOfUptoCard

/-- THE SECOND FORM's CARD OF 'laws.FnExactGreatestOf'. -/
def fnExactGreatestOfUptoCard : Claim7 := { stood := { row := fnExactGreatestOfUptoRow, standIns := [], harness := (true, "131ac29057a17deecf3f129b0d5dfb05b5db4a232a736fd1981b626f3b71ca12"), looks := false }, kinds := [], alts := [], laidByText := true, laidKinds := [.data, .pinned], laidTests := true, laidLooks := .later }
def FnExactGreatestOfUptoCardSaid : Prop := Claim7.holds Tryd.pinned (.plain (OpenSpec.upto fnExactGreatestOfSpec)) fnExactGreatestOfUptoCard

/-- THE SECOND FORM's CARD OF 'laws.FnExactCountBelow'. -/
def fnExactCountBelowUptoCard : Claim7 := { stood := { row := fnExactCountBelowUptoRow, standIns := [], harness := (true, "131ac29057a17deecf3f129b0d5dfb05b5db4a232a736fd1981b626f3b71ca12"), looks := false }, kinds := [], alts := [], laidByText := true, laidKinds := [.data, .pinned], laidTests := true, laidLooks := .later }
def FnExactCountBelowUptoCardSaid : Prop := Claim7.holds Tryd.pinned (.plain (OpenSpec.upto fnExactCountBelowSpec)) fnExactCountBelowUptoCard
end Rows
end Go.Proofs.YtlachkhfpddcnaaDoor
