/-
  DERIVED. GIVEN WITH THE SEED: THE CARDS: each row of YtjbbknbnknhjhaaDoorRows.lean that lists a variable, with what it lists TIED to the program's text (the seventh form; the later family's looks); each row that meets fmt, with fmt's text TOLD by the authors' own Lean function (tested against real Go, not proved from fmt's source: count such statements apart). THE CARD IS WHAT COUNTS. Prove the row's statement (the work); the ties are given (YtjbbknbnknhjhaaDoorTie.lean); close each card by the builder's one call (the guide's Derived/Test/ToyasCard.lean, 'card_holds'). Laid BY PROGRAM, IN A SANDBOX (cutbox-door.mjs). By AI agents, Wed Nov 11 2026. No macro, syntax, notation, axiom, sorry.
-/
import Derived.Test.YtjbbknbnknhjhaaDoorRows
import GoSem.ClaimSeven
namespace Go.Proofs.YtjbbknbnknhjhaaDoor
namespace Rows

/-- THE TIED CARD OF 'laws.FnTermText'. -/
def fnTermTextCard : Claim7 := { stood := { row := fnTermTextRow, standIns := [], harness := (true, "82df43e7ab43ded5b83e3f7bf53a66f7ef2a542b8214c3a03b831878524b7f69"), looks := true }, kinds := [], alts := [], laidByText := true, laidKinds := [.data, .data, .data, .sentinel, .sentinel], laidTests := true, laidLooks := .later }
def FnTermTextCardSaid : Prop := Claim7.holds Tryd.pinned (.plain (OpenSpec.ofChange fnTermTextSpec)) fnTermTextCard

/-- THE TIED CARD OF 'laws.FnAtomText'. -/
def fnAtomTextCard : Claim7 := { stood := { row := fnAtomTextRow, standIns := [], harness := (true, "82df43e7ab43ded5b83e3f7bf53a66f7ef2a542b8214c3a03b831878524b7f69"), looks := true }, kinds := [], alts := [], laidByText := true, laidKinds := [.data, .data, .data, .sentinel, .sentinel], laidTests := true, laidLooks := .later }
def FnAtomTextCardSaid : Prop := Claim7.holds Tryd.pinned (.plain (OpenSpec.ofChange fnAtomTextSpec)) fnAtomTextCard

/-- THE SECOND FORM's CARD OF 'laws.FnTermText'. -/
def fnTermTextUptoCard : Claim7 := { stood := { row := fnTermTextUptoRow, standIns := [], harness := (true, "82df43e7ab43ded5b83e3f7bf53a66f7ef2a542b8214c3a03b831878524b7f69"), looks := true }, kinds := [], alts := [], laidByText := true, laidKinds := [.data, .data, .data, .sentinel, .sentinel], laidTests := true, laidLooks := .later }
def FnTermTextUptoCardSaid : Prop := Claim7.holds Tryd.pinned (.plain (OpenSpec.upto fnTermTextSpec)) fnTermTextUptoCard

/-- THE SECOND FORM's CARD OF 'laws.FnAtomText'. -/
def fnAtomTextUptoCard : Claim7 := { stood := { row := fnAtomTextUptoRow, standIns := [], harness := (true, "82df43e7ab43ded5b83e3f7bf53a66f7ef2a542b8214c3a03b831878524b7f69"), looks := true }, kinds := [], alts := [], laidByText := true, laidKinds := [.data, .data, .data, .sentinel, .sentinel], laidTests := true, laidLooks := .later }
def FnAtomTextUptoCardSaid : Prop := Claim7.holds Tryd.pinned (.plain (OpenSpec.upto fnAtomTextSpec)) fnAtomTextUptoCard
end Rows
end Go.Proofs.YtjbbknbnknhjhaaDoor
