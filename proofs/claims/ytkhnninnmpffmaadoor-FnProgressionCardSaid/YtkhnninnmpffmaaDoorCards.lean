/-
  DERIVED. GIVEN WITH THE SEED: THE CARDS: each row of YtkhnninnmpffmaaDoorRows.lean that lists a variable, with what it lists TIED to the program's text (the seventh form; the later family's looks); each row that meets fmt, with fmt's text TOLD by the authors' own Lean function (tested against real Go, not proved from fmt's source: count such statements apart). THE CARD IS WHAT COUNTS. Prove the row's statement (the work); the ties are given (YtkhnninnmpffmaaDoorTie.lean); close each card by the builder's one call (the guide's Derived/Test/ToyasCard.lean, 'card_holds'). Laid BY PROGRAM, IN A SANDBOX (cutbox-door.mjs). By AI agents, Wed Nov 11 2026. No macro, syntax, notation, axiom, sorry.
-/
import Derived.Test.YtkhnninnmpffmaaDoorRows
import GoSem.ClaimSeven
namespace Go.Proofs.YtkhnninnmpffmaaDoor
namespace Rows

/-- THE TIED CARD OF 'laws.FnProgression'. -/
def fnProgressionCard : Claim7 := { stood := { row := fnProgressionRow, standIns := [], harness := (true, "a5b93abbcf1d98ffbbc722c6a357987f555a3330b1c4310609b27ccf3df4e82f"), looks := false }, kinds := [], alts := [], laidByText := true, laidKinds := [.data, .pinned], laidTests := true, laidLooks := .later }
def FnProgressionCardSaid : Prop := Claim7.holds Tryd.pinned (.plain (OpenSpec.ofChange fnProgressionSpec)) fnProgressionCard

/-- THE SECOND FORM's CARD OF 'laws.FnProgression'. -/
def fnProgressionUptoCard : Claim7 := { stood := { row := fnProgressionUptoRow, standIns := [], harness := (true, "a5b93abbcf1d98ffbbc722c6a357987f555a3330b1c4310609b27ccf3df4e82f"), looks := false }, kinds := [], alts := [], laidByText := true, laidKinds := [.data, .pinned], laidTests := true, laidLooks := .later }
def FnProgressionUptoCardSaid : Prop := Claim7.holds Tryd.pinned (.plain (OpenSpec.upto fnProgressionSpec)) fnProgressionUptoCard
end Rows
end Go.Proofs.YtkhnninnmpffmaaDoor
