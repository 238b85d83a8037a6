/-
  DERIVED. GIVEN WITH THE SEED: THE CARDS: each row of YtjgmoledhkikcaaDoorRows.lean that lists a variable, with what it lists TIED to the program's text (the seventh form; the later family's looks); each row that meets fmt, with fmt's text TOLD by the authors' own Lean function (tested against real Go, not proved from fmt's source: count such statements apart). THE CARD IS WHAT COUNTS. Prove the row's statement (the work); the ties are given (YtjgmoledhkikcaaDoorTie.lean); close each card by the builder's one call (the guide's Derived/Test/ToyasCard.lean, 'card_holds'). Laid BY PROGRAM, IN A SANDBOX (cutbox-door.mjs). By AI agents, Wed Nov 11 2026. No macro, syntax, notation, axiom, sorry.
-/
import Derived.Test.YtjgmoledhkikcaaDoorRows
import GoSem.ClaimSeven
namespace Go.Proofs.YtjgmoledhkikcaaDoor
namespace Rows

/-- THE TIED CARD OF 'laws.FnExactParseSystem'. -/
def fnExactParseSystemCard : Claim7 := { stood := { row := fnExactParseSystemRow, standIns := [], harness := (true, "a05cf5397165693a59b1acdbc74b0bcee6acdc6f7d4ee822a040aa9b816c01f9"), looks := true }, kinds := [], alts := [], laidByText := true, laidKinds := [.data, .data, .data, .data, .sentinel, .sentinel, .pinned], laidTests := true, laidLooks := .later }
def FnExactParseSystemCardSaid : Prop := Claim7.holds Tryd.pinned (.plain (OpenSpec.ofChange fnExactParseSystemSpec)) fnExactParseSystemCard

/-- THE TIED CARD OF 'laws.FnExactParseProof'. -/
def fnExactParseProofCard : Claim7 := { stood := { row := fnExactParseProofRow, standIns := [], harness := (true, "a05cf5397165693a59b1acdbc74b0bcee6acdc6f7d4ee822a040aa9b816c01f9"), looks := true }, kinds := [], alts := [], laidByText := true, laidKinds := [.data, .data, .data, .data, .sentinel, .sentinel, .pinned], laidTests := true, laidLooks := .later }
def FnExactParseProofCardSaid : Prop := Claim7.holds Tryd.pinned (.plain (OpenSpec.ofChange fnExactParseProofSpec)) fnExactParseProofCard

/-- THE SECOND FORM's CARD OF 'laws.FnExactParseSystem'. -/
def fnExactParseSystemUptoCard : Claim7 := { stood := { row := fnExactParseSystemUptoRow, standIns := [], harness := (true, "a05cf5397165693a59b1acdbc74b0bcee6acdc6f7d4ee822a040aa9b816c01f9"), looks := true }, kinds := [], alts := [], laidByText := true, laidKinds := [.data, .data, .data, .data, .sentinel, .sentinel, .pinned], laidTests := true, laidLooks := .later }
def FnExactParseSystemUptoCardSaid : Prop := Claim7.holds Tryd.pinned (.plain (OpenSpec.upto fnExactParseSystemSpec)) fnExactParseSystemUptoCard

/-- THE SECOND FORM's CARD OF 'laws.FnExactParseProof'. -/
def fnExactParseProofUptoCard : Claim7 := { stood := { row := fnExactParseProofUptoRow, standIns := [], harness := (true, "a05cf5397165693a59b1acdbc74b0bcee6acdc6f7d4ee822a040aa9b816c01f9"), looks := true }, kinds := [], alts := [], laidByText := true, laidKinds := [.data, .data, .data, .data, .sentinel, .sentinel, .pinned], laidTests := true, laidLooks := .later }
def FnExactParseProofUptoCardSaid : Prop := Claim7.holds Tryd.pinned (.plain (OpenSpec.upto fnExactParseProofSpec)) fnExactParseProofUptoCard
end Rows
end Go.Proofs.YtjgmoledhkikcaaDoor
