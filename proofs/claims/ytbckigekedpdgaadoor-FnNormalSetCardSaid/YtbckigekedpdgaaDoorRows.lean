/-
  NARROWER THAN 'FOR EVERY INPUT', by the rows' own cells (each row's printed sentence says how): FnHasNumber: laid · FnNormalSet: laid · FnSameSet: laid · FnLeastGreatest: laid.
  DERIVED. THE GIVEN ROWS OF THIS SEAT. 4 by the template 'for every input the law returns true; each argument reads behind the call as it read before'; 0 by the template 'total and deterministic' (their statements: YtbckigekedpdgaaDoorTotals.lean).
  GIVEN WITH THE SEED: the statements are not yours to turn. If you find one false, say at which input.
  Laid BY PROGRAM, IN A SANDBOX (cutbox-rows.mjs): the forced cells as the released guide's own fill.sh prints them over the translation 0fdba2d3a7833f97… (all of the seat's roots in one cut). By AI agents, Wed Nov 11 2026. No macro, syntax, notation, axiom, sorry.
-/
import Derived.Test.YtbckigekedpdgaaDoorChecked
import GoSem.PinnedTables
import GoSem.Claim
import GoSem.ClaimJoined
import GoSem.ClaimMapViews
import Derived.JoinedTies
import Derived.KernelRfl
namespace Go.Proofs.YtbckigekedpdgaaDoor
/- THE CELL 'sum', in the pinned program and in every row, IS THE sha256 OF THE DUMP (.gsa) THAT YtbckigekedpdgaaDoorProg.lean LOADS. Nothing in Lean hashes anything: it is a label: what it is worth is what the hold of that sum in a sandbox is worth. -/
noncomputable def Tryd.pinned : Pinned := { name := "ytbckigekedpdgaadoor", sum := "0fdba2d3a7833f978c77519b3c13e7adfde8b11457dd8c20d3127b19dcf9330b", checked := Tryd.checked }
namespace Rows
def none {H : Type} : Left H := { results := [], args := [] }

/- WHAT THE LISTED PACKAGE-LEVEL VARIABLES READ AS WHEN THE CALL BEGINS. Each datum BY PROGRAM (the guide's laid-datum.mjs) off the statement by which the dump's own 'gosem.cut.vars' lays the variable. In a bare row this is a premise. The card (YtbckigekedpdgaaDoorCards.lean) ties it to the program's text. -/
def laid_unicode_utf8_acceptRanges {H : Type} : DataW H := .agg [.agg [.lit (.int .u8 128), .lit (.int .u8 191)], .agg [.lit (.int .u8 160), .lit (.int .u8 191)], .agg [.lit (.int .u8 128), .lit (.int .u8 159)], .agg [.lit (.int .u8 144), .lit (.int .u8 191)], .agg [.lit (.int .u8 128), .lit (.int .u8 143)], .agg [.lit (.int .u8 0), .lit (.int .u8 0)], .agg [.lit (.int .u8 0), .lit (.int .u8 0)], .agg [.lit (.int .u8 0), .lit (.int .u8 0)], .agg [.lit (.int .u8 0), .lit (.int .u8 0)], .agg [.lit (.int .u8 0), .lit (.int .u8 0)], .agg [.lit (.int .u8 0), .lit (.int .u8 0)], .agg [.lit (.int .u8 0), .lit (.int .u8 0)], .agg [.lit (.int .u8 0), .lit (.int .u8 0)], .agg [.lit (.int .u8 0), .lit (.int .u8 0)], .agg [.lit (.int .u8 0), .lit (.int .u8 0)], .agg [.lit (.int .u8 0), .lit (.int .u8 0)]]
/-- One of Go's own tables, pinned by name: the form's constant. -/
def laid_unicode_utf8_first : DataW Unit := Go.Pinned.utf8First

/-- 'laws.FnHasNumber': WHATEVER THE INPUT: true; the input reads as it did. -/
def fnHasNumberSpec : ChangeSpec := { name := "fnHasNumber", fn := fun _ => fun
  | [d] => { results := [.lit (.bool true)], args := [d] }
  | _ => none }
def fnHasNumberRow : OpenClaim := { program := "ytbckigekedpdgaadoor", sum := "0fdba2d3a7833f978c77519b3c13e7adfde8b11457dd8c20d3127b19dcf9330b", func := "loop.example/presburger/laws.FnHasNumber", spec := "fnHasNumber", inPlace := ["internal/bytealg.IndexByteString", "internal/bytealg.IndexString"], named := ["unicode/utf8.first", "unicode/utf8.acceptRanges", "internal/bytealg.MaxLen"], apart := false, laid := [("unicode/utf8.acceptRanges", laid_unicode_utf8_acceptRanges), ("unicode/utf8.first", laid_unicode_utf8_first)] }
def FnHasNumberSaid : Prop := fnHasNumberRow.holds Tryd.pinned (OpenSpec.ofChange fnHasNumberSpec)

/-- ITS FALSE NEIGHBOUR: 'it returns false'. Refute it at one input. -/
def fnHasNumberWrong : ChangeSpec := { name := "fnHasNumber", fn := fun _ => fun
  | [d] => { results := [.lit (.bool false)], args := [d] }
  | _ => none }
def FnHasNumberWrongFalsely : Prop := fnHasNumberRow.holds Tryd.pinned (OpenSpec.ofChange fnHasNumberWrong)

/-- 'laws.FnNormalSet': WHATEVER THE INPUT: true; the input reads as it did. -/
def fnNormalSetSpec : ChangeSpec := { name := "fnNormalSet", fn := fun _ => fun
  | [d] => { results := [.lit (.bool true)], args := [d] }
  | _ => none }
def fnNormalSetRow : OpenClaim := { program := "ytbckigekedpdgaadoor", sum := "0fdba2d3a7833f978c77519b3c13e7adfde8b11457dd8c20d3127b19dcf9330b", func := "loop.example/presburger/laws.FnNormalSet", spec := "fnNormalSet", inPlace := ["internal/bytealg.IndexByteString", "internal/bytealg.IndexString"], named := ["unicode/utf8.first", "unicode/utf8.acceptRanges", "internal/bytealg.MaxLen"], apart := false, laid := [("unicode/utf8.acceptRanges", laid_unicode_utf8_acceptRanges), ("unicode/utf8.first", laid_unicode_utf8_first)] }
def FnNormalSetSaid : Prop := fnNormalSetRow.holds Tryd.pinned (OpenSpec.ofChange fnNormalSetSpec)

/-- ITS FALSE NEIGHBOUR: 'it returns false'. Refute it at one input. -/
def fnNormalSetWrong : ChangeSpec := { name := "fnNormalSet", fn := fun _ => fun
  | [d] => { results := [.lit (.bool false)], args := [d] }
  | _ => none }
def FnNormalSetWrongFalsely : Prop := fnNormalSetRow.holds Tryd.pinned (OpenSpec.ofChange fnNormalSetWrong)

/-- 'laws.FnSameSet': WHATEVER THE INPUT: true; the input reads as it did. -/
def fnSameSetSpec : ChangeSpec := { name := "fnSameSet", fn := fun _ => fun
  | [d] => { results := [.lit (.bool true)], args := [d] }
  | _ => none }
def fnSameSetRow : OpenClaim := { program := "ytbckigekedpdgaadoor", sum := "0fdba2d3a7833f978c77519b3c13e7adfde8b11457dd8c20d3127b19dcf9330b", func := "loop.example/presburger/laws.FnSameSet", spec := "fnSameSet", inPlace := ["internal/bytealg.IndexByteString", "internal/bytealg.IndexString"], named := ["unicode/utf8.first", "unicode/utf8.acceptRanges", "internal/bytealg.MaxLen"], apart := false, laid := [("unicode/utf8.acceptRanges", laid_unicode_utf8_acceptRanges), ("unicode/utf8.first", laid_unicode_utf8_first)] }
def FnSameSetSaid : Prop := fnSameSetRow.holds Tryd.pinned (OpenSpec.ofChange fnSameSetSpec)

/-- ITS FALSE NEIGHBOUR: 'it returns false'. Refute it at one input. -/
def fnSameSetWrong : ChangeSpec := { name := "fnSameSet", fn := fun _ => fun
  | [d] => { results := [.lit (.bool false)], args := [d] }
  | _ => none }
def FnSameSetWrongFalsely : Prop := fnSameSetRow.holds Tryd.pinned (OpenSpec.ofChange fnSameSetWrong)

/-- 'laws.FnLeastGreatest': WHATEVER THE INPUT: true; the input reads as it did. -/
def fnLeastGreatestSpec : ChangeSpec := { name := "fnLeastGreatest", fn := fun _ => fun
  | [d] => { results := [.lit (.bool true)], args := [d] }
  | _ => none }
def fnLeastGreatestRow : OpenClaim := { program := "ytbckigekedpdgaadoor", sum := "0fdba2d3a7833f978c77519b3c13e7adfde8b11457dd8c20d3127b19dcf9330b", func := "loop.example/presburger/laws.FnLeastGreatest", spec := "fnLeastGreatest", inPlace := ["internal/bytealg.IndexByteString", "internal/bytealg.IndexString", "internal/bytealg.CountString"], named := ["unicode/utf8.first", "unicode/utf8.acceptRanges", "internal/bytealg.MaxLen"], apart := false, laid := [("unicode/utf8.acceptRanges", laid_unicode_utf8_acceptRanges), ("unicode/utf8.first", laid_unicode_utf8_first)] }
def FnLeastGreatestSaid : Prop := fnLeastGreatestRow.holds Tryd.pinned (OpenSpec.ofChange fnLeastGreatestSpec)

/-- ITS FALSE NEIGHBOUR: 'it returns false'. Refute it at one input. -/
def fnLeastGreatestWrong : ChangeSpec := { name := "fnLeastGreatest", fn := fun _ => fun
  | [d] => { results := [.lit (.bool false)], args := [d] }
  | _ => none }
def FnLeastGreatestWrongFalsely : Prop := fnLeastGreatestRow.holds Tryd.pinned (OpenSpec.ofChange fnLeastGreatestWrong)

/- THE SECOND FORM. 'bulk': how many values and letters a reading holds, each counted each time it is reached (what is shared counts as often as it is met; a slice's spare places count too). A statement '..UptoSaid' is the law's where the arguments, and the package variables that the reading takes, are together of bulk at most 1048576: NARROWER than '..Said'. Prove '..Said' where nothing that the law and all that it calls make is longer than what came in: it says more and counts as full. Else prove '..UptoSaid'. A law counts once. -/
mutual
def uptoBulk {H : Type} : DataW H → Nat
  | .lit (.string bytes) => bytes.length + 1
  | .lit _ => 1
  | .nil => 1
  | .ptr d => uptoBulk d + 1
  | .slice elems spare => uptoBulkAll elems + uptoBulkAll spare + 1
  | .agg parts => uptoBulkAll parts + 1
  | .iface _ d => uptoBulk d + 1
  | .map entries => uptoBulkEntries entries + 1
  | .held _ => 1
def uptoBulkAll {H : Type} : List (DataW H) → Nat
  | [] => 0
  | d :: r => uptoBulk d + uptoBulkAll r
def uptoBulkEntries {H : Type} : List (Lit × DataW H) → Nat
  | [] => 0
  | x :: r => uptoBulkEntry x + uptoBulkEntries r
def uptoBulkEntry {H : Type} : Lit × DataW H → Nat
  | (.string bytes, d) => bytes.length + uptoBulk d + 1
  | (_, d) => uptoBulk d + 1
 end
def uptoSmall : (H : Type) → List (DataW H) → Bool := fun _ ds => decide (uptoBulkAll ds ≤ 1048576)
def OpenSpec.upto (s : _root_.Go.ChangeSpec) : _root_.Go.OpenSpec := { _root_.Go.OpenSpec.ofChange s with cond := some uptoSmall }

/-- 'laws.FnHasNumber', WHERE WHAT IT READS IS OF BULK AT MOST 1048576: true; the input reads as it did. -/
def fnHasNumberUptoRow : OpenClaim := { program := "ytbckigekedpdgaadoor", sum := "0fdba2d3a7833f978c77519b3c13e7adfde8b11457dd8c20d3127b19dcf9330b", func := "loop.example/presburger/laws.FnHasNumber", spec := "fnHasNumber", inPlace := ["internal/bytealg.IndexByteString", "internal/bytealg.IndexString"], named := ["unicode/utf8.first", "unicode/utf8.acceptRanges", "internal/bytealg.MaxLen"], apart := false, laid := [("unicode/utf8.acceptRanges", laid_unicode_utf8_acceptRanges), ("unicode/utf8.first", laid_unicode_utf8_first)], narrowed := true }
def FnHasNumberUptoSaid : Prop := fnHasNumberUptoRow.holds Tryd.pinned (OpenSpec.upto fnHasNumberSpec)

/-- 'laws.FnNormalSet', WHERE WHAT IT READS IS OF BULK AT MOST 1048576: true; the input reads as it did. -/
def fnNormalSetUptoRow : OpenClaim := { program := "ytbckigekedpdgaadoor", sum := "0fdba2d3a7833f978c77519b3c13e7adfde8b11457dd8c20d3127b19dcf9330b", func := "loop.example/presburger/laws.FnNormalSet", spec := "fnNormalSet", inPlace := ["internal/bytealg.IndexByteString", "internal/bytealg.IndexString"], named := ["unicode/utf8.first", "unicode/utf8.acceptRanges", "internal/bytealg.MaxLen"], apart := false, laid := [("unicode/utf8.acceptRanges", laid_unicode_utf8_acceptRanges), ("unicode/utf8.first", laid_unicode_utf8_first)], narrowed := true }
def FnNormalSetUptoSaid : Prop := fnNormalSetUptoRow.holds Tryd.pinned (OpenSpec.upto fnNormalSetSpec)

/-- 'laws.FnSameSet', WHERE WHAT IT READS IS OF BULK AT MOST 1048576: true; the input reads as it did. -/
def fnSameSetUptoRow : OpenClaim := { program := "ytbckigekedpdgaadoor", sum := "0fdba2d3a7833f978c77519b3c13e7adfde8b11457dd8c20d3127b19dcf9330b", func := "loop.example/presburger/laws.FnSameSet", spec := "fnSameSet", inPlace := ["internal/bytealg.IndexByteString", "internal/bytealg.IndexString"], named := ["unicode/utf8.first", "unicode/utf8.acceptRanges", "internal/bytealg.MaxLen"], apart := false, laid := [("unicode/utf8.acceptRanges", laid_unicode_utf8_acceptRanges), ("unicode/utf8.first", laid_unicode_utf8_first)], narrowed := true }
def FnSameSetUptoSaid : Prop := fnSameSetUptoRow.holds Tryd.pinned (OpenSpec.upto fnSameSetSpec)

/-- 'laws.FnLeastGreatest', WHERE WHAT IT READS IS OF BULK AT MOST 1048576: true; the input reads as it did. -/
def fnLeastGreatestUptoRow : OpenClaim := { program := "ytbckigekedpdgaadoor", sum := "0fdba2d3a7833f978c77519b3c13e7adfde8b11457dd8c20d3127b19dcf9330b", func := "loop.example/presburger/laws.FnLeastGreatest", spec := "fnLeastGreatest", inPlace := ["internal/bytealg.IndexByteString", "internal/bytealg.IndexString", "internal/bytealg.CountString"], named := ["unicode/utf8.first", "unicode/utf8.acceptRanges", "internal/bytealg.MaxLen"], apart := false, laid := [("unicode/utf8.acceptRanges", laid_unicode_utf8_acceptRanges), ("unicode/utf8.first", laid_unicode_utf8_first)], narrowed := true }
def FnLeastGreatestUptoSaid : Prop := fnLeastGreatestUptoRow.holds Tryd.pinned (OpenSpec.upto fnLeastGreatestSpec)

end Rows
end Go.Proofs.YtbckigekedpdgaaDoor
