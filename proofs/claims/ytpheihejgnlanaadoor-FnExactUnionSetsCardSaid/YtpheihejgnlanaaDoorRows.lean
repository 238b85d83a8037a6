/-
  NARROWER THAN 'FOR EVERY INPUT', by the rows' own cells (each row's printed sentence says how): FnExactUnionSets: laid · FnExactMeetSets: laid · FnExactOtherSet: laid · FnExactProgressionSet: laid · FnExactShiftSet: laid · FnExactStretchSet: laid · FnExactDivideSet: laid · FnExactSumSets: laid · FnProgression: laid · FnFrobenius: laid.
  DERIVED. THE GIVEN ROWS OF THIS SEAT. 10 by the template 'for every input the law returns true; each argument reads behind the call as it read before'; 0 by the template 'total and deterministic' (their statements: YtpheihejgnlanaaDoorTotals.lean).
  GIVEN WITH THE SEED: the statements are not yours to turn. If you find one false, say at which input.
  Laid BY PROGRAM, IN A SANDBOX (cutbox-rows.mjs): the forced cells as the released guide's own fill.sh prints them over the translation 6ed0322a81fb6d42… (all of the seat's roots in one cut). By AI agents, Wed Nov 11 2026. No macro, syntax, notation, axiom, sorry.
-/
import Derived.Test.YtpheihejgnlanaaDoorChecked
import GoSem.PinnedTables
import GoSem.Claim
import GoSem.ClaimJoined
import GoSem.ClaimMapViews
import Derived.JoinedTies
import Derived.KernelRfl
namespace Go.Proofs.YtpheihejgnlanaaDoor
/- THE CELL 'sum', in the pinned program and in every row, IS THE sha256 OF THE DUMP (.gsa) THAT YtpheihejgnlanaaDoorProg.lean LOADS. Nothing in Lean hashes anything: it is a label: what it is worth is what the hold of that sum in a sandbox is worth. -/
noncomputable def Tryd.pinned : Pinned := { name := "ytpheihejgnlanaadoor", sum := "6ed0322a81fb6d4227abfda7a62def96f54a2711a39028828b8c430aa289ce6c", checked := Tryd.checked }
namespace Rows
def none {H : Type} : Left H := { results := [], args := [] }

/- WHAT THE LISTED PACKAGE-LEVEL VARIABLES READ AS WHEN THE CALL BEGINS. Each datum BY PROGRAM (the guide's laid-datum.mjs) off the statement by which the dump's own 'gosem.cut.vars' lays the variable. In a bare row this is a premise. The card (YtpheihejgnlanaaDoorCards.lean) ties it to the program's text. -/
def laid_unicode_utf8_acceptRanges {H : Type} : DataW H := .agg [.agg [.lit (.int .u8 128), .lit (.int .u8 191)], .agg [.lit (.int .u8 160), .lit (.int .u8 191)], .agg [.lit (.int .u8 128), .lit (.int .u8 159)], .agg [.lit (.int .u8 144), .lit (.int .u8 191)], .agg [.lit (.int .u8 128), .lit (.int .u8 143)], .agg [.lit (.int .u8 0), .lit (.int .u8 0)], .agg [.lit (.int .u8 0), .lit (.int .u8 0)], .agg [.lit (.int .u8 0), .lit (.int .u8 0)], .agg [.lit (.int .u8 0), .lit (.int .u8 0)], .agg [.lit (.int .u8 0), .lit (.int .u8 0)], .agg [.lit (.int .u8 0), .lit (.int .u8 0)], .agg [.lit (.int .u8 0), .lit (.int .u8 0)], .agg [.lit (.int .u8 0), .lit (.int .u8 0)], .agg [.lit (.int .u8 0), .lit (.int .u8 0)], .agg [.lit (.int .u8 0), .lit (.int .u8 0)], .agg [.lit (.int .u8 0), .lit (.int .u8 0)]]
/-- One of Go's own tables, pinned by name: the form's constant. -/
def laid_unicode_utf8_first : DataW Unit := Go.Pinned.utf8First

/-- 'laws.FnExactUnionSets': WHATEVER THE INPUT: true; the input reads as it did. -/
def fnExactUnionSetsSpec : ChangeSpec := { name := "fnExactUnionSets", fn := fun _ => fun
  | [d1, d2] => { results := [.lit (.bool true)], args := [d1, d2] }
  | _ => none }
def fnExactUnionSetsRow : OpenClaim := { program := "ytpheihejgnlanaadoor", sum := "6ed0322a81fb6d4227abfda7a62def96f54a2711a39028828b8c430aa289ce6c", func := "loop.example/presburger/laws.FnExactUnionSets", spec := "fnExactUnionSets", inPlace := ["internal/bytealg.IndexByteString", "internal/bytealg.IndexString"], unfollowed := true, recurses := true, named := ["unicode/utf8.first", "unicode/utf8.acceptRanges", "internal/bytealg.MaxLen"], apart := false, laid := [("unicode/utf8.acceptRanges", laid_unicode_utf8_acceptRanges), ("unicode/utf8.first", laid_unicode_utf8_first)] }
def FnExactUnionSetsSaid : Prop := fnExactUnionSetsRow.holds Tryd.pinned (OpenSpec.ofChange fnExactUnionSetsSpec)

/-- ITS FALSE NEIGHBOUR: 'it returns false'. Refute it at one input. -/
def fnExactUnionSetsWrong : ChangeSpec := { name := "fnExactUnionSets", fn := fun _ => fun
  | [d1, d2] => { results := [.lit (.bool false)], args := [d1, d2] }
  | _ => none }
def FnExactUnionSetsWrongFalsely : Prop := fnExactUnionSetsRow.holds Tryd.pinned (OpenSpec.ofChange fnExactUnionSetsWrong)

/-- 'laws.FnExactMeetSets': WHATEVER THE INPUT: true; the input reads as it did. -/
def fnExactMeetSetsSpec : ChangeSpec := { name := "fnExactMeetSets", fn := fun _ => fun
  | [d1, d2] => { results := [.lit (.bool true)], args := [d1, d2] }
  | _ => none }
def fnExactMeetSetsRow : OpenClaim := { program := "ytpheihejgnlanaadoor", sum := "6ed0322a81fb6d4227abfda7a62def96f54a2711a39028828b8c430aa289ce6c", func := "loop.example/presburger/laws.FnExactMeetSets", spec := "fnExactMeetSets", inPlace := ["internal/bytealg.IndexByteString", "internal/bytealg.IndexString"], unfollowed := true, recurses := true, named := ["unicode/utf8.first", "unicode/utf8.acceptRanges", "internal/bytealg.MaxLen"], apart := false, laid := [("unicode/utf8.acceptRanges", laid_unicode_utf8_acceptRanges), ("unicode/utf8.first", laid_unicode_utf8_first)] }
def FnExactMeetSetsSaid : Prop := fnExactMeetSetsRow.holds Tryd.pinned (OpenSpec.ofChange fnExactMeetSetsSpec)

/-- ITS FALSE NEIGHBOUR: 'it returns false'. Refute it at one input. -/
def fnExactMeetSetsWrong : ChangeSpec := { name := "fnExactMeetSets", fn := fun _ => fun
  | [d1, d2] => { results := [.lit (.bool false)], args := [d1, d2] }
  | _ => none }
def FnExactMeetSetsWrongFalsely : Prop := fnExactMeetSetsRow.holds Tryd.pinned (OpenSpec.ofChange fnExactMeetSetsWrong)

/-- 'laws.FnExactOtherSet': WHATEVER THE INPUT: true; the input reads as it did. -/
def fnExactOtherSetSpec : ChangeSpec := { name := "fnExactOtherSet", fn := fun _ => fun
  | [d] => { results := [.lit (.bool true)], args := [d] }
  | _ => none }
def fnExactOtherSetRow : OpenClaim := { program := "ytpheihejgnlanaadoor", sum := "6ed0322a81fb6d4227abfda7a62def96f54a2711a39028828b8c430aa289ce6c", func := "loop.example/presburger/laws.FnExactOtherSet", spec := "fnExactOtherSet", inPlace := ["internal/bytealg.IndexByteString", "internal/bytealg.IndexString"], unfollowed := true, recurses := true, named := ["unicode/utf8.first", "unicode/utf8.acceptRanges", "internal/bytealg.MaxLen"], apart := false, laid := [("unicode/utf8.acceptRanges", laid_unicode_utf8_acceptRanges), ("unicode/utf8.first", laid_unicode_utf8_first)] }
def FnExactOtherSetSaid : Prop := fnExactOtherSetRow.holds Tryd.pinned (OpenSpec.ofChange fnExactOtherSetSpec)

/-- ITS FALSE NEIGHBOUR: 'it returns false'. Refute it at one input. -/
def fnExactOtherSetWrong : ChangeSpec := { name := "fnExactOtherSet", fn := fun _ => fun
  | [d] => { results := [.lit (.bool false)], args := [d] }
  | _ => none }
def FnExactOtherSetWrongFalsely : Prop := fnExactOtherSetRow.holds Tryd.pinned (OpenSpec.ofChange fnExactOtherSetWrong)

/-- 'laws.FnExactProgressionSet': WHATEVER THE INPUT: true; the input reads as it did. -/
def fnExactProgressionSetSpec : ChangeSpec := { name := "fnExactProgressionSet", fn := fun _ => fun
  | [d1, d2] => { results := [.lit (.bool true)], args := [d1, d2] }
  | _ => none }
def fnExactProgressionSetRow : OpenClaim := { program := "ytpheihejgnlanaadoor", sum := "6ed0322a81fb6d4227abfda7a62def96f54a2711a39028828b8c430aa289ce6c", func := "loop.example/presburger/laws.FnExactProgressionSet", spec := "fnExactProgressionSet", inPlace := ["internal/bytealg.IndexByteString", "internal/bytealg.IndexString"], unfollowed := true, recurses := true, named := ["unicode/utf8.first", "unicode/utf8.acceptRanges", "internal/bytealg.MaxLen"], apart := false, laid := [("unicode/utf8.acceptRanges", laid_unicode_utf8_acceptRanges), ("unicode/utf8.first", laid_unicode_utf8_first)] }
def FnExactProgressionSetSaid : Prop := fnExactProgressionSetRow.holds Tryd.pinned (OpenSpec.ofChange fnExactProgressionSetSpec)

/-- ITS FALSE NEIGHBOUR: 'it returns false'. Refute it at one input. -/
def fnExactProgressionSetWrong : ChangeSpec := { name := "fnExactProgressionSet", fn := fun _ => fun
  | [d1, d2] => { results := [.lit (.bool false)], args := [d1, d2] }
  | _ => none }
def FnExactProgressionSetWrongFalsely : Prop := fnExactProgressionSetRow.holds Tryd.pinned (OpenSpec.ofChange fnExactProgressionSetWrong)

/-- 'laws.FnExactShiftSet': WHATEVER THE INPUT: true; the input reads as it did. -/
def fnExactShiftSetSpec : ChangeSpec := { name := "fnExactShiftSet", fn := fun _ => fun
  | [d1, d2] => { results := [.lit (.bool true)], args := [d1, d2] }
  | _ => none }
def fnExactShiftSetRow : OpenClaim := { program := "ytpheihejgnlanaadoor", sum := "6ed0322a81fb6d4227abfda7a62def96f54a2711a39028828b8c430aa289ce6c", func := "loop.example/presburger/laws.FnExactShiftSet", spec := "fnExactShiftSet", inPlace := ["internal/bytealg.IndexByteString", "internal/bytealg.IndexString"], unfollowed := true, recurses := true, named := ["unicode/utf8.first", "unicode/utf8.acceptRanges", "internal/bytealg.MaxLen"], apart := false, laid := [("unicode/utf8.acceptRanges", laid_unicode_utf8_acceptRanges), ("unicode/utf8.first", laid_unicode_utf8_first)] }
def FnExactShiftSetSaid : Prop := fnExactShiftSetRow.holds Tryd.pinned (OpenSpec.ofChange fnExactShiftSetSpec)

/-- ITS FALSE NEIGHBOUR: 'it returns false'. Refute it at one input. -/
def fnExactShiftSetWrong : ChangeSpec := { name := "fnExactShiftSet", fn := fun _ => fun
  | [d1, d2] => { results := [.lit (.bool false)], args := [d1, d2] }
  | _ => none }
def FnExactShiftSetWrongFalsely : Prop := fnExactShiftSetRow.holds Tryd.pinned (OpenSpec.ofChange fnExactShiftSetWrong)

/-- 'laws.FnExactStretchSet': WHATEVER THE INPUT: true; the input reads as it did. -/
def fnExactStretchSetSpec : ChangeSpec := { name := "fnExactStretchSet", fn := fun _ => fun
  | [d1, d2] => { results := [.lit (.bool true)], args := [d1, d2] }
  | _ => none }
def fnExactStretchSetRow : OpenClaim := { program := "ytpheihejgnlanaadoor", sum := "6ed0322a81fb6d4227abfda7a62def96f54a2711a39028828b8c430aa289ce6c", func := "loop.example/presburger/laws.FnExactStretchSet", spec := "fnExactStretchSet", inPlace := ["internal/bytealg.IndexByteString", "internal/bytealg.IndexString"], unfollowed := true, recurses := true, named := ["unicode/utf8.first", "unicode/utf8.acceptRanges", "internal/bytealg.MaxLen"], apart := false, laid := [("unicode/utf8.acceptRanges", laid_unicode_utf8_acceptRanges), ("unicode/utf8.first", laid_unicode_utf8_first)] }
def FnExactStretchSetSaid : Prop := fnExactStretchSetRow.holds Tryd.pinned (OpenSpec.ofChange fnExactStretchSetSpec)

/-- ITS FALSE NEIGHBOUR: 'it returns false'. Refute it at one input. -/
def fnExactStretchSetWrong : ChangeSpec := { name := "fnExactStretchSet", fn := fun _ => fun
  | [d1, d2] => { results := [.lit (.bool false)], args := [d1, d2] }
  | _ => none }
def FnExactStretchSetWrongFalsely : Prop := fnExactStretchSetRow.holds Tryd.pinned (OpenSpec.ofChange fnExactStretchSetWrong)

/-- 'laws.FnExactDivideSet': WHATEVER THE INPUT: true; the input reads as it did. -/
def fnExactDivideSetSpec : ChangeSpec := { name := "fnExactDivideSet", fn := fun _ => fun
  | [d1, d2] => { results := [.lit (.bool true)], args := [d1, d2] }
  | _ => none }
def fnExactDivideSetRow : OpenClaim := { program := "ytpheihejgnlanaadoor", sum := "6ed0322a81fb6d4227abfda7a62def96f54a2711a39028828b8c430aa289ce6c", func := "loop.example/presburger/laws.FnExactDivideSet", spec := "fnExactDivideSet", inPlace := ["internal/bytealg.IndexByteString", "internal/bytealg.IndexString"], unfollowed := true, recurses := true, named := ["unicode/utf8.first", "unicode/utf8.acceptRanges", "internal/bytealg.MaxLen"], apart := false, laid := [("unicode/utf8.acceptRanges", laid_unicode_utf8_acceptRanges), ("unicode/utf8.first", laid_unicode_utf8_first)] }
def FnExactDivideSetSaid : Prop := fnExactDivideSetRow.holds Tryd.pinned (OpenSpec.ofChange fnExactDivideSetSpec)

/-- ITS FALSE NEIGHBOUR: 'it returns false'. Refute it at one input. -/
def fnExactDivideSetWrong : ChangeSpec := { name := "fnExactDivideSet", fn := fun _ => fun
  | [d1, d2] => { results := [.lit (.bool false)], args := [d1, d2] }
  | _ => none }
def FnExactDivideSetWrongFalsely : Prop := fnExactDivideSetRow.holds Tryd.pinned (OpenSpec.ofChange fnExactDivideSetWrong)

/-- 'laws.FnExactSumSets': WHATEVER THE INPUT: true; the input reads as it did. -/
def fnExactSumSetsSpec : ChangeSpec := { name := "fnExactSumSets", fn := fun _ => fun
  | [d1, d2] => { results := [.lit (.bool true)], args := [d1, d2] }
  | _ => none }
def fnExactSumSetsRow : OpenClaim := { program := "ytpheihejgnlanaadoor", sum := "6ed0322a81fb6d4227abfda7a62def96f54a2711a39028828b8c430aa289ce6c", func := "loop.example/presburger/laws.FnExactSumSets", spec := "fnExactSumSets", inPlace := ["internal/bytealg.IndexByteString", "internal/bytealg.IndexString"], unfollowed := true, recurses := true, named := ["unicode/utf8.first", "unicode/utf8.acceptRanges", "internal/bytealg.MaxLen"], apart := false, laid := [("unicode/utf8.acceptRanges", laid_unicode_utf8_acceptRanges), ("unicode/utf8.first", laid_unicode_utf8_first)] }
def FnExactSumSetsSaid : Prop := fnExactSumSetsRow.holds Tryd.pinned (OpenSpec.ofChange fnExactSumSetsSpec)

/-- ITS FALSE NEIGHBOUR: 'it returns false'. Refute it at one input. -/
def fnExactSumSetsWrong : ChangeSpec := { name := "fnExactSumSets", fn := fun _ => fun
  | [d1, d2] => { results := [.lit (.bool false)], args := [d1, d2] }
  | _ => none }
def FnExactSumSetsWrongFalsely : Prop := fnExactSumSetsRow.holds Tryd.pinned (OpenSpec.ofChange fnExactSumSetsWrong)

/-- 'laws.FnProgression': WHATEVER THE INPUT: true; the input reads as it did. -/
def fnProgressionSpec : ChangeSpec := { name := "fnProgression", fn := fun _ => fun
  | [d] => { results := [.lit (.bool true)], args := [d] }
  | _ => none }
def fnProgressionRow : OpenClaim := { program := "ytpheihejgnlanaadoor", sum := "6ed0322a81fb6d4227abfda7a62def96f54a2711a39028828b8c430aa289ce6c", func := "loop.example/presburger/laws.FnProgression", spec := "fnProgression", inPlace := ["internal/bytealg.IndexByteString", "internal/bytealg.IndexString", "internal/bytealg.CountString"], unfollowed := true, recurses := true, named := ["unicode/utf8.first", "unicode/utf8.acceptRanges", "internal/bytealg.MaxLen"], apart := false, laid := [("unicode/utf8.acceptRanges", laid_unicode_utf8_acceptRanges), ("unicode/utf8.first", laid_unicode_utf8_first)] }
def FnProgressionSaid : Prop := fnProgressionRow.holds Tryd.pinned (OpenSpec.ofChange fnProgressionSpec)

/-- ITS FALSE NEIGHBOUR: 'it returns false'. Refute it at one input. -/
def fnProgressionWrong : ChangeSpec := { name := "fnProgression", fn := fun _ => fun
  | [d] => { results := [.lit (.bool false)], args := [d] }
  | _ => none }
def FnProgressionWrongFalsely : Prop := fnProgressionRow.holds Tryd.pinned (OpenSpec.ofChange fnProgressionWrong)

/-- 'laws.FnFrobenius': WHATEVER THE INPUT: true; the input reads as it did. -/
def fnFrobeniusSpec : ChangeSpec := { name := "fnFrobenius", fn := fun _ => fun
  | [d] => { results := [.lit (.bool true)], args := [d] }
  | _ => none }
def fnFrobeniusRow : OpenClaim := { program := "ytpheihejgnlanaadoor", sum := "6ed0322a81fb6d4227abfda7a62def96f54a2711a39028828b8c430aa289ce6c", func := "loop.example/presburger/laws.FnFrobenius", spec := "fnFrobenius", inPlace := ["internal/bytealg.IndexByteString", "internal/bytealg.IndexString", "internal/bytealg.CountString"], unfollowed := true, recurses := true, named := ["unicode/utf8.first", "unicode/utf8.acceptRanges", "internal/bytealg.MaxLen"], apart := false, laid := [("unicode/utf8.acceptRanges", laid_unicode_utf8_acceptRanges), ("unicode/utf8.first", laid_unicode_utf8_first)] }
def FnFrobeniusSaid : Prop := fnFrobeniusRow.holds Tryd.pinned (OpenSpec.ofChange fnFrobeniusSpec)

/-- ITS FALSE NEIGHBOUR: 'it returns false'. Refute it at one input. -/
def fnFrobeniusWrong : ChangeSpec := { name := "fnFrobenius", fn := fun _ => fun
  | [d] => { results := [.lit (.bool false)], args := [d] }
  | _ => none }
def FnFrobeniusWrongFalsely : Prop := fnFrobeniusRow.holds Tryd.pinned (OpenSpec.ofChange fnFrobeniusWrong)

/- THE SECOND FORM. 'bulk': how many values and letters a reading holds, each counted each time it is reached (what is shared counts as often as it is met; a slice's spare places count too). A statement '..UptoSaid' is the law's where the arguments, and the package variables that the reading takes, are together of bulk at most 1048576: NARROWER than '..Said'. Prove '..Said' where nothing that the law and all that it calls make is longer than what came in: it says more and counts as full. Else prove '..UptoSaid'. A law counts once. -/
mutual
def uptoBulk {H : Type} : DataW H → Nat
  | .lit (.string bytes) => bytes.length + 1
  | .lit _ => 1
  | .nil => 1
  | .ptr d => uptoBulk d + 1
  | .slice elems spare => uptoBulkAll elems + uptoBulkAll spare + 1
  | .agg parts => uptoBulkAll parts + 1
  | .iface _ d => uptoBulk d + 1
  | .map entries => uptoBulkEntries entries + 1
  | .held _ => 1
def uptoBulkAll {H : Type} : List (DataW H) → Nat
  | [] => 0
  | d :: r => uptoBulk d + uptoBulkAll r
def uptoBulkEntries {H : Type} : List (Lit × DataW H) → Nat
  | [] => 0
  | x :: r => uptoBulkEntry x + uptoBulkEntries r
def uptoBulkEntry {H : Type} : Lit × DataW H → Nat
  | (.string bytes, d) => bytes.length + uptoBulk d + 1
  | (_, d) => uptoBulk d + 1
 end
def uptoSmall : (H : Type) → List (DataW H) → Bool := fun _ ds => decide (uptoBulkAll ds ≤ 1048576)
def OpenSpec.upto (s : _root_.Go.ChangeSpec) : _root_.Go.OpenSpec := { _root_.Go.OpenSpec.ofChange s with cond := some uptoSmall }

/-- 'laws.FnExactUnionSets', WHERE WHAT IT READS IS OF BULK AT MOST 1048576: true; the input reads as it did. -/
def fnExactUnionSetsUptoRow : OpenClaim := { program := "ytpheihejgnlanaadoor", sum := "6ed0322a81fb6d4227abfda7a62def96f54a2711a39028828b8c430aa289ce6c", func := "loop.example/presburger/laws.FnExactUnionSets", spec := "fnExactUnionSets", inPlace := ["internal/bytealg.IndexByteString", "internal/bytealg.IndexString"], unfollowed := true, recurses := true, named := ["unicode/utf8.first", "unicode/utf8.acceptRanges", "internal/bytealg.MaxLen"], apart := false, laid := [("unicode/utf8.acceptRanges", laid_unicode_utf8_acceptRanges), ("unicode/utf8.first", laid_unicode_utf8_first)], narrowed := true }
def FnExactUnionSetsUptoSaid : Prop := fnExactUnionSetsUptoRow.holds Tryd.pinned (OpenSpec.upto fnExactUnionSetsSpec)

/-- 'laws.FnExactMeetSets', WHERE WHAT IT READS IS OF BULK AT MOST 1048576: true; the input reads as it did. -/
def fnExactMeetSetsUptoRow : OpenClaim := { program := "ytpheihejgnlanaadoor", sum := "6ed0322a81fb6d4227abfda7a62def96f54a2711a39028828b8c430aa289ce6c", func := "loop.example/presburger/laws.FnExactMeetSets", spec := "fnExactMeetSets", inPlace := ["internal/bytealg.IndexByteString", "internal/bytealg.IndexString"], unfollowed := true, recurses := true, named := ["unicode/utf8.first", "unicode/utf8.acceptRanges", "internal/bytealg.MaxLen"], apart := false, laid := [("unicode/utf8.acceptRanges", laid_unicode_utf8_acceptRanges), ("unicode/utf8.first", laid_unicode_utf8_first)], narrowed := true }
def FnExactMeetSetsUptoSaid : Prop := fnExactMeetSetsUptoRow.holds Tryd.pinned (OpenSpec.upto fnExactMeetSetsSpec)

/-- 'laws.FnExactOtherSet', WHERE WHAT IT READS IS OF BULK AT MOST 1048576: true; the input reads as it did. -/
def fnExactOtherSetUptoRow : OpenClaim := { program := "ytpheihejgnlanaadoor", sum := "6ed0322a81fb6d4227abfda7a62def96f54a2711a39028828b8c430aa289ce6c", func := "loop.example/presburger/laws.FnExactOtherSet", spec := "fnExactOtherSet", inPlace := ["internal/bytealg.IndexByteString", "internal/bytealg.IndexString"], unfollowed := true, recurses := true, named := ["unicode/utf8.first", "unicode/utf8.acceptRanges", "internal/bytealg.MaxLen"], apart := false, laid := [("unicode/utf8.acceptRanges", laid_unicode_utf8_acceptRanges), ("unicode/utf8.first", laid_unicode_utf8_first)], narrowed := true }
def FnExactOtherSetUptoSaid : Prop := fnExactOtherSetUptoRow.holds Tryd.pinned (OpenSpec.upto fnExactOtherSetSpec)

/-- 'laws.FnExactProgressionSet', WHERE WHAT IT READS IS OF BULK AT MOST 1048576: true; the input reads as it did. -/
def fnExactProgressionSetUptoRow : OpenClaim := { program := "ytpheihejgnlanaadoor", sum := "6ed0322a81fb6d4227abfda7a62def96f54a2711a39028828b8c430aa289ce6c", func := "loop.example/presburger/laws.FnExactProgressionSet", spec := "fnExactProgressionSet", inPlace := ["internal/bytealg.IndexByteString", "internal/bytealg.IndexString"], unfollowed := true, recurses := true, named := ["unicode/utf8.first", "unicode/utf8.acceptRanges", "internal/bytealg.MaxLen"], apart := false, laid := [("unicode/utf8.acceptRanges", laid_unicode_utf8_acceptRanges), ("unicode/utf8.first", laid_unicode_utf8_first)], narrowed := true }
def FnExactProgressionSetUptoSaid : Prop := fnExactProgressionSetUptoRow.holds Tryd.pinned (OpenSpec.upto fnExactProgressionSetSpec)

/-- 'laws.FnExactShiftSet', WHERE WHAT IT READS IS OF BULK AT MOST 1048576: true; the input reads as it did. -/
def fnExactShiftSetUptoRow : OpenClaim := { program := "ytpheihejgnlanaadoor", sum := "6ed0322a81fb6d4227abfda7a62def96f54a2711a39028828b8c430aa289ce6c", func := "loop.example/presburger/laws.FnExactShiftSet", spec := "fnExactShiftSet", inPlace := ["internal/bytealg.IndexByteString", "internal/bytealg.IndexString"], unfollowed := true, recurses := true, named := ["unicode/utf8.first", "unicode/utf8.acceptRanges", "internal/bytealg.MaxLen"], apart := false, laid := [("unicode/utf8.acceptRanges", laid_unicode_utf8_acceptRanges), ("unicode/utf8.first", laid_unicode_utf8_first)], narrowed := true }
def FnExactShiftSetUptoSaid : Prop := fnExactShiftSetUptoRow.holds Tryd.pinned (OpenSpec.upto fnExactShiftSetSpec)

/-- 'laws.FnExactStretchSet', WHERE WHAT IT READS IS OF BULK AT MOST 1048576: true; the input reads as it did. -/
def fnExactStretchSetUptoRow : OpenClaim := { program := "ytpheihejgnlanaadoor", sum := "6ed0322a81fb6d4227abfda7a62def96f54a2711a39028828b8c430aa289ce6c", func := "loop.example/presburger/laws.FnExactStretchSet", spec := "fnExactStretchSet", inPlace := ["internal/bytealg.IndexByteString", "internal/bytealg.IndexString"], unfollowed := true, recurses := true, named := ["unicode/utf8.first", "unicode/utf8.acceptRanges", "internal/bytealg.MaxLen"], apart := false, laid := [("unicode/utf8.acceptRanges", laid_unicode_utf8_acceptRanges), ("unicode/utf8.first", laid_unicode_utf8_first)], narrowed := true }
def FnExactStretchSetUptoSaid : Prop := fnExactStretchSetUptoRow.holds Tryd.pinned (OpenSpec.upto fnExactStretchSetSpec)

/-- 'laws.FnExactDivideSet', WHERE WHAT IT READS IS OF BULK AT MOST 1048576: true; the input reads as it did. -/
def fnExactDivideSetUptoRow : OpenClaim := { program := "ytpheihejgnlanaadoor", sum := "6ed0322a81fb6d4227abfda7a62def96f54a2711a39028828b8c430aa289ce6c", func := "loop.example/presburger/laws.FnExactDivideSet", spec := "fnExactDivideSet", inPlace := ["internal/bytealg.IndexByteString", "internal/bytealg.IndexString"], unfollowed := true, recurses := true, named := ["unicode/utf8.first", "unicode/utf8.acceptRanges", "internal/bytealg.MaxLen"], apart := false, laid := [("unicode/utf8.acceptRanges", laid_unicode_utf8_acceptRanges), ("unicode/utf8.first", laid_unicode_utf8_first)], narrowed := true }
def FnExactDivideSetUptoSaid : Prop := fnExactDivideSetUptoRow.holds Tryd.pinned (OpenSpec.upto fnExactDivideSetSpec)

/-- 'laws.FnExactSumSets', WHERE WHAT IT READS IS OF BULK AT MOST 1048576: true; the input reads as it did. -/
def fnExactSumSetsUptoRow : OpenClaim := { program := "ytpheihejgnlanaadoor", sum := "6ed0322a81fb6d4227abfda7a62def96f54a2711a39028828b8c430aa289ce6c", func := "loop.example/presburger/laws.FnExactSumSets", spec := "fnExactSumSets", inPlace := ["internal/bytealg.IndexByteString", "internal/bytealg.IndexString"], unfollowed := true, recurses := true, named := ["unicode/utf8.first", "unicode/utf8.acceptRanges", "internal/bytealg.MaxLen"], apart := false, laid := [("unicode/utf8.acceptRanges", laid_unicode_utf8_acceptRanges), ("unicode/utf8.first", laid_unicode_utf8_first)], narrowed := true }
def FnExactSumSetsUptoSaid : Prop := fnExactSumSetsUptoRow.holds Tryd.pinned (OpenSpec.upto fnExactSumSetsSpec)

/-- 'laws.FnProgression', WHERE WHAT IT READS IS OF BULK AT MOST 1048576: true; the input reads as it did. -/
def fnProgressionUptoRow : OpenClaim := { program := "ytpheihejgnlanaadoor", sum := "6ed0322a81fb6d4227abfda7a62def96f54a2711a39028828b8c430aa289ce6c", func := "loop.example/presburger/laws.FnProgression", spec := "fnProgression", inPlace := ["internal/bytealg.IndexByteString", "internal/bytealg.IndexString", "internal/bytealg.CountString"], unfollowed := true, recurses := true, named := ["unicode/utf8.first", "unicode/utf8.acceptRanges", "internal/bytealg.MaxLen"], apart := false, laid := [("unicode/utf8.acceptRanges", laid_unicode_utf8_acceptRanges), ("unicode/utf8.first", laid_unicode_utf8_first)], narrowed := true }
def FnProgressionUptoSaid : Prop := fnProgressionUptoRow.holds Tryd.pinned (OpenSpec.upto fnProgressionSpec)

/-- 'laws.FnFrobenius', WHERE WHAT IT READS IS OF BULK AT MOST 1048576: true; the input reads as it did. -/
def fnFrobeniusUptoRow : OpenClaim := { program := "ytpheihejgnlanaadoor", sum := "6ed0322a81fb6d4227abfda7a62def96f54a2711a39028828b8c430aa289ce6c", func := "loop.example/presburger/laws.FnFrobenius", spec := "fnFrobenius", inPlace := ["internal/bytealg.IndexByteString", "internal/bytealg.IndexString", "internal/bytealg.CountString"], unfollowed := true, recurses := true, named := ["unicode/utf8.first", "unicode/utf8.acceptRanges", "internal/bytealg.MaxLen"], apart := false, laid := [("unicode/utf8.acceptRanges", laid_unicode_utf8_acceptRanges), ("unicode/utf8.first", laid_unicode_utf8_first)], narrowed := true }
def FnFrobeniusUptoSaid : Prop := fnFrobeniusUptoRow.holds Tryd.pinned (OpenSpec.upto fnFrobeniusSpec)

end Rows
end Go.Proofs.YtpheihejgnlanaaDoor
