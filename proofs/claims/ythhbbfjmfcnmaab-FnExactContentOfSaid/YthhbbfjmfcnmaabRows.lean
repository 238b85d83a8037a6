/-
  No cell of these rows narrows 'for every input' (looked for: loops, veiled, ifaces, maps, wideKeys, modest, calm, conditions, laid).
  DERIVED. THE GIVEN ROWS OF THIS SEAT. 9 by the template 'for every input the law returns true; each argument reads behind the call as it read before'; 0 by the template 'total and deterministic' (their statements: YthhbbfjmfcnmaabTotals.lean).
  GIVEN WITH THE SEED: the statements are not yours to turn. If you find one false, say at which input.
  Laid BY PROGRAM, IN A SANDBOX (cutbox-rows.mjs): the forced cells as the released guide's own fill.sh prints them over the translation 0a89741e3422034b… (all of the seat's roots in one cut). By AI agents, Wed Nov 11 2026. No macro, syntax, notation, axiom, sorry.
-/
import Derived.Test.YthhbbfjmfcnmaabChecked
import GoSem.Claim
import GoSem.ClaimJoined
import GoSem.ClaimMapViews
import Derived.JoinedTies
import Derived.KernelRfl
namespace Go.Proofs.Ythhbbfjmfcnmaab
/- THE CELL 'sum', in the pinned program and in every row, IS THE sha256 OF THE DUMP (.gsa) THAT YthhbbfjmfcnmaabProg.lean LOADS. Nothing in Lean hashes anything: it is a label: what it is worth is what the hold of that sum in a sandbox is worth. -/
noncomputable def Try.pinned : Pinned := { name := "ythhbbfjmfcnmaab", sum := "0a89741e3422034b3680a231dec094e7fa03f1e19f633427bbfdfd225d06cb85", checked := Try.checked }
namespace Rows
def none {H : Type} : Left H := { results := [], args := [] }

/-- 'laws.FnExactValueOf': WHATEVER THE INPUT: true; the input reads as it did. -/
def fnExactValueOfSpec : ChangeSpec := { name := "fnExactValueOf", fn := fun _ => fun
  | [d1, d2] => { results := [.lit (.bool true)], args := [d1, d2] }
  | _ => none }
def fnExactValueOfRow : OpenClaim := { program := "ythhbbfjmfcnmaab", sum := "0a89741e3422034b3680a231dec094e7fa03f1e19f633427bbfdfd225d06cb85", func := "loop.example/presburger/laws.FnExactValueOf", spec := "fnExactValueOf", apart := false }
def FnExactValueOfSaid : Prop := fnExactValueOfRow.holds Try.pinned (OpenSpec.ofChange fnExactValueOfSpec)

/-- ITS FALSE NEIGHBOUR: 'it returns false'. Refute it at one input. -/
def fnExactValueOfWrong : ChangeSpec := { name := "fnExactValueOf", fn := fun _ => fun
  | [d1, d2] => { results := [.lit (.bool false)], args := [d1, d2] }
  | _ => none }
def FnExactValueOfWrongFalsely : Prop := fnExactValueOfRow.holds Try.pinned (OpenSpec.ofChange fnExactValueOfWrong)

/-- 'laws.FnExactWithValue': WHATEVER THE INPUT: true; the input reads as it did. -/
def fnExactWithValueSpec : ChangeSpec := { name := "fnExactWithValue", fn := fun _ => fun
  | [d1, d2, d3] => { results := [.lit (.bool true)], args := [d1, d2, d3] }
  | _ => none }
def fnExactWithValueRow : OpenClaim := { program := "ythhbbfjmfcnmaab", sum := "0a89741e3422034b3680a231dec094e7fa03f1e19f633427bbfdfd225d06cb85", func := "loop.example/presburger/laws.FnExactWithValue", spec := "fnExactWithValue", apart := false }
def FnExactWithValueSaid : Prop := fnExactWithValueRow.holds Try.pinned (OpenSpec.ofChange fnExactWithValueSpec)

/-- ITS FALSE NEIGHBOUR: 'it returns false'. Refute it at one input. -/
def fnExactWithValueWrong : ChangeSpec := { name := "fnExactWithValue", fn := fun _ => fun
  | [d1, d2, d3] => { results := [.lit (.bool false)], args := [d1, d2, d3] }
  | _ => none }
def FnExactWithValueWrongFalsely : Prop := fnExactWithValueRow.holds Try.pinned (OpenSpec.ofChange fnExactWithValueWrong)

/-- 'laws.FnExactEvalTerm': WHATEVER THE INPUT: true; the input reads as it did. -/
def fnExactEvalTermSpec : ChangeSpec := { name := "fnExactEvalTerm", fn := fun _ => fun
  | [d1, d2] => { results := [.lit (.bool true)], args := [d1, d2] }
  | _ => none }
def fnExactEvalTermRow : OpenClaim := { program := "ythhbbfjmfcnmaab", sum := "0a89741e3422034b3680a231dec094e7fa03f1e19f633427bbfdfd225d06cb85", func := "loop.example/presburger/laws.FnExactEvalTerm", spec := "fnExactEvalTerm", apart := false }
def FnExactEvalTermSaid : Prop := fnExactEvalTermRow.holds Try.pinned (OpenSpec.ofChange fnExactEvalTermSpec)

/-- ITS FALSE NEIGHBOUR: 'it returns false'. Refute it at one input. -/
def fnExactEvalTermWrong : ChangeSpec := { name := "fnExactEvalTerm", fn := fun _ => fun
  | [d1, d2] => { results := [.lit (.bool false)], args := [d1, d2] }
  | _ => none }
def FnExactEvalTermWrongFalsely : Prop := fnExactEvalTermRow.holds Try.pinned (OpenSpec.ofChange fnExactEvalTermWrong)

/-- 'laws.FnExactAddTerms': WHATEVER THE INPUT: true; the input reads as it did. -/
def fnExactAddTermsSpec : ChangeSpec := { name := "fnExactAddTerms", fn := fun _ => fun
  | [d1, d2] => { results := [.lit (.bool true)], args := [d1, d2] }
  | _ => none }
def fnExactAddTermsRow : OpenClaim := { program := "ythhbbfjmfcnmaab", sum := "0a89741e3422034b3680a231dec094e7fa03f1e19f633427bbfdfd225d06cb85", func := "loop.example/presburger/laws.FnExactAddTerms", spec := "fnExactAddTerms", apart := false }
def FnExactAddTermsSaid : Prop := fnExactAddTermsRow.holds Try.pinned (OpenSpec.ofChange fnExactAddTermsSpec)

/-- ITS FALSE NEIGHBOUR: 'it returns false'. Refute it at one input. -/
def fnExactAddTermsWrong : ChangeSpec := { name := "fnExactAddTerms", fn := fun _ => fun
  | [d1, d2] => { results := [.lit (.bool false)], args := [d1, d2] }
  | _ => none }
def FnExactAddTermsWrongFalsely : Prop := fnExactAddTermsRow.holds Try.pinned (OpenSpec.ofChange fnExactAddTermsWrong)

/-- 'laws.FnExactScaleTerm': WHATEVER THE INPUT: true; the input reads as it did. -/
def fnExactScaleTermSpec : ChangeSpec := { name := "fnExactScaleTerm", fn := fun _ => fun
  | [d1, d2] => { results := [.lit (.bool true)], args := [d1, d2] }
  | _ => none }
def fnExactScaleTermRow : OpenClaim := { program := "ythhbbfjmfcnmaab", sum := "0a89741e3422034b3680a231dec094e7fa03f1e19f633427bbfdfd225d06cb85", func := "loop.example/presburger/laws.FnExactScaleTerm", spec := "fnExactScaleTerm", apart := false }
def FnExactScaleTermSaid : Prop := fnExactScaleTermRow.holds Try.pinned (OpenSpec.ofChange fnExactScaleTermSpec)

/-- ITS FALSE NEIGHBOUR: 'it returns false'. Refute it at one input. -/
def fnExactScaleTermWrong : ChangeSpec := { name := "fnExactScaleTerm", fn := fun _ => fun
  | [d1, d2] => { results := [.lit (.bool false)], args := [d1, d2] }
  | _ => none }
def FnExactScaleTermWrongFalsely : Prop := fnExactScaleTermRow.holds Try.pinned (OpenSpec.ofChange fnExactScaleTermWrong)

/-- 'laws.FnExactSubstTerm': WHATEVER THE INPUT: true; the input reads as it did. -/
def fnExactSubstTermSpec : ChangeSpec := { name := "fnExactSubstTerm", fn := fun _ => fun
  | [d1, d2, d3] => { results := [.lit (.bool true)], args := [d1, d2, d3] }
  | _ => none }
def fnExactSubstTermRow : OpenClaim := { program := "ythhbbfjmfcnmaab", sum := "0a89741e3422034b3680a231dec094e7fa03f1e19f633427bbfdfd225d06cb85", func := "loop.example/presburger/laws.FnExactSubstTerm", spec := "fnExactSubstTerm", apart := false }
def FnExactSubstTermSaid : Prop := fnExactSubstTermRow.holds Try.pinned (OpenSpec.ofChange fnExactSubstTermSpec)

/-- ITS FALSE NEIGHBOUR: 'it returns false'. Refute it at one input. -/
def fnExactSubstTermWrong : ChangeSpec := { name := "fnExactSubstTerm", fn := fun _ => fun
  | [d1, d2, d3] => { results := [.lit (.bool false)], args := [d1, d2, d3] }
  | _ => none }
def FnExactSubstTermWrongFalsely : Prop := fnExactSubstTermRow.holds Try.pinned (OpenSpec.ofChange fnExactSubstTermWrong)

/-- 'laws.FnExactTermVars': WHATEVER THE INPUT: true; the input reads as it did. -/
def fnExactTermVarsSpec : ChangeSpec := { name := "fnExactTermVars", fn := fun _ => fun
  | [d] => { results := [.lit (.bool true)], args := [d] }
  | _ => none }
def fnExactTermVarsRow : OpenClaim := { program := "ythhbbfjmfcnmaab", sum := "0a89741e3422034b3680a231dec094e7fa03f1e19f633427bbfdfd225d06cb85", func := "loop.example/presburger/laws.FnExactTermVars", spec := "fnExactTermVars", apart := false }
def FnExactTermVarsSaid : Prop := fnExactTermVarsRow.holds Try.pinned (OpenSpec.ofChange fnExactTermVarsSpec)

/-- ITS FALSE NEIGHBOUR: 'it returns false'. Refute it at one input. -/
def fnExactTermVarsWrong : ChangeSpec := { name := "fnExactTermVars", fn := fun _ => fun
  | [d] => { results := [.lit (.bool false)], args := [d] }
  | _ => none }
def FnExactTermVarsWrongFalsely : Prop := fnExactTermVarsRow.holds Try.pinned (OpenSpec.ofChange fnExactTermVarsWrong)

/-- 'laws.FnExactContentOf': WHATEVER THE INPUT: true; the input reads as it did. -/
def fnExactContentOfSpec : ChangeSpec := { name := "fnExactContentOf", fn := fun _ => fun
  | [d] => { results := [.lit (.bool true)], args := [d] }
  | _ => none }
def fnExactContentOfRow : OpenClaim := { program := "ythhbbfjmfcnmaab", sum := "0a89741e3422034b3680a231dec094e7fa03f1e19f633427bbfdfd225d06cb85", func := "loop.example/presburger/laws.FnExactContentOf", spec := "fnExactContentOf", apart := false }
def FnExactContentOfSaid : Prop := fnExactContentOfRow.holds Try.pinned (OpenSpec.ofChange fnExactContentOfSpec)

/-- ITS FALSE NEIGHBOUR: 'it returns false'. Refute it at one input. -/
def fnExactContentOfWrong : ChangeSpec := { name := "fnExactContentOf", fn := fun _ => fun
  | [d] => { results := [.lit (.bool false)], args := [d] }
  | _ => none }
def FnExactContentOfWrongFalsely : Prop := fnExactContentOfRow.holds Try.pinned (OpenSpec.ofChange fnExactContentOfWrong)

/-- 'laws.FnExactSwapVars': WHATEVER THE INPUT: true; the input reads as it did. -/
def fnExactSwapVarsSpec : ChangeSpec := { name := "fnExactSwapVars", fn := fun _ => fun
  | [d1, d2, d3] => { results := [.lit (.bool true)], args := [d1, d2, d3] }
  | _ => none }
def fnExactSwapVarsRow : OpenClaim := { program := "ythhbbfjmfcnmaab", sum := "0a89741e3422034b3680a231dec094e7fa03f1e19f633427bbfdfd225d06cb85", func := "loop.example/presburger/laws.FnExactSwapVars", spec := "fnExactSwapVars", apart := false }
def FnExactSwapVarsSaid : Prop := fnExactSwapVarsRow.holds Try.pinned (OpenSpec.ofChange fnExactSwapVarsSpec)

/-- ITS FALSE NEIGHBOUR: 'it returns false'. Refute it at one input. -/
def fnExactSwapVarsWrong : ChangeSpec := { name := "fnExactSwapVars", fn := fun _ => fun
  | [d1, d2, d3] => { results := [.lit (.bool false)], args := [d1, d2, d3] }
  | _ => none }
def FnExactSwapVarsWrongFalsely : Prop := fnExactSwapVarsRow.holds Try.pinned (OpenSpec.ofChange fnExactSwapVarsWrong)

/- THE SECOND FORM. 'bulk': how many values and letters a reading holds, each counted each time it is reached (what is shared counts as often as it is met; a slice's spare places count too). A statement '..UptoSaid' is the law's where the arguments, and the package variables that the reading takes, are together of bulk at most 1048576: NARROWER than '..Said'. Prove '..Said' where nothing that the law and all that it calls make is longer than what came in: it says more and counts as full. Else prove '..UptoSaid'. A law counts once. -/
mutual
def uptoBulk {H : Type} : DataW H → Nat
  | .lit (.string bytes) => bytes.length + 1
  | .lit _ => 1
  | .nil => 1
  | .ptr d => uptoBulk d + 1
  | .slice elems spare => uptoBulkAll elems + uptoBulkAll spare + 1
  | .agg parts => uptoBulkAll parts + 1
  | .iface _ d => uptoBulk d + 1
  | .map entries => uptoBulkEntries entries + 1
  | .held _ => 1
def uptoBulkAll {H : Type} : List (DataW H) → Nat
  | [] => 0
  | d :: r => uptoBulk d + uptoBulkAll r
def uptoBulkEntries {H : Type} : List (Lit × DataW H) → Nat
  | [] => 0
  | x :: r => uptoBulkEntry x + uptoBulkEntries r
def uptoBulkEntry {H : Type} : Lit × DataW H → Nat
  | (.string bytes, d) => bytes.length + uptoBulk d + 1
  | (_, d) => uptoBulk d + 1
 end
def uptoSmall : (H : Type) → List (DataW H) → Bool := fun _ ds => decide (uptoBulkAll ds ≤ 1048576)
def OpenSpec.upto (s : _root_.Go.ChangeSpec) : _root_.Go.OpenSpec := { _root_.Go.OpenSpec.ofChange s with cond := some uptoSmall }

/-- 'laws.FnExactValueOf', WHERE WHAT IT READS IS OF BULK AT MOST 1048576: true; the input reads as it did. -/
def fnExactValueOfUptoRow : OpenClaim := { program := "ythhbbfjmfcnmaab", sum := "0a89741e3422034b3680a231dec094e7fa03f1e19f633427bbfdfd225d06cb85", func := "loop.example/presburger/laws.FnExactValueOf", spec := "fnExactValueOf", apart := false, narrowed := true }
def FnExactValueOfUptoSaid : Prop := fnExactValueOfUptoRow.holds Try.pinned (OpenSpec.upto fnExactValueOfSpec)

/-- 'laws.FnExactWithValue', WHERE WHAT IT READS IS OF BULK AT MOST 1048576: true; the input reads as it did. -/
def fnExactWithValueUptoRow : OpenClaim := { program := "ythhbbfjmfcnmaab", sum := "0a89741e3422034b3680a231dec094e7fa03f1e19f633427bbfdfd225d06cb85", func := "loop.example/presburger/laws.FnExactWithValue", spec := "fnExactWithValue", apart := false, narrowed := true }
def FnExactWithValueUptoSaid : Prop := fnExactWithValueUptoRow.holds Try.pinned (OpenSpec.upto fnExactWithValueSpec)

/-- 'laws.FnExactEvalTerm', WHERE WHAT IT READS IS OF BULK AT MOST 1048576: true; the input reads as it did. -/
def fnExactEvalTermUptoRow : OpenClaim := { program := "ythhbbfjmfcnmaab", sum := "0a89741e3422034b3680a231dec094e7fa03f1e19f633427bbfdfd225d06cb85", func := "loop.example/presburger/laws.FnExactEvalTerm", spec := "fnExactEvalTerm", apart := false, narrowed := true }
def FnExactEvalTermUptoSaid : Prop := fnExactEvalTermUptoRow.holds Try.pinned (OpenSpec.upto fnExactEvalTermSpec)

/-- 'laws.FnExactAddTerms', WHERE WHAT IT READS IS OF BULK AT MOST 1048576: true; the input reads as it did. -/
def fnExactAddTermsUptoRow : OpenClaim := { program := "ythhbbfjmfcnmaab", sum := "0a89741e3422034b3680a231dec094e7fa03f1e19f633427bbfdfd225d06cb85", func := "loop.example/presburger/laws.FnExactAddTerms", spec := "fnExactAddTerms", apart := false, narrowed := true }
def FnExactAddTermsUptoSaid : Prop := fnExactAddTermsUptoRow.holds Try.pinned (OpenSpec.upto fnExactAddTermsSpec)

/-- 'laws.FnExactScaleTerm', WHERE WHAT IT READS IS OF BULK AT MOST 1048576: true; the input reads as it did. -/
def fnExactScaleTermUptoRow : OpenClaim := { program := "ythhbbfjmfcnmaab", sum := "0a89741e3422034b3680a231dec094e7fa03f1e19f633427bbfdfd225d06cb85", func := "loop.example/presburger/laws.FnExactScaleTerm", spec := "fnExactScaleTerm", apart := false, narrowed := true }
def FnExactScaleTermUptoSaid : Prop := fnExactScaleTermUptoRow.holds Try.pinned (OpenSpec.upto fnExactScaleTermSpec)

/-- 'laws.FnExactSubstTerm', WHERE WHAT IT READS IS OF BULK AT MOST 1048576: true; the input reads as it did. -/
def fnExactSubstTermUptoRow : OpenClaim := { program := "ythhbbfjmfcnmaab", sum := "0a89741e3422034b3680a231dec094e7fa03f1e19f633427bbfdfd225d06cb85", func := "loop.example/presburger/laws.FnExactSubstTerm", spec := "fnExactSubstTerm", apart := false, narrowed := true }
def FnExactSubstTermUptoSaid : Prop := fnExactSubstTermUptoRow.holds Try.pinned (OpenSpec.upto fnExactSubstTermSpec)

/-- 'laws.FnExactTermVars', WHERE WHAT IT READS IS OF BULK AT MOST 1048576: true; the input reads as it did. -/
def fnExactTermVarsUptoRow : OpenClaim := { program := "ythhbbfjmfcnmaab", sum := "0a89741e3422034b3680a231dec094e7fa03f1e19f633427bbfdfd225d06cb85", func := "loop.example/presburger/laws.FnExactTermVars", spec := "fnExactTermVars", apart := false, narrowed := true }
def FnExactTermVarsUptoSaid : Prop := fnExactTermVarsUptoRow.holds Try.pinned (OpenSpec.upto fnExactTermVarsSpec)

/-- 'laws.FnExactContentOf', WHERE WHAT IT READS IS OF BULK AT MOST 1048576: true; the input reads as it did. -/
def fnExactContentOfUptoRow : OpenClaim := { program := "ythhbbfjmfcnmaab", sum := "0a89741e3422034b3680a231dec094e7fa03f1e19f633427bbfdfd225d06cb85", func := "loop.example/presburger/laws.FnExactContentOf", spec := "fnExactContentOf", apart := false, narrowed := true }
def FnExactContentOfUptoSaid : Prop := fnExactContentOfUptoRow.holds Try.pinned (OpenSpec.upto fnExactContentOfSpec)

/-- 'laws.FnExactSwapVars', WHERE WHAT IT READS IS OF BULK AT MOST 1048576: true; the input reads as it did. -/
def fnExactSwapVarsUptoRow : OpenClaim := { program := "ythhbbfjmfcnmaab", sum := "0a89741e3422034b3680a231dec094e7fa03f1e19f633427bbfdfd225d06cb85", func := "loop.example/presburger/laws.FnExactSwapVars", spec := "fnExactSwapVars", apart := false, narrowed := true }
def FnExactSwapVarsUptoSaid : Prop := fnExactSwapVarsUptoRow.holds Try.pinned (OpenSpec.upto fnExactSwapVarsSpec)

end Rows
end Go.Proofs.Ythhbbfjmfcnmaab
