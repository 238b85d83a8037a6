/-
  No cell of these rows narrows 'for every input' (looked for: loops, veiled, ifaces, maps, wideKeys, modest, calm, conditions, laid).
  DERIVED. THE GIVEN ROWS OF THIS SEAT. 11 by the template 'for every input the law returns true; each argument reads behind the call as it read before'; 0 by the template 'total and deterministic' (their statements: YthhbbfjmfcnmaaaTotals.lean).
  GIVEN WITH THE SEED: the statements are not yours to turn. If you find one false, say at which input.
  Laid BY PROGRAM, IN A SANDBOX (cutbox-rows.mjs): the forced cells as the released guide's own fill.sh prints them over the translation 3c2cbaccfac8b6ce… (all of the seat's roots in one cut). By AI agents, Wed Nov 11 2026. No macro, syntax, notation, axiom, sorry.
-/
import Derived.Test.YthhbbfjmfcnmaaaChecked
import GoSem.Claim
import GoSem.ClaimJoined
import GoSem.ClaimMapViews
import Derived.JoinedTies
import Derived.KernelRfl
namespace Go.Proofs.Ythhbbfjmfcnmaaa
/- THE CELL 'sum', in the pinned program and in every row, IS THE sha256 OF THE DUMP (.gsa) THAT YthhbbfjmfcnmaaaProg.lean LOADS. Nothing in Lean hashes anything: it is a label: what it is worth is what the hold of that sum in a sandbox is worth. -/
noncomputable def Try.pinned : Pinned := { name := "ythhbbfjmfcnmaaa", sum := "3c2cbaccfac8b6cede9e2d3fd61e1d31487585709aa6ac34de7c70049631cbd7", checked := Try.checked }
namespace Rows
def none {H : Type} : Left H := { results := [], args := [] }

/-- 'laws.FnWithValue': WHATEVER THE INPUT: true; the input reads as it did. -/
def fnWithValueSpec : ChangeSpec := { name := "fnWithValue", fn := fun _ => fun
  | [d] => { results := [.lit (.bool true)], args := [d] }
  | _ => none }
def fnWithValueRow : OpenClaim := { program := "ythhbbfjmfcnmaaa", sum := "3c2cbaccfac8b6cede9e2d3fd61e1d31487585709aa6ac34de7c70049631cbd7", func := "loop.example/presburger/laws.FnWithValue", spec := "fnWithValue", apart := false }
def FnWithValueSaid : Prop := fnWithValueRow.holds Try.pinned (OpenSpec.ofChange fnWithValueSpec)

/-- ITS FALSE NEIGHBOUR: 'it returns false'. Refute it at one input. -/
def fnWithValueWrong : ChangeSpec := { name := "fnWithValue", fn := fun _ => fun
  | [d] => { results := [.lit (.bool false)], args := [d] }
  | _ => none }
def FnWithValueWrongFalsely : Prop := fnWithValueRow.holds Try.pinned (OpenSpec.ofChange fnWithValueWrong)

/-- 'laws.FnEvalSum': WHATEVER THE INPUT: true; the input reads as it did. -/
def fnEvalSumSpec : ChangeSpec := { name := "fnEvalSum", fn := fun _ => fun
  | [d] => { results := [.lit (.bool true)], args := [d] }
  | _ => none }
def fnEvalSumRow : OpenClaim := { program := "ythhbbfjmfcnmaaa", sum := "3c2cbaccfac8b6cede9e2d3fd61e1d31487585709aa6ac34de7c70049631cbd7", func := "loop.example/presburger/laws.FnEvalSum", spec := "fnEvalSum", apart := false }
def FnEvalSumSaid : Prop := fnEvalSumRow.holds Try.pinned (OpenSpec.ofChange fnEvalSumSpec)

/-- ITS FALSE NEIGHBOUR: 'it returns false'. Refute it at one input. -/
def fnEvalSumWrong : ChangeSpec := { name := "fnEvalSum", fn := fun _ => fun
  | [d] => { results := [.lit (.bool false)], args := [d] }
  | _ => none }
def FnEvalSumWrongFalsely : Prop := fnEvalSumRow.holds Try.pinned (OpenSpec.ofChange fnEvalSumWrong)

/-- 'laws.FnAddTerms': WHATEVER THE INPUT: true; the input reads as it did. -/
def fnAddTermsSpec : ChangeSpec := { name := "fnAddTerms", fn := fun _ => fun
  | [d] => { results := [.lit (.bool true)], args := [d] }
  | _ => none }
def fnAddTermsRow : OpenClaim := { program := "ythhbbfjmfcnmaaa", sum := "3c2cbaccfac8b6cede9e2d3fd61e1d31487585709aa6ac34de7c70049631cbd7", func := "loop.example/presburger/laws.FnAddTerms", spec := "fnAddTerms", apart := false }
def FnAddTermsSaid : Prop := fnAddTermsRow.holds Try.pinned (OpenSpec.ofChange fnAddTermsSpec)

/-- ITS FALSE NEIGHBOUR: 'it returns false'. Refute it at one input. -/
def fnAddTermsWrong : ChangeSpec := { name := "fnAddTerms", fn := fun _ => fun
  | [d] => { results := [.lit (.bool false)], args := [d] }
  | _ => none }
def FnAddTermsWrongFalsely : Prop := fnAddTermsRow.holds Try.pinned (OpenSpec.ofChange fnAddTermsWrong)

/-- 'laws.FnScaleTerm': WHATEVER THE INPUT: true; the input reads as it did. -/
def fnScaleTermSpec : ChangeSpec := { name := "fnScaleTerm", fn := fun _ => fun
  | [d] => { results := [.lit (.bool true)], args := [d] }
  | _ => none }
def fnScaleTermRow : OpenClaim := { program := "ythhbbfjmfcnmaaa", sum := "3c2cbaccfac8b6cede9e2d3fd61e1d31487585709aa6ac34de7c70049631cbd7", func := "loop.example/presburger/laws.FnScaleTerm", spec := "fnScaleTerm", apart := false }
def FnScaleTermSaid : Prop := fnScaleTermRow.holds Try.pinned (OpenSpec.ofChange fnScaleTermSpec)

/-- ITS FALSE NEIGHBOUR: 'it returns false'. Refute it at one input. -/
def fnScaleTermWrong : ChangeSpec := { name := "fnScaleTerm", fn := fun _ => fun
  | [d] => { results := [.lit (.bool false)], args := [d] }
  | _ => none }
def FnScaleTermWrongFalsely : Prop := fnScaleTermRow.holds Try.pinned (OpenSpec.ofChange fnScaleTermWrong)

/-- 'laws.FnSubstTerm': WHATEVER THE INPUT: true; the input reads as it did. -/
def fnSubstTermSpec : ChangeSpec := { name := "fnSubstTerm", fn := fun _ => fun
  | [d] => { results := [.lit (.bool true)], args := [d] }
  | _ => none }
def fnSubstTermRow : OpenClaim := { program := "ythhbbfjmfcnmaaa", sum := "3c2cbaccfac8b6cede9e2d3fd61e1d31487585709aa6ac34de7c70049631cbd7", func := "loop.example/presburger/laws.FnSubstTerm", spec := "fnSubstTerm", apart := false }
def FnSubstTermSaid : Prop := fnSubstTermRow.holds Try.pinned (OpenSpec.ofChange fnSubstTermSpec)

/-- ITS FALSE NEIGHBOUR: 'it returns false'. Refute it at one input. -/
def fnSubstTermWrong : ChangeSpec := { name := "fnSubstTerm", fn := fun _ => fun
  | [d] => { results := [.lit (.bool false)], args := [d] }
  | _ => none }
def FnSubstTermWrongFalsely : Prop := fnSubstTermRow.holds Try.pinned (OpenSpec.ofChange fnSubstTermWrong)

/-- 'laws.FnTermVars': WHATEVER THE INPUT: true; the input reads as it did. -/
def fnTermVarsSpec : ChangeSpec := { name := "fnTermVars", fn := fun _ => fun
  | [d] => { results := [.lit (.bool true)], args := [d] }
  | _ => none }
def fnTermVarsRow : OpenClaim := { program := "ythhbbfjmfcnmaaa", sum := "3c2cbaccfac8b6cede9e2d3fd61e1d31487585709aa6ac34de7c70049631cbd7", func := "loop.example/presburger/laws.FnTermVars", spec := "fnTermVars", apart := false }
def FnTermVarsSaid : Prop := fnTermVarsRow.holds Try.pinned (OpenSpec.ofChange fnTermVarsSpec)

/-- ITS FALSE NEIGHBOUR: 'it returns false'. Refute it at one input. -/
def fnTermVarsWrong : ChangeSpec := { name := "fnTermVars", fn := fun _ => fun
  | [d] => { results := [.lit (.bool false)], args := [d] }
  | _ => none }
def FnTermVarsWrongFalsely : Prop := fnTermVarsRow.holds Try.pinned (OpenSpec.ofChange fnTermVarsWrong)

/-- 'laws.FnContent': WHATEVER THE INPUT: true; the input reads as it did. -/
def fnContentSpec : ChangeSpec := { name := "fnContent", fn := fun _ => fun
  | [d] => { results := [.lit (.bool true)], args := [d] }
  | _ => none }
def fnContentRow : OpenClaim := { program := "ythhbbfjmfcnmaaa", sum := "3c2cbaccfac8b6cede9e2d3fd61e1d31487585709aa6ac34de7c70049631cbd7", func := "loop.example/presburger/laws.FnContent", spec := "fnContent", apart := false }
def FnContentSaid : Prop := fnContentRow.holds Try.pinned (OpenSpec.ofChange fnContentSpec)

/-- ITS FALSE NEIGHBOUR: 'it returns false'. Refute it at one input. -/
def fnContentWrong : ChangeSpec := { name := "fnContent", fn := fun _ => fun
  | [d] => { results := [.lit (.bool false)], args := [d] }
  | _ => none }
def FnContentWrongFalsely : Prop := fnContentRow.holds Try.pinned (OpenSpec.ofChange fnContentWrong)

/-- 'laws.FnSwapVars': WHATEVER THE INPUT: true; the input reads as it did. -/
def fnSwapVarsSpec : ChangeSpec := { name := "fnSwapVars", fn := fun _ => fun
  | [d] => { results := [.lit (.bool true)], args := [d] }
  | _ => none }
def fnSwapVarsRow : OpenClaim := { program := "ythhbbfjmfcnmaaa", sum := "3c2cbaccfac8b6cede9e2d3fd61e1d31487585709aa6ac34de7c70049631cbd7", func := "loop.example/presburger/laws.FnSwapVars", spec := "fnSwapVars", apart := false }
def FnSwapVarsSaid : Prop := fnSwapVarsRow.holds Try.pinned (OpenSpec.ofChange fnSwapVarsSpec)

/-- ITS FALSE NEIGHBOUR: 'it returns false'. Refute it at one input. -/
def fnSwapVarsWrong : ChangeSpec := { name := "fnSwapVars", fn := fun _ => fun
  | [d] => { results := [.lit (.bool false)], args := [d] }
  | _ => none }
def FnSwapVarsWrongFalsely : Prop := fnSwapVarsRow.holds Try.pinned (OpenSpec.ofChange fnSwapVarsWrong)

/-- 'laws.FnExactTermValid': WHATEVER THE INPUT: true; the input reads as it did. -/
def fnExactTermValidSpec : ChangeSpec := { name := "fnExactTermValid", fn := fun _ => fun
  | [d] => { results := [.lit (.bool true)], args := [d] }
  | _ => none }
def fnExactTermValidRow : OpenClaim := { program := "ythhbbfjmfcnmaaa", sum := "3c2cbaccfac8b6cede9e2d3fd61e1d31487585709aa6ac34de7c70049631cbd7", func := "loop.example/presburger/laws.FnExactTermValid", spec := "fnExactTermValid", apart := false }
def FnExactTermValidSaid : Prop := fnExactTermValidRow.holds Try.pinned (OpenSpec.ofChange fnExactTermValidSpec)

/-- ITS FALSE NEIGHBOUR: 'it returns false'. Refute it at one input. -/
def fnExactTermValidWrong : ChangeSpec := { name := "fnExactTermValid", fn := fun _ => fun
  | [d] => { results := [.lit (.bool false)], args := [d] }
  | _ => none }
def FnExactTermValidWrongFalsely : Prop := fnExactTermValidRow.holds Try.pinned (OpenSpec.ofChange fnExactTermValidWrong)

/-- 'laws.FnExactPointValid': WHATEVER THE INPUT: true; the input reads as it did. -/
def fnExactPointValidSpec : ChangeSpec := { name := "fnExactPointValid", fn := fun _ => fun
  | [d] => { results := [.lit (.bool true)], args := [d] }
  | _ => none }
def fnExactPointValidRow : OpenClaim := { program := "ythhbbfjmfcnmaaa", sum := "3c2cbaccfac8b6cede9e2d3fd61e1d31487585709aa6ac34de7c70049631cbd7", func := "loop.example/presburger/laws.FnExactPointValid", spec := "fnExactPointValid", apart := false }
def FnExactPointValidSaid : Prop := fnExactPointValidRow.holds Try.pinned (OpenSpec.ofChange fnExactPointValidSpec)

/-- ITS FALSE NEIGHBOUR: 'it returns false'. Refute it at one input. -/
def fnExactPointValidWrong : ChangeSpec := { name := "fnExactPointValid", fn := fun _ => fun
  | [d] => { results := [.lit (.bool false)], args := [d] }
  | _ => none }
def FnExactPointValidWrongFalsely : Prop := fnExactPointValidRow.holds Try.pinned (OpenSpec.ofChange fnExactPointValidWrong)

/-- 'laws.FnExactCoefOf': WHATEVER THE INPUT: true; the input reads as it did. -/
def fnExactCoefOfSpec : ChangeSpec := { name := "fnExactCoefOf", fn := fun _ => fun
  | [d1, d2] => { results := [.lit (.bool true)], args := [d1, d2] }
  | _ => none }
def fnExactCoefOfRow : OpenClaim := { program := "ythhbbfjmfcnmaaa", sum := "3c2cbaccfac8b6cede9e2d3fd61e1d31487585709aa6ac34de7c70049631cbd7", func := "loop.example/presburger/laws.FnExactCoefOf", spec := "fnExactCoefOf", apart := false }
def FnExactCoefOfSaid : Prop := fnExactCoefOfRow.holds Try.pinned (OpenSpec.ofChange fnExactCoefOfSpec)

/-- ITS FALSE NEIGHBOUR: 'it returns false'. Refute it at one input. -/
def fnExactCoefOfWrong : ChangeSpec := { name := "fnExactCoefOf", fn := fun _ => fun
  | [d1, d2] => { results := [.lit (.bool false)], args := [d1, d2] }
  | _ => none }
def FnExactCoefOfWrongFalsely : Prop := fnExactCoefOfRow.holds Try.pinned (OpenSpec.ofChange fnExactCoefOfWrong)

/- THE SECOND FORM. 'bulk': how many values and letters a reading holds, each counted each time it is reached (what is shared counts as often as it is met; a slice's spare places count too). A statement '..UptoSaid' is the law's where the arguments, and the package variables that the reading takes, are together of bulk at most 1048576: NARROWER than '..Said'. Prove '..Said' where nothing that the law and all that it calls make is longer than what came in: it says more and counts as full. Else prove '..UptoSaid'. A law counts once. -/
mutual
def uptoBulk {H : Type} : DataW H → Nat
  | .lit (.string bytes) => bytes.length + 1
  | .lit _ => 1
  | .nil => 1
  | .ptr d => uptoBulk d + 1
  | .slice elems spare => uptoBulkAll elems + uptoBulkAll spare + 1
  | .agg parts => uptoBulkAll parts + 1
  | .iface _ d => uptoBulk d + 1
  | .map entries => uptoBulkEntries entries + 1
  | .held _ => 1
def uptoBulkAll {H : Type} : List (DataW H) → Nat
  | [] => 0
  | d :: r => uptoBulk d + uptoBulkAll r
def uptoBulkEntries {H : Type} : List (Lit × DataW H) → Nat
  | [] => 0
  | x :: r => uptoBulkEntry x + uptoBulkEntries r
def uptoBulkEntry {H : Type} : Lit × DataW H → Nat
  | (.string bytes, d) => bytes.length + uptoBulk d + 1
  | (_, d) => uptoBulk d + 1
 end
def uptoSmall : (H : Type) → List (DataW H) → Bool := fun _ ds => decide (uptoBulkAll ds ≤ 1048576)
def OpenSpec.upto (s : _root_.Go.ChangeSpec) : _root_.Go.OpenSpec := { _root_.Go.OpenSpec.ofChange s with cond := some uptoSmall }

/-- 'laws.FnWithValue', WHERE WHAT IT READS IS OF BULK AT MOST 1048576: true; the input reads as it did. -/
def fnWithValueUptoRow : OpenClaim := { program := "ythhbbfjmfcnmaaa", sum := "3c2cbaccfac8b6cede9e2d3fd61e1d31487585709aa6ac34de7c70049631cbd7", func := "loop.example/presburger/laws.FnWithValue", spec := "fnWithValue", apart := false, narrowed := true }
def FnWithValueUptoSaid : Prop := fnWithValueUptoRow.holds Try.pinned (OpenSpec.upto fnWithValueSpec)

/-- 'laws.FnEvalSum', WHERE WHAT IT READS IS OF BULK AT MOST 1048576: true; the input reads as it did. -/
def fnEvalSumUptoRow : OpenClaim := { program := "ythhbbfjmfcnmaaa", sum := "3c2cbaccfac8b6cede9e2d3fd61e1d31487585709aa6ac34de7c70049631cbd7", func := "loop.example/presburger/laws.FnEvalSum", spec := "fnEvalSum", apart := false, narrowed := true }
def FnEvalSumUptoSaid : Prop := fnEvalSumUptoRow.holds Try.pinned (OpenSpec.upto fnEvalSumSpec)

/-- 'laws.FnAddTerms', WHERE WHAT IT READS IS OF BULK AT MOST 1048576: true; the input reads as it did. -/
def fnAddTermsUptoRow : OpenClaim := { program := "ythhbbfjmfcnmaaa", sum := "3c2cbaccfac8b6cede9e2d3fd61e1d31487585709aa6ac34de7c70049631cbd7", func := "loop.example/presburger/laws.FnAddTerms", spec := "fnAddTerms", apart := false, narrowed := true }
def FnAddTermsUptoSaid : Prop := fnAddTermsUptoRow.holds Try.pinned (OpenSpec.upto fnAddTermsSpec)

/-- 'laws.FnScaleTerm', WHERE WHAT IT READS IS OF BULK AT MOST 1048576: true; the input reads as it did. -/
def fnScaleTermUptoRow : OpenClaim := { program := "ythhbbfjmfcnmaaa", sum := "3c2cbaccfac8b6cede9e2d3fd61e1d31487585709aa6ac34de7c70049631cbd7", func := "loop.example/presburger/laws.FnScaleTerm", spec := "fnScaleTerm", apart := false, narrowed := true }
def FnScaleTermUptoSaid : Prop := fnScaleTermUptoRow.holds Try.pinned (OpenSpec.upto fnScaleTermSpec)

/-- 'laws.FnSubstTerm', WHERE WHAT IT READS IS OF BULK AT MOST 1048576: true; the input reads as it did. -/
def fnSubstTermUptoRow : OpenClaim := { program := "ythhbbfjmfcnmaaa", sum := "3c2cbaccfac8b6cede9e2d3fd61e1d31487585709aa6ac34de7c70049631cbd7", func := "loop.example/presburger/laws.FnSubstTerm", spec := "fnSubstTerm", apart := false, narrowed := true }
def FnSubstTermUptoSaid : Prop := fnSubstTermUptoRow.holds Try.pinned (OpenSpec.upto fnSubstTermSpec)

/-- 'laws.FnTermVars', WHERE WHAT IT READS IS OF BULK AT MOST 1048576: true; the input reads as it did. -/
def fnTermVarsUptoRow : OpenClaim := { program := "ythhbbfjmfcnmaaa", sum := "3c2cbaccfac8b6cede9e2d3fd61e1d31487585709aa6ac34de7c70049631cbd7", func := "loop.example/presburger/laws.FnTermVars", spec := "fnTermVars", apart := false, narrowed := true }
def FnTermVarsUptoSaid : Prop := fnTermVarsUptoRow.holds Try.pinned (OpenSpec.upto fnTermVarsSpec)

/-- 'laws.FnContent', WHERE WHAT IT READS IS OF BULK AT MOST 1048576: true; the input reads as it did. -/
def fnContentUptoRow : OpenClaim := { program := "ythhbbfjmfcnmaaa", sum := "3c2cbaccfac8b6cede9e2d3fd61e1d31487585709aa6ac34de7c70049631cbd7", func := "loop.example/presburger/laws.FnContent", spec := "fnContent", apart := false, narrowed := true }
def FnContentUptoSaid : Prop := fnContentUptoRow.holds Try.pinned (OpenSpec.upto fnContentSpec)

/-- 'laws.FnSwapVars', WHERE WHAT IT READS IS OF BULK AT MOST 1048576: true; the input reads as it did. -/
def fnSwapVarsUptoRow : OpenClaim := { program := "ythhbbfjmfcnmaaa", sum := "3c2cbaccfac8b6cede9e2d3fd61e1d31487585709aa6ac34de7c70049631cbd7", func := "loop.example/presburger/laws.FnSwapVars", spec := "fnSwapVars", apart := false, narrowed := true }
def FnSwapVarsUptoSaid : Prop := fnSwapVarsUptoRow.holds Try.pinned (OpenSpec.upto fnSwapVarsSpec)

/-- 'laws.FnExactTermValid', WHERE WHAT IT READS IS OF BULK AT MOST 1048576: true; the input reads as it did. -/
def fnExactTermValidUptoRow : OpenClaim := { program := "ythhbbfjmfcnmaaa", sum := "3c2cbaccfac8b6cede9e2d3fd61e1d31487585709aa6ac34de7c70049631cbd7", func := "loop.example/presburger/laws.FnExactTermValid", spec := "fnExactTermValid", apart := false, narrowed := true }
def FnExactTermValidUptoSaid : Prop := fnExactTermValidUptoRow.holds Try.pinned (OpenSpec.upto fnExactTermValidSpec)

/-- 'laws.FnExactPointValid', WHERE WHAT IT READS IS OF BULK AT MOST 1048576: true; the input reads as it did. -/
def fnExactPointValidUptoRow : OpenClaim := { program := "ythhbbfjmfcnmaaa", sum := "3c2cbaccfac8b6cede9e2d3fd61e1d31487585709aa6ac34de7c70049631cbd7", func := "loop.example/presburger/laws.FnExactPointValid", spec := "fnExactPointValid", apart := false, narrowed := true }
def FnExactPointValidUptoSaid : Prop := fnExactPointValidUptoRow.holds Try.pinned (OpenSpec.upto fnExactPointValidSpec)

/-- 'laws.FnExactCoefOf', WHERE WHAT IT READS IS OF BULK AT MOST 1048576: true; the input reads as it did. -/
def fnExactCoefOfUptoRow : OpenClaim := { program := "ythhbbfjmfcnmaaa", sum := "3c2cbaccfac8b6cede9e2d3fd61e1d31487585709aa6ac34de7c70049631cbd7", func := "loop.example/presburger/laws.FnExactCoefOf", spec := "fnExactCoefOf", apart := false, narrowed := true }
def FnExactCoefOfUptoSaid : Prop := fnExactCoefOfUptoRow.holds Try.pinned (OpenSpec.upto fnExactCoefOfSpec)

end Rows
end Go.Proofs.Ythhbbfjmfcnmaaa
