/-
  No cell of these rows narrows 'for every input' (looked for: loops, veiled, ifaces, maps, wideKeys, modest, calm, conditions, laid).
  DERIVED. THE GIVEN ROWS OF THIS SEAT. 15 by the template 'for every input the law returns true; each argument reads behind the call as it read before'; 0 by the template 'total and deterministic' (their statements: YthphlkfofbdncaaTotals.lean).
  GIVEN WITH THE SEED: the statements are not yours to turn. If you find one false, say at which input.
  Laid BY PROGRAM, IN A SANDBOX (cutbox-rows.mjs): the forced cells as the released guide's own fill.sh prints them over the translation 4d4fb437961ff301… (all of the seat's roots in one cut). By AI agents, Wed Nov 11 2026. No macro, syntax, notation, axiom, sorry.
-/
import Derived.Test.YthphlkfofbdncaaChecked
import GoSem.Claim
import GoSem.ClaimJoined
import GoSem.ClaimMapViews
import Derived.JoinedTies
import Derived.KernelRfl
namespace Go.Proofs.Ythphlkfofbdncaa
/- THE CELL 'sum', in the pinned program and in every row, IS THE sha256 OF THE DUMP (.gsa) THAT YthphlkfofbdncaaProg.lean LOADS. Nothing in Lean hashes anything: it is a label: what it is worth is what the hold of that sum in a sandbox is worth. -/
noncomputable def Try.pinned : Pinned := { name := "ythphlkfofbdncaa", sum := "4d4fb437961ff301fc5b07f5b3ce945d88746c53556085a677d19030eef8b9fb", checked := Try.checked }
namespace Rows
def none {H : Type} : Left H := { results := [], args := [] }

/-- 'laws.FnExactAtomValid': WHATEVER THE INPUT: true; the input reads as it did. -/
def fnExactAtomValidSpec : ChangeSpec := { name := "fnExactAtomValid", fn := fun _ => fun
  | [d] => { results := [.lit (.bool true)], args := [d] }
  | _ => none }
def fnExactAtomValidRow : OpenClaim := { program := "ythphlkfofbdncaa", sum := "4d4fb437961ff301fc5b07f5b3ce945d88746c53556085a677d19030eef8b9fb", func := "loop.example/presburger/laws.FnExactAtomValid", spec := "fnExactAtomValid", apart := false }
def FnExactAtomValidSaid : Prop := fnExactAtomValidRow.holds Try.pinned (OpenSpec.ofChange fnExactAtomValidSpec)

/-- ITS FALSE NEIGHBOUR: 'it returns false'. Refute it at one input. -/
def fnExactAtomValidWrong : ChangeSpec := { name := "fnExactAtomValid", fn := fun _ => fun
  | [d] => { results := [.lit (.bool false)], args := [d] }
  | _ => none }
def FnExactAtomValidWrongFalsely : Prop := fnExactAtomValidRow.holds Try.pinned (OpenSpec.ofChange fnExactAtomValidWrong)

/-- 'laws.FnExactNegateAtom': WHATEVER THE INPUT: true; the input reads as it did. -/
def fnExactNegateAtomSpec : ChangeSpec := { name := "fnExactNegateAtom", fn := fun _ => fun
  | [d] => { results := [.lit (.bool true)], args := [d] }
  | _ => none }
def fnExactNegateAtomRow : OpenClaim := { program := "ythphlkfofbdncaa", sum := "4d4fb437961ff301fc5b07f5b3ce945d88746c53556085a677d19030eef8b9fb", func := "loop.example/presburger/laws.FnExactNegateAtom", spec := "fnExactNegateAtom", apart := false }
def FnExactNegateAtomSaid : Prop := fnExactNegateAtomRow.holds Try.pinned (OpenSpec.ofChange fnExactNegateAtomSpec)

/-- ITS FALSE NEIGHBOUR: 'it returns false'. Refute it at one input. -/
def fnExactNegateAtomWrong : ChangeSpec := { name := "fnExactNegateAtom", fn := fun _ => fun
  | [d] => { results := [.lit (.bool false)], args := [d] }
  | _ => none }
def FnExactNegateAtomWrongFalsely : Prop := fnExactNegateAtomRow.holds Try.pinned (OpenSpec.ofChange fnExactNegateAtomWrong)

/-- 'laws.FnExactSplitZero': WHATEVER THE INPUT: true; the input reads as it did. -/
def fnExactSplitZeroSpec : ChangeSpec := { name := "fnExactSplitZero", fn := fun _ => fun
  | [d] => { results := [.lit (.bool true)], args := [d] }
  | _ => none }
def fnExactSplitZeroRow : OpenClaim := { program := "ythphlkfofbdncaa", sum := "4d4fb437961ff301fc5b07f5b3ce945d88746c53556085a677d19030eef8b9fb", func := "loop.example/presburger/laws.FnExactSplitZero", spec := "fnExactSplitZero", apart := false }
def FnExactSplitZeroSaid : Prop := fnExactSplitZeroRow.holds Try.pinned (OpenSpec.ofChange fnExactSplitZeroSpec)

/-- ITS FALSE NEIGHBOUR: 'it returns false'. Refute it at one input. -/
def fnExactSplitZeroWrong : ChangeSpec := { name := "fnExactSplitZero", fn := fun _ => fun
  | [d] => { results := [.lit (.bool false)], args := [d] }
  | _ => none }
def FnExactSplitZeroWrongFalsely : Prop := fnExactSplitZeroRow.holds Try.pinned (OpenSpec.ofChange fnExactSplitZeroWrong)

/-- 'laws.FnExactTruthAtom': WHATEVER THE INPUT: true; the input reads as it did. -/
def fnExactTruthAtomSpec : ChangeSpec := { name := "fnExactTruthAtom", fn := fun _ => fun
  | [d] => { results := [.lit (.bool true)], args := [d] }
  | _ => none }
def fnExactTruthAtomRow : OpenClaim := { program := "ythphlkfofbdncaa", sum := "4d4fb437961ff301fc5b07f5b3ce945d88746c53556085a677d19030eef8b9fb", func := "loop.example/presburger/laws.FnExactTruthAtom", spec := "fnExactTruthAtom", apart := false }
def FnExactTruthAtomSaid : Prop := fnExactTruthAtomRow.holds Try.pinned (OpenSpec.ofChange fnExactTruthAtomSpec)

/-- ITS FALSE NEIGHBOUR: 'it returns false'. Refute it at one input. -/
def fnExactTruthAtomWrong : ChangeSpec := { name := "fnExactTruthAtom", fn := fun _ => fun
  | [d] => { results := [.lit (.bool false)], args := [d] }
  | _ => none }
def FnExactTruthAtomWrongFalsely : Prop := fnExactTruthAtomRow.holds Try.pinned (OpenSpec.ofChange fnExactTruthAtomWrong)

/-- 'laws.FnExactScaleAtom': WHATEVER THE INPUT: true; the input reads as it did. -/
def fnExactScaleAtomSpec : ChangeSpec := { name := "fnExactScaleAtom", fn := fun _ => fun
  | [d1, d2] => { results := [.lit (.bool true)], args := [d1, d2] }
  | _ => none }
def fnExactScaleAtomRow : OpenClaim := { program := "ythphlkfofbdncaa", sum := "4d4fb437961ff301fc5b07f5b3ce945d88746c53556085a677d19030eef8b9fb", func := "loop.example/presburger/laws.FnExactScaleAtom", spec := "fnExactScaleAtom", apart := false }
def FnExactScaleAtomSaid : Prop := fnExactScaleAtomRow.holds Try.pinned (OpenSpec.ofChange fnExactScaleAtomSpec)

/-- ITS FALSE NEIGHBOUR: 'it returns false'. Refute it at one input. -/
def fnExactScaleAtomWrong : ChangeSpec := { name := "fnExactScaleAtom", fn := fun _ => fun
  | [d1, d2] => { results := [.lit (.bool false)], args := [d1, d2] }
  | _ => none }
def FnExactScaleAtomWrongFalsely : Prop := fnExactScaleAtomRow.holds Try.pinned (OpenSpec.ofChange fnExactScaleAtomWrong)

/-- 'laws.FnExactSubstAtom': WHATEVER THE INPUT: true; the input reads as it did. -/
def fnExactSubstAtomSpec : ChangeSpec := { name := "fnExactSubstAtom", fn := fun _ => fun
  | [d1, d2, d3] => { results := [.lit (.bool true)], args := [d1, d2, d3] }
  | _ => none }
def fnExactSubstAtomRow : OpenClaim := { program := "ythphlkfofbdncaa", sum := "4d4fb437961ff301fc5b07f5b3ce945d88746c53556085a677d19030eef8b9fb", func := "loop.example/presburger/laws.FnExactSubstAtom", spec := "fnExactSubstAtom", apart := false }
def FnExactSubstAtomSaid : Prop := fnExactSubstAtomRow.holds Try.pinned (OpenSpec.ofChange fnExactSubstAtomSpec)

/-- ITS FALSE NEIGHBOUR: 'it returns false'. Refute it at one input. -/
def fnExactSubstAtomWrong : ChangeSpec := { name := "fnExactSubstAtom", fn := fun _ => fun
  | [d1, d2, d3] => { results := [.lit (.bool false)], args := [d1, d2, d3] }
  | _ => none }
def FnExactSubstAtomWrongFalsely : Prop := fnExactSubstAtomRow.holds Try.pinned (OpenSpec.ofChange fnExactSubstAtomWrong)

/-- 'laws.FnExactAtomVars': WHATEVER THE INPUT: true; the input reads as it did. -/
def fnExactAtomVarsSpec : ChangeSpec := { name := "fnExactAtomVars", fn := fun _ => fun
  | [d] => { results := [.lit (.bool true)], args := [d] }
  | _ => none }
def fnExactAtomVarsRow : OpenClaim := { program := "ythphlkfofbdncaa", sum := "4d4fb437961ff301fc5b07f5b3ce945d88746c53556085a677d19030eef8b9fb", func := "loop.example/presburger/laws.FnExactAtomVars", spec := "fnExactAtomVars", apart := false }
def FnExactAtomVarsSaid : Prop := fnExactAtomVarsRow.holds Try.pinned (OpenSpec.ofChange fnExactAtomVarsSpec)

/-- ITS FALSE NEIGHBOUR: 'it returns false'. Refute it at one input. -/
def fnExactAtomVarsWrong : ChangeSpec := { name := "fnExactAtomVars", fn := fun _ => fun
  | [d] => { results := [.lit (.bool false)], args := [d] }
  | _ => none }
def FnExactAtomVarsWrongFalsely : Prop := fnExactAtomVarsRow.holds Try.pinned (OpenSpec.ofChange fnExactAtomVarsWrong)

/-- 'laws.FnExactTermVars': WHATEVER THE INPUT: true; the input reads as it did. -/
def fnExactTermVarsSpec : ChangeSpec := { name := "fnExactTermVars", fn := fun _ => fun
  | [d] => { results := [.lit (.bool true)], args := [d] }
  | _ => none }
def fnExactTermVarsRow : OpenClaim := { program := "ythphlkfofbdncaa", sum := "4d4fb437961ff301fc5b07f5b3ce945d88746c53556085a677d19030eef8b9fb", func := "loop.example/presburger/laws.FnExactTermVars", spec := "fnExactTermVars", apart := false }
def FnExactTermVarsSaid : Prop := fnExactTermVarsRow.holds Try.pinned (OpenSpec.ofChange fnExactTermVarsSpec)

/-- ITS FALSE NEIGHBOUR: 'it returns false'. Refute it at one input. -/
def fnExactTermVarsWrong : ChangeSpec := { name := "fnExactTermVars", fn := fun _ => fun
  | [d] => { results := [.lit (.bool false)], args := [d] }
  | _ => none }
def FnExactTermVarsWrongFalsely : Prop := fnExactTermVarsRow.holds Try.pinned (OpenSpec.ofChange fnExactTermVarsWrong)

/-- 'laws.FnWithValue': WHATEVER THE INPUT: true; the input reads as it did. -/
def fnWithValueSpec : ChangeSpec := { name := "fnWithValue", fn := fun _ => fun
  | [d] => { results := [.lit (.bool true)], args := [d] }
  | _ => none }
def fnWithValueRow : OpenClaim := { program := "ythphlkfofbdncaa", sum := "4d4fb437961ff301fc5b07f5b3ce945d88746c53556085a677d19030eef8b9fb", func := "loop.example/presburger/laws.FnWithValue", spec := "fnWithValue", apart := false }
def FnWithValueSaid : Prop := fnWithValueRow.holds Try.pinned (OpenSpec.ofChange fnWithValueSpec)

/-- ITS FALSE NEIGHBOUR: 'it returns false'. Refute it at one input. -/
def fnWithValueWrong : ChangeSpec := { name := "fnWithValue", fn := fun _ => fun
  | [d] => { results := [.lit (.bool false)], args := [d] }
  | _ => none }
def FnWithValueWrongFalsely : Prop := fnWithValueRow.holds Try.pinned (OpenSpec.ofChange fnWithValueWrong)

/-- 'laws.FnEvalSum': WHATEVER THE INPUT: true; the input reads as it did. -/
def fnEvalSumSpec : ChangeSpec := { name := "fnEvalSum", fn := fun _ => fun
  | [d] => { results := [.lit (.bool true)], args := [d] }
  | _ => none }
def fnEvalSumRow : OpenClaim := { program := "ythphlkfofbdncaa", sum := "4d4fb437961ff301fc5b07f5b3ce945d88746c53556085a677d19030eef8b9fb", func := "loop.example/presburger/laws.FnEvalSum", spec := "fnEvalSum", apart := false }
def FnEvalSumSaid : Prop := fnEvalSumRow.holds Try.pinned (OpenSpec.ofChange fnEvalSumSpec)

/-- ITS FALSE NEIGHBOUR: 'it returns false'. Refute it at one input. -/
def fnEvalSumWrong : ChangeSpec := { name := "fnEvalSum", fn := fun _ => fun
  | [d] => { results := [.lit (.bool false)], args := [d] }
  | _ => none }
def FnEvalSumWrongFalsely : Prop := fnEvalSumRow.holds Try.pinned (OpenSpec.ofChange fnEvalSumWrong)

/-- 'laws.FnAddTerms': WHATEVER THE INPUT: true; the input reads as it did. -/
def fnAddTermsSpec : ChangeSpec := { name := "fnAddTerms", fn := fun _ => fun
  | [d] => { results := [.lit (.bool true)], args := [d] }
  | _ => none }
def fnAddTermsRow : OpenClaim := { program := "ythphlkfofbdncaa", sum := "4d4fb437961ff301fc5b07f5b3ce945d88746c53556085a677d19030eef8b9fb", func := "loop.example/presburger/laws.FnAddTerms", spec := "fnAddTerms", apart := false }
def FnAddTermsSaid : Prop := fnAddTermsRow.holds Try.pinned (OpenSpec.ofChange fnAddTermsSpec)

/-- ITS FALSE NEIGHBOUR: 'it returns false'. Refute it at one input. -/
def fnAddTermsWrong : ChangeSpec := { name := "fnAddTerms", fn := fun _ => fun
  | [d] => { results := [.lit (.bool false)], args := [d] }
  | _ => none }
def FnAddTermsWrongFalsely : Prop := fnAddTermsRow.holds Try.pinned (OpenSpec.ofChange fnAddTermsWrong)

/-- 'laws.FnScaleTerm': WHATEVER THE INPUT: true; the input reads as it did. -/
def fnScaleTermSpec : ChangeSpec := { name := "fnScaleTerm", fn := fun _ => fun
  | [d] => { results := [.lit (.bool true)], args := [d] }
  | _ => none }
def fnScaleTermRow : OpenClaim := { program := "ythphlkfofbdncaa", sum := "4d4fb437961ff301fc5b07f5b3ce945d88746c53556085a677d19030eef8b9fb", func := "loop.example/presburger/laws.FnScaleTerm", spec := "fnScaleTerm", apart := false }
def FnScaleTermSaid : Prop := fnScaleTermRow.holds Try.pinned (OpenSpec.ofChange fnScaleTermSpec)

/-- ITS FALSE NEIGHBOUR: 'it returns false'. Refute it at one input. -/
def fnScaleTermWrong : ChangeSpec := { name := "fnScaleTerm", fn := fun _ => fun
  | [d] => { results := [.lit (.bool false)], args := [d] }
  | _ => none }
def FnScaleTermWrongFalsely : Prop := fnScaleTermRow.holds Try.pinned (OpenSpec.ofChange fnScaleTermWrong)

/-- 'laws.FnSubstTerm': WHATEVER THE INPUT: true; the input reads as it did. -/
def fnSubstTermSpec : ChangeSpec := { name := "fnSubstTerm", fn := fun _ => fun
  | [d] => { results := [.lit (.bool true)], args := [d] }
  | _ => none }
def fnSubstTermRow : OpenClaim := { program := "ythphlkfofbdncaa", sum := "4d4fb437961ff301fc5b07f5b3ce945d88746c53556085a677d19030eef8b9fb", func := "loop.example/presburger/laws.FnSubstTerm", spec := "fnSubstTerm", apart := false }
def FnSubstTermSaid : Prop := fnSubstTermRow.holds Try.pinned (OpenSpec.ofChange fnSubstTermSpec)

/-- ITS FALSE NEIGHBOUR: 'it returns false'. Refute it at one input. -/
def fnSubstTermWrong : ChangeSpec := { name := "fnSubstTerm", fn := fun _ => fun
  | [d] => { results := [.lit (.bool false)], args := [d] }
  | _ => none }
def FnSubstTermWrongFalsely : Prop := fnSubstTermRow.holds Try.pinned (OpenSpec.ofChange fnSubstTermWrong)

/-- 'laws.FnTermVars': WHATEVER THE INPUT: true; the input reads as it did. -/
def fnTermVarsSpec : ChangeSpec := { name := "fnTermVars", fn := fun _ => fun
  | [d] => { results := [.lit (.bool true)], args := [d] }
  | _ => none }
def fnTermVarsRow : OpenClaim := { program := "ythphlkfofbdncaa", sum := "4d4fb437961ff301fc5b07f5b3ce945d88746c53556085a677d19030eef8b9fb", func := "loop.example/presburger/laws.FnTermVars", spec := "fnTermVars", apart := false }
def FnTermVarsSaid : Prop := fnTermVarsRow.holds Try.pinned (OpenSpec.ofChange fnTermVarsSpec)

/-- ITS FALSE NEIGHBOUR: 'it returns false'. Refute it at one input. -/
def fnTermVarsWrong : ChangeSpec := { name := "fnTermVars", fn := fun _ => fun
  | [d] => { results := [.lit (.bool false)], args := [d] }
  | _ => none }
def FnTermVarsWrongFalsely : Prop := fnTermVarsRow.holds Try.pinned (OpenSpec.ofChange fnTermVarsWrong)

/-- 'laws.FnSwapVars': WHATEVER THE INPUT: true; the input reads as it did. -/
def fnSwapVarsSpec : ChangeSpec := { name := "fnSwapVars", fn := fun _ => fun
  | [d] => { results := [.lit (.bool true)], args := [d] }
  | _ => none }
def fnSwapVarsRow : OpenClaim := { program := "ythphlkfofbdncaa", sum := "4d4fb437961ff301fc5b07f5b3ce945d88746c53556085a677d19030eef8b9fb", func := "loop.example/presburger/laws.FnSwapVars", spec := "fnSwapVars", apart := false }
def FnSwapVarsSaid : Prop := fnSwapVarsRow.holds Try.pinned (OpenSpec.ofChange fnSwapVarsSpec)

/-- ITS FALSE NEIGHBOUR: 'it returns false'. Refute it at one input. -/
def fnSwapVarsWrong : ChangeSpec := { name := "fnSwapVars", fn := fun _ => fun
  | [d] => { results := [.lit (.bool false)], args := [d] }
  | _ => none }
def FnSwapVarsWrongFalsely : Prop := fnSwapVarsRow.holds Try.pinned (OpenSpec.ofChange fnSwapVarsWrong)

/- THE SECOND FORM. 'bulk': how many values and letters a reading holds, each counted each time it is reached (what is shared counts as often as it is met; a slice's spare places count too). A statement '..UptoSaid' is the law's where the arguments, and the package variables that the reading takes, are together of bulk at most 1048576: NARROWER than '..Said'. Prove '..Said' where nothing that the law and all that it calls make is longer than what came in: it says more and counts as full. Else prove '..UptoSaid'. A law counts once. -/
mutual
def uptoBulk {H : Type} : DataW H → Nat
  | .lit (.string bytes) => bytes.length + 1
  | .lit _ => 1
  | .nil => 1
  | .ptr d => uptoBulk d + 1
  | .slice elems spare => uptoBulkAll elems + uptoBulkAll spare + 1
  | .agg parts => uptoBulkAll parts + 1
  | .iface _ d => uptoBulk d + 1
  | .map entries => uptoBulkEntries entries + 1
  | .held _ => 1
def uptoBulkAll {H : Type} : List (DataW H) → Nat
  | [] => 0
  | d :: r => uptoBulk d + uptoBulkAll r
def uptoBulkEntries {H : Type} : List (Lit × DataW H) → Nat
  | [] => 0
  | x :: r => uptoBulkEntry x + uptoBulkEntries r
def uptoBulkEntry {H : Type} : Lit × DataW H → Nat
  | (.string bytes, d) => bytes.length + uptoBulk d + 1
  | (_, d) => uptoBulk d + 1
 end
def uptoSmall : (H : Type) → List (DataW H) → Bool := fun _ ds => decide (uptoBulkAll ds ≤ 1048576)
def OpenSpec.upto (s : _root_.Go.ChangeSpec) : _root_.Go.OpenSpec := { _root_.Go.OpenSpec.ofChange s with cond := some uptoSmall }

/-- 'laws.FnExactAtomValid', WHERE WHAT IT READS IS OF BULK AT MOST 1048576: true; the input reads as it did. -/
def fnExactAtomValidUptoRow : OpenClaim := { program := "ythphlkfofbdncaa", sum := "4d4fb437961ff301fc5b07f5b3ce945d88746c53556085a677d19030eef8b9fb", func := "loop.example/presburger/laws.FnExactAtomValid", spec := "fnExactAtomValid", apart := false, narrowed := true }
def FnExactAtomValidUptoSaid : Prop := fnExactAtomValidUptoRow.holds Try.pinned (OpenSpec.upto fnExactAtomValidSpec)

/-- 'laws.FnExactNegateAtom', WHERE WHAT IT READS IS OF BULK AT MOST 1048576: true; the input reads as it did. -/
def fnExactNegateAtomUptoRow : OpenClaim := { program := "ythphlkfofbdncaa", sum := "4d4fb437961ff301fc5b07f5b3ce945d88746c53556085a677d19030eef8b9fb", func := "loop.example/presburger/laws.FnExactNegateAtom", spec := "fnExactNegateAtom", apart := false, narrowed := true }
def FnExactNegateAtomUptoSaid : Prop := fnExactNegateAtomUptoRow.holds Try.pinned (OpenSpec.upto fnExactNegateAtomSpec)

/-- 'laws.FnExactSplitZero', WHERE WHAT IT READS IS OF BULK AT MOST 1048576: true; the input reads as it did. -/
def fnExactSplitZeroUptoRow : OpenClaim := { program := "ythphlkfofbdncaa", sum := "4d4fb437961ff301fc5b07f5b3ce945d88746c53556085a677d19030eef8b9fb", func := "loop.example/presburger/laws.FnExactSplitZero", spec := "fnExactSplitZero", apart := false, narrowed := true }
def FnExactSplitZeroUptoSaid : Prop := fnExactSplitZeroUptoRow.holds Try.pinned (OpenSpec.upto fnExactSplitZeroSpec)

/-- 'laws.FnExactTruthAtom', WHERE WHAT IT READS IS OF BULK AT MOST 1048576: true; the input reads as it did. -/
def fnExactTruthAtomUptoRow : OpenClaim := { program := "ythphlkfofbdncaa", sum := "4d4fb437961ff301fc5b07f5b3ce945d88746c53556085a677d19030eef8b9fb", func := "loop.example/presburger/laws.FnExactTruthAtom", spec := "fnExactTruthAtom", apart := false, narrowed := true }
def FnExactTruthAtomUptoSaid : Prop := fnExactTruthAtomUptoRow.holds Try.pinned (OpenSpec.upto fnExactTruthAtomSpec)

/-- 'laws.FnExactScaleAtom', WHERE WHAT IT READS IS OF BULK AT MOST 1048576: true; the input reads as it did. -/
def fnExactScaleAtomUptoRow : OpenClaim := { program := "ythphlkfofbdncaa", sum := "4d4fb437961ff301fc5b07f5b3ce945d88746c53556085a677d19030eef8b9fb", func := "loop.example/presburger/laws.FnExactScaleAtom", spec := "fnExactScaleAtom", apart := false, narrowed := true }
def FnExactScaleAtomUptoSaid : Prop := fnExactScaleAtomUptoRow.holds Try.pinned (OpenSpec.upto fnExactScaleAtomSpec)

/-- 'laws.FnExactSubstAtom', WHERE WHAT IT READS IS OF BULK AT MOST 1048576: true; the input reads as it did. -/
def fnExactSubstAtomUptoRow : OpenClaim := { program := "ythphlkfofbdncaa", sum := "4d4fb437961ff301fc5b07f5b3ce945d88746c53556085a677d19030eef8b9fb", func := "loop.example/presburger/laws.FnExactSubstAtom", spec := "fnExactSubstAtom", apart := false, narrowed := true }
def FnExactSubstAtomUptoSaid : Prop := fnExactSubstAtomUptoRow.holds Try.pinned (OpenSpec.upto fnExactSubstAtomSpec)

/-- 'laws.FnExactAtomVars', WHERE WHAT IT READS IS OF BULK AT MOST 1048576: true; the input reads as it did. -/
def fnExactAtomVarsUptoRow : OpenClaim := { program := "ythphlkfofbdncaa", sum := "4d4fb437961ff301fc5b07f5b3ce945d88746c53556085a677d19030eef8b9fb", func := "loop.example/presburger/laws.FnExactAtomVars", spec := "fnExactAtomVars", apart := false, narrowed := true }
def FnExactAtomVarsUptoSaid : Prop := fnExactAtomVarsUptoRow.holds Try.pinned (OpenSpec.upto fnExactAtomVarsSpec)

/-- 'laws.FnExactTermVars', WHERE WHAT IT READS IS OF BULK AT MOST 1048576: true; the input reads as it did. -/
def fnExactTermVarsUptoRow : OpenClaim := { program := "ythphlkfofbdncaa", sum := "4d4fb437961ff301fc5b07f5b3ce945d88746c53556085a677d19030eef8b9fb", func := "loop.example/presburger/laws.FnExactTermVars", spec := "fnExactTermVars", apart := false, narrowed := true }
def FnExactTermVarsUptoSaid : Prop := fnExactTermVarsUptoRow.holds Try.pinned (OpenSpec.upto fnExactTermVarsSpec)

/-- 'laws.FnWithValue', WHERE WHAT IT READS IS OF BULK AT MOST 1048576: true; the input reads as it did. -/
def fnWithValueUptoRow : OpenClaim := { program := "ythphlkfofbdncaa", sum := "4d4fb437961ff301fc5b07f5b3ce945d88746c53556085a677d19030eef8b9fb", func := "loop.example/presburger/laws.FnWithValue", spec := "fnWithValue", apart := false, narrowed := true }
def FnWithValueUptoSaid : Prop := fnWithValueUptoRow.holds Try.pinned (OpenSpec.upto fnWithValueSpec)

/-- 'laws.FnEvalSum', WHERE WHAT IT READS IS OF BULK AT MOST 1048576: true; the input reads as it did. -/
def fnEvalSumUptoRow : OpenClaim := { program := "ythphlkfofbdncaa", sum := "4d4fb437961ff301fc5b07f5b3ce945d88746c53556085a677d19030eef8b9fb", func := "loop.example/presburger/laws.FnEvalSum", spec := "fnEvalSum", apart := false, narrowed := true }
def FnEvalSumUptoSaid : Prop := fnEvalSumUptoRow.holds Try.pinned (OpenSpec.upto fnEvalSumSpec)

/-- 'laws.FnAddTerms', WHERE WHAT IT READS IS OF BULK AT MOST 1048576: true; the input reads as it did. -/
def fnAddTermsUptoRow : OpenClaim := { program := "ythphlkfofbdncaa", sum := "4d4fb437961ff301fc5b07f5b3ce945d88746c53556085a677d19030eef8b9fb", func := "loop.example/presburger/laws.FnAddTerms", spec := "fnAddTerms", apart := false, narrowed := true }
def FnAddTermsUptoSaid : Prop := fnAddTermsUptoRow.holds Try.pinned (OpenSpec.upto fnAddTermsSpec)

/-- 'laws.FnScaleTerm', WHERE WHAT IT READS IS OF BULK AT MOST 1048576: true; the input reads as it did. -/
def fnScaleTermUptoRow : OpenClaim := { program := "ythphlkfofbdncaa", sum := "4d4fb437961ff301fc5b07f5b3ce945d88746c53556085a677d19030eef8b9fb", func := "loop.example/presburger/laws.FnScaleTerm", spec := "fnScaleTerm", apart := false, narrowed := true }
def FnScaleTermUptoSaid : Prop := fnScaleTermUptoRow.holds Try.pinned (OpenSpec.upto fnScaleTermSpec)

/-- 'laws.FnSubstTerm', WHERE WHAT IT READS IS OF BULK AT MOST 1048576: true; the input reads as it did. -/
def fnSubstTermUptoRow : OpenClaim := { program := "ythphlkfofbdncaa", sum := "4d4fb437961ff301fc5b07f5b3ce945d88746c53556085a677d19030eef8b9fb", func := "loop.example/presburger/laws.FnSubstTerm", spec := "fnSubstTerm", apart := false, narrowed := true }
def FnSubstTermUptoSaid : Prop := fnSubstTermUptoRow.holds Try.pinned (OpenSpec.upto fnSubstTermSpec)

/-- 'laws.FnTermVars', WHERE WHAT IT READS IS OF BULK AT MOST 1048576: true; the input reads as it did. -/
def fnTermVarsUptoRow : OpenClaim := { program := "ythphlkfofbdncaa", sum := "4d4fb437961ff301fc5b07f5b3ce945d88746c53556085a677d19030eef8b9fb", func := "loop.example/presburger/laws.FnTermVars", spec := "fnTermVars", apart := false, narrowed := true }
def FnTermVarsUptoSaid : Prop := fnTermVarsUptoRow.holds Try.pinned (OpenSpec.upto fnTermVarsSpec)

/-- 'laws.FnSwapVars', WHERE WHAT IT READS IS OF BULK AT MOST 1048576: true; the input reads as it did. -/
def fnSwapVarsUptoRow : OpenClaim := { program := "ythphlkfofbdncaa", sum := "4d4fb437961ff301fc5b07f5b3ce945d88746c53556085a677d19030eef8b9fb", func := "loop.example/presburger/laws.FnSwapVars", spec := "fnSwapVars", apart := false, narrowed := true }
def FnSwapVarsUptoSaid : Prop := fnSwapVarsUptoRow.holds Try.pinned (OpenSpec.upto fnSwapVarsSpec)

end Rows
end Go.Proofs.Ythphlkfofbdncaa
