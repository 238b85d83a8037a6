/-
  No cell of these rows narrows 'for every input' (looked for: loops, veiled, ifaces, maps, wideKeys, modest, calm, conditions, laid).
  DERIVED. THE GIVEN ROWS OF THIS SEAT. 12 by the template 'for every input the law returns true; each argument reads behind the call as it read before'; 0 by the template 'total and deterministic' (their statements: YtjhfmlbnpdnddaaTotals.lean).
  GIVEN WITH THE SEED: the statements are not yours to turn. If you find one false, say at which input.
  Laid BY PROGRAM, IN A SANDBOX (cutbox-rows.mjs): the forced cells as the released guide's own fill.sh prints them over the translation c0ae235354a354e8… (all of the seat's roots in one cut). By AI agents, Wed Nov 11 2026. No macro, syntax, notation, axiom, sorry.
-/
import Derived.Test.YtjhfmlbnpdnddaaChecked
import GoSem.Claim
import GoSem.ClaimJoined
import GoSem.ClaimMapViews
import Derived.JoinedTies
import Derived.KernelRfl
namespace Go.Proofs.Ytjhfmlbnpdnddaa
/- THE CELL 'sum', in the pinned program and in every row, IS THE sha256 OF THE DUMP (.gsa) THAT YtjhfmlbnpdnddaaProg.lean LOADS. Nothing in Lean hashes anything: it is a label: what it is worth is what the hold of that sum in a sandbox is worth. -/
noncomputable def Try.pinned : Pinned := { name := "ytjhfmlbnpdnddaa", sum := "c0ae235354a354e82748fab0ebf4054d60b54d69c2d9a6ba6d2d645408c1e65d", checked := Try.checked }
namespace Rows
def none {H : Type} : Left H := { results := [], args := [] }

/-- 'laws.FnScaleTerm': WHATEVER THE INPUT: true; the input reads as it did. -/
def fnScaleTermSpec : ChangeSpec := { name := "fnScaleTerm", fn := fun _ => fun
  | [d] => { results := [.lit (.bool true)], args := [d] }
  | _ => none }
def fnScaleTermRow : OpenClaim := { program := "ytjhfmlbnpdnddaa", sum := "c0ae235354a354e82748fab0ebf4054d60b54d69c2d9a6ba6d2d645408c1e65d", func := "loop.example/presburger/laws.FnScaleTerm", spec := "fnScaleTerm", unfollowed := true, recurses := true, apart := false }
def FnScaleTermSaid : Prop := fnScaleTermRow.holds Try.pinned (OpenSpec.ofChange fnScaleTermSpec)

/-- ITS FALSE NEIGHBOUR: 'it returns false'. Refute it at one input. -/
def fnScaleTermWrong : ChangeSpec := { name := "fnScaleTerm", fn := fun _ => fun
  | [d] => { results := [.lit (.bool false)], args := [d] }
  | _ => none }
def FnScaleTermWrongFalsely : Prop := fnScaleTermRow.holds Try.pinned (OpenSpec.ofChange fnScaleTermWrong)

/-- 'laws.FnContent': WHATEVER THE INPUT: true; the input reads as it did. -/
def fnContentSpec : ChangeSpec := { name := "fnContent", fn := fun _ => fun
  | [d] => { results := [.lit (.bool true)], args := [d] }
  | _ => none }
def fnContentRow : OpenClaim := { program := "ytjhfmlbnpdnddaa", sum := "c0ae235354a354e82748fab0ebf4054d60b54d69c2d9a6ba6d2d645408c1e65d", func := "loop.example/presburger/laws.FnContent", spec := "fnContent", unfollowed := true, recurses := true, apart := false }
def FnContentSaid : Prop := fnContentRow.holds Try.pinned (OpenSpec.ofChange fnContentSpec)

/-- ITS FALSE NEIGHBOUR: 'it returns false'. Refute it at one input. -/
def fnContentWrong : ChangeSpec := { name := "fnContent", fn := fun _ => fun
  | [d] => { results := [.lit (.bool false)], args := [d] }
  | _ => none }
def FnContentWrongFalsely : Prop := fnContentRow.holds Try.pinned (OpenSpec.ofChange fnContentWrong)

/-- 'laws.FnGcd': WHATEVER THE INPUT: true; the input reads as it did. -/
def fnGcdSpec : ChangeSpec := { name := "fnGcd", fn := fun _ => fun
  | [d] => { results := [.lit (.bool true)], args := [d] }
  | _ => none }
def fnGcdRow : OpenClaim := { program := "ytjhfmlbnpdnddaa", sum := "c0ae235354a354e82748fab0ebf4054d60b54d69c2d9a6ba6d2d645408c1e65d", func := "loop.example/presburger/laws.FnGcd", spec := "fnGcd", unfollowed := true, recurses := true, apart := false }
def FnGcdSaid : Prop := fnGcdRow.holds Try.pinned (OpenSpec.ofChange fnGcdSpec)

/-- ITS FALSE NEIGHBOUR: 'it returns false'. Refute it at one input. -/
def fnGcdWrong : ChangeSpec := { name := "fnGcd", fn := fun _ => fun
  | [d] => { results := [.lit (.bool false)], args := [d] }
  | _ => none }
def FnGcdWrongFalsely : Prop := fnGcdRow.holds Try.pinned (OpenSpec.ofChange fnGcdWrong)

/-- 'laws.FnLcm': WHATEVER THE INPUT: true; the input reads as it did. -/
def fnLcmSpec : ChangeSpec := { name := "fnLcm", fn := fun _ => fun
  | [d] => { results := [.lit (.bool true)], args := [d] }
  | _ => none }
def fnLcmRow : OpenClaim := { program := "ytjhfmlbnpdnddaa", sum := "c0ae235354a354e82748fab0ebf4054d60b54d69c2d9a6ba6d2d645408c1e65d", func := "loop.example/presburger/laws.FnLcm", spec := "fnLcm", unfollowed := true, recurses := true, apart := false }
def FnLcmSaid : Prop := fnLcmRow.holds Try.pinned (OpenSpec.ofChange fnLcmSpec)

/-- ITS FALSE NEIGHBOUR: 'it returns false'. Refute it at one input. -/
def fnLcmWrong : ChangeSpec := { name := "fnLcm", fn := fun _ => fun
  | [d] => { results := [.lit (.bool false)], args := [d] }
  | _ => none }
def FnLcmWrongFalsely : Prop := fnLcmRow.holds Try.pinned (OpenSpec.ofChange fnLcmWrong)

/-- 'laws.FnFloorCeil': WHATEVER THE INPUT: true; the input reads as it did. -/
def fnFloorCeilSpec : ChangeSpec := { name := "fnFloorCeil", fn := fun _ => fun
  | [d] => { results := [.lit (.bool true)], args := [d] }
  | _ => none }
def fnFloorCeilRow : OpenClaim := { program := "ytjhfmlbnpdnddaa", sum := "c0ae235354a354e82748fab0ebf4054d60b54d69c2d9a6ba6d2d645408c1e65d", func := "loop.example/presburger/laws.FnFloorCeil", spec := "fnFloorCeil", unfollowed := true, recurses := true, apart := false }
def FnFloorCeilSaid : Prop := fnFloorCeilRow.holds Try.pinned (OpenSpec.ofChange fnFloorCeilSpec)

/-- ITS FALSE NEIGHBOUR: 'it returns false'. Refute it at one input. -/
def fnFloorCeilWrong : ChangeSpec := { name := "fnFloorCeil", fn := fun _ => fun
  | [d] => { results := [.lit (.bool false)], args := [d] }
  | _ => none }
def FnFloorCeilWrongFalsely : Prop := fnFloorCeilRow.holds Try.pinned (OpenSpec.ofChange fnFloorCeilWrong)

/-- 'laws.FnInverse': WHATEVER THE INPUT: true; the input reads as it did. -/
def fnInverseSpec : ChangeSpec := { name := "fnInverse", fn := fun _ => fun
  | [d] => { results := [.lit (.bool true)], args := [d] }
  | _ => none }
def fnInverseRow : OpenClaim := { program := "ytjhfmlbnpdnddaa", sum := "c0ae235354a354e82748fab0ebf4054d60b54d69c2d9a6ba6d2d645408c1e65d", func := "loop.example/presburger/laws.FnInverse", spec := "fnInverse", unfollowed := true, recurses := true, apart := false }
def FnInverseSaid : Prop := fnInverseRow.holds Try.pinned (OpenSpec.ofChange fnInverseSpec)

/-- ITS FALSE NEIGHBOUR: 'it returns false'. Refute it at one input. -/
def fnInverseWrong : ChangeSpec := { name := "fnInverse", fn := fun _ => fun
  | [d] => { results := [.lit (.bool false)], args := [d] }
  | _ => none }
def FnInverseWrongFalsely : Prop := fnInverseRow.holds Try.pinned (OpenSpec.ofChange fnInverseWrong)

/-- 'laws.FnCongruence': WHATEVER THE INPUT: true; the input reads as it did. -/
def fnCongruenceSpec : ChangeSpec := { name := "fnCongruence", fn := fun _ => fun
  | [d] => { results := [.lit (.bool true)], args := [d] }
  | _ => none }
def fnCongruenceRow : OpenClaim := { program := "ytjhfmlbnpdnddaa", sum := "c0ae235354a354e82748fab0ebf4054d60b54d69c2d9a6ba6d2d645408c1e65d", func := "loop.example/presburger/laws.FnCongruence", spec := "fnCongruence", unfollowed := true, recurses := true, apart := false }
def FnCongruenceSaid : Prop := fnCongruenceRow.holds Try.pinned (OpenSpec.ofChange fnCongruenceSpec)

/-- ITS FALSE NEIGHBOUR: 'it returns false'. Refute it at one input. -/
def fnCongruenceWrong : ChangeSpec := { name := "fnCongruence", fn := fun _ => fun
  | [d] => { results := [.lit (.bool false)], args := [d] }
  | _ => none }
def FnCongruenceWrongFalsely : Prop := fnCongruenceRow.holds Try.pinned (OpenSpec.ofChange fnCongruenceWrong)

/-- 'laws.FnCombine': WHATEVER THE INPUT: true; the input reads as it did. -/
def fnCombineSpec : ChangeSpec := { name := "fnCombine", fn := fun _ => fun
  | [d] => { results := [.lit (.bool true)], args := [d] }
  | _ => none }
def fnCombineRow : OpenClaim := { program := "ytjhfmlbnpdnddaa", sum := "c0ae235354a354e82748fab0ebf4054d60b54d69c2d9a6ba6d2d645408c1e65d", func := "loop.example/presburger/laws.FnCombine", spec := "fnCombine", unfollowed := true, recurses := true, apart := false }
def FnCombineSaid : Prop := fnCombineRow.holds Try.pinned (OpenSpec.ofChange fnCombineSpec)

/-- ITS FALSE NEIGHBOUR: 'it returns false'. Refute it at one input. -/
def fnCombineWrong : ChangeSpec := { name := "fnCombine", fn := fun _ => fun
  | [d] => { results := [.lit (.bool false)], args := [d] }
  | _ => none }
def FnCombineWrongFalsely : Prop := fnCombineRow.holds Try.pinned (OpenSpec.ofChange fnCombineWrong)

/-- 'laws.FnLeastSolution': WHATEVER THE INPUT: true; the input reads as it did. -/
def fnLeastSolutionSpec : ChangeSpec := { name := "fnLeastSolution", fn := fun _ => fun
  | [d] => { results := [.lit (.bool true)], args := [d] }
  | _ => none }
def fnLeastSolutionRow : OpenClaim := { program := "ytjhfmlbnpdnddaa", sum := "c0ae235354a354e82748fab0ebf4054d60b54d69c2d9a6ba6d2d645408c1e65d", func := "loop.example/presburger/laws.FnLeastSolution", spec := "fnLeastSolution", unfollowed := true, recurses := true, apart := false }
def FnLeastSolutionSaid : Prop := fnLeastSolutionRow.holds Try.pinned (OpenSpec.ofChange fnLeastSolutionSpec)

/-- ITS FALSE NEIGHBOUR: 'it returns false'. Refute it at one input. -/
def fnLeastSolutionWrong : ChangeSpec := { name := "fnLeastSolution", fn := fun _ => fun
  | [d] => { results := [.lit (.bool false)], args := [d] }
  | _ => none }
def FnLeastSolutionWrongFalsely : Prop := fnLeastSolutionRow.holds Try.pinned (OpenSpec.ofChange fnLeastSolutionWrong)

/-- 'laws.FnSolvable': WHATEVER THE INPUT: true; the input reads as it did. -/
def fnSolvableSpec : ChangeSpec := { name := "fnSolvable", fn := fun _ => fun
  | [d] => { results := [.lit (.bool true)], args := [d] }
  | _ => none }
def fnSolvableRow : OpenClaim := { program := "ytjhfmlbnpdnddaa", sum := "c0ae235354a354e82748fab0ebf4054d60b54d69c2d9a6ba6d2d645408c1e65d", func := "loop.example/presburger/laws.FnSolvable", spec := "fnSolvable", unfollowed := true, recurses := true, apart := false }
def FnSolvableSaid : Prop := fnSolvableRow.holds Try.pinned (OpenSpec.ofChange fnSolvableSpec)

/-- ITS FALSE NEIGHBOUR: 'it returns false'. Refute it at one input. -/
def fnSolvableWrong : ChangeSpec := { name := "fnSolvable", fn := fun _ => fun
  | [d] => { results := [.lit (.bool false)], args := [d] }
  | _ => none }
def FnSolvableWrongFalsely : Prop := fnSolvableRow.holds Try.pinned (OpenSpec.ofChange fnSolvableWrong)

/-- 'laws.FnCountSolutions': WHATEVER THE INPUT: true; the input reads as it did. -/
def fnCountSolutionsSpec : ChangeSpec := { name := "fnCountSolutions", fn := fun _ => fun
  | [d] => { results := [.lit (.bool true)], args := [d] }
  | _ => none }
def fnCountSolutionsRow : OpenClaim := { program := "ytjhfmlbnpdnddaa", sum := "c0ae235354a354e82748fab0ebf4054d60b54d69c2d9a6ba6d2d645408c1e65d", func := "loop.example/presburger/laws.FnCountSolutions", spec := "fnCountSolutions", unfollowed := true, recurses := true, apart := false }
def FnCountSolutionsSaid : Prop := fnCountSolutionsRow.holds Try.pinned (OpenSpec.ofChange fnCountSolutionsSpec)

/-- ITS FALSE NEIGHBOUR: 'it returns false'. Refute it at one input. -/
def fnCountSolutionsWrong : ChangeSpec := { name := "fnCountSolutions", fn := fun _ => fun
  | [d] => { results := [.lit (.bool false)], args := [d] }
  | _ => none }
def FnCountSolutionsWrongFalsely : Prop := fnCountSolutionsRow.holds Try.pinned (OpenSpec.ofChange fnCountSolutionsWrong)

/-- 'laws.FnGap': WHATEVER THE INPUT: true; the input reads as it did. -/
def fnGapSpec : ChangeSpec := { name := "fnGap", fn := fun _ => fun
  | [d] => { results := [.lit (.bool true)], args := [d] }
  | _ => none }
def fnGapRow : OpenClaim := { program := "ytjhfmlbnpdnddaa", sum := "c0ae235354a354e82748fab0ebf4054d60b54d69c2d9a6ba6d2d645408c1e65d", func := "loop.example/presburger/laws.FnGap", spec := "fnGap", unfollowed := true, recurses := true, apart := false }
def FnGapSaid : Prop := fnGapRow.holds Try.pinned (OpenSpec.ofChange fnGapSpec)

/-- ITS FALSE NEIGHBOUR: 'it returns false'. Refute it at one input. -/
def fnGapWrong : ChangeSpec := { name := "fnGap", fn := fun _ => fun
  | [d] => { results := [.lit (.bool false)], args := [d] }
  | _ => none }
def FnGapWrongFalsely : Prop := fnGapRow.holds Try.pinned (OpenSpec.ofChange fnGapWrong)

/- THE SECOND FORM. 'bulk': how many values and letters a reading holds, each counted each time it is reached (what is shared counts as often as it is met; a slice's spare places count too). A statement '..UptoSaid' is the law's where the arguments, and the package variables that the reading takes, are together of bulk at most 1048576: NARROWER than '..Said'. Prove '..Said' where nothing that the law and all that it calls make is longer than what came in: it says more and counts as full. Else prove '..UptoSaid'. A law counts once. -/
mutual
def uptoBulk {H : Type} : DataW H → Nat
  | .lit (.string bytes) => bytes.length + 1
  | .lit _ => 1
  | .nil => 1
  | .ptr d => uptoBulk d + 1
  | .slice elems spare => uptoBulkAll elems + uptoBulkAll spare + 1
  | .agg parts => uptoBulkAll parts + 1
  | .iface _ d => uptoBulk d + 1
  | .map entries => uptoBulkEntries entries + 1
  | .held _ => 1
def uptoBulkAll {H : Type} : List (DataW H) → Nat
  | [] => 0
  | d :: r => uptoBulk d + uptoBulkAll r
def uptoBulkEntries {H : Type} : List (Lit × DataW H) → Nat
  | [] => 0
  | x :: r => uptoBulkEntry x + uptoBulkEntries r
def uptoBulkEntry {H : Type} : Lit × DataW H → Nat
  | (.string bytes, d) => bytes.length + uptoBulk d + 1
  | (_, d) => uptoBulk d + 1
 end
def uptoSmall : (H : Type) → List (DataW H) → Bool := fun _ ds => decide (uptoBulkAll ds ≤ 1048576)
def OpenSpec.upto (s : _root_.Go.ChangeSpec) : _root_.Go.OpenSpec := { _root_.Go.OpenSpec.ofChange s with cond := some uptoSmall }

/-- 'laws.FnScaleTerm', WHERE WHAT IT READS IS OF BULK AT MOST 1048576: true; the input reads as it did. -/
def fnScaleTermUptoRow : OpenClaim := { program := "ytjhfmlbnpdnddaa", sum := "c0ae235354a354e82748fab0ebf4054d60b54d69c2d9a6ba6d2d645408c1e65d", func := "loop.example/presburger/laws.FnScaleTerm", spec := "fnScaleTerm", unfollowed := true, recurses := true, apart := false, narrowed := true }
def FnScaleTermUptoSaid : Prop := fnScaleTermUptoRow.holds Try.pinned (OpenSpec.upto fnScaleTermSpec)

/-- 'laws.FnContent', WHERE WHAT IT READS IS OF BULK AT MOST 1048576: true; the input reads as it did. -/
def fnContentUptoRow : OpenClaim := { program := "ytjhfmlbnpdnddaa", sum := "c0ae235354a354e82748fab0ebf4054d60b54d69c2d9a6ba6d2d645408c1e65d", func := "loop.example/presburger/laws.FnContent", spec := "fnContent", unfollowed := true, recurses := true, apart := false, narrowed := true }
def FnContentUptoSaid : Prop := fnContentUptoRow.holds Try.pinned (OpenSpec.upto fnContentSpec)

/-- 'laws.FnGcd', WHERE WHAT IT READS IS OF BULK AT MOST 1048576: true; the input reads as it did. -/
def fnGcdUptoRow : OpenClaim := { program := "ytjhfmlbnpdnddaa", sum := "c0ae235354a354e82748fab0ebf4054d60b54d69c2d9a6ba6d2d645408c1e65d", func := "loop.example/presburger/laws.FnGcd", spec := "fnGcd", unfollowed := true, recurses := true, apart := false, narrowed := true }
def FnGcdUptoSaid : Prop := fnGcdUptoRow.holds Try.pinned (OpenSpec.upto fnGcdSpec)

/-- 'laws.FnLcm', WHERE WHAT IT READS IS OF BULK AT MOST 1048576: true; the input reads as it did. -/
def fnLcmUptoRow : OpenClaim := { program := "ytjhfmlbnpdnddaa", sum := "c0ae235354a354e82748fab0ebf4054d60b54d69c2d9a6ba6d2d645408c1e65d", func := "loop.example/presburger/laws.FnLcm", spec := "fnLcm", unfollowed := true, recurses := true, apart := false, narrowed := true }
def FnLcmUptoSaid : Prop := fnLcmUptoRow.holds Try.pinned (OpenSpec.upto fnLcmSpec)

/-- 'laws.FnFloorCeil', WHERE WHAT IT READS IS OF BULK AT MOST 1048576: true; the input reads as it did. -/
def fnFloorCeilUptoRow : OpenClaim := { program := "ytjhfmlbnpdnddaa", sum := "c0ae235354a354e82748fab0ebf4054d60b54d69c2d9a6ba6d2d645408c1e65d", func := "loop.example/presburger/laws.FnFloorCeil", spec := "fnFloorCeil", unfollowed := true, recurses := true, apart := false, narrowed := true }
def FnFloorCeilUptoSaid : Prop := fnFloorCeilUptoRow.holds Try.pinned (OpenSpec.upto fnFloorCeilSpec)

/-- 'laws.FnInverse', WHERE WHAT IT READS IS OF BULK AT MOST 1048576: true; the input reads as it did. -/
def fnInverseUptoRow : OpenClaim := { program := "ytjhfmlbnpdnddaa", sum := "c0ae235354a354e82748fab0ebf4054d60b54d69c2d9a6ba6d2d645408c1e65d", func := "loop.example/presburger/laws.FnInverse", spec := "fnInverse", unfollowed := true, recurses := true, apart := false, narrowed := true }
def FnInverseUptoSaid : Prop := fnInverseUptoRow.holds Try.pinned (OpenSpec.upto fnInverseSpec)

/-- 'laws.FnCongruence', WHERE WHAT IT READS IS OF BULK AT MOST 1048576: true; the input reads as it did. -/
def fnCongruenceUptoRow : OpenClaim := { program := "ytjhfmlbnpdnddaa", sum := "c0ae235354a354e82748fab0ebf4054d60b54d69c2d9a6ba6d2d645408c1e65d", func := "loop.example/presburger/laws.FnCongruence", spec := "fnCongruence", unfollowed := true, recurses := true, apart := false, narrowed := true }
def FnCongruenceUptoSaid : Prop := fnCongruenceUptoRow.holds Try.pinned (OpenSpec.upto fnCongruenceSpec)

/-- 'laws.FnCombine', WHERE WHAT IT READS IS OF BULK AT MOST 1048576: true; the input reads as it did. -/
def fnCombineUptoRow : OpenClaim := { program := "ytjhfmlbnpdnddaa", sum := "c0ae235354a354e82748fab0ebf4054d60b54d69c2d9a6ba6d2d645408c1e65d", func := "loop.example/presburger/laws.FnCombine", spec := "fnCombine", unfollowed := true, recurses := true, apart := false, narrowed := true }
def FnCombineUptoSaid : Prop := fnCombineUptoRow.holds Try.pinned (OpenSpec.upto fnCombineSpec)

/-- 'laws.FnLeastSolution', WHERE WHAT IT READS IS OF BULK AT MOST 1048576: true; the input reads as it did. -/
def fnLeastSolutionUptoRow : OpenClaim := { program := "ytjhfmlbnpdnddaa", sum := "c0ae235354a354e82748fab0ebf4054d60b54d69c2d9a6ba6d2d645408c1e65d", func := "loop.example/presburger/laws.FnLeastSolution", spec := "fnLeastSolution", unfollowed := true, recurses := true, apart := false, narrowed := true }
def FnLeastSolutionUptoSaid : Prop := fnLeastSolutionUptoRow.holds Try.pinned (OpenSpec.upto fnLeastSolutionSpec)

/-- 'laws.FnSolvable', WHERE WHAT IT READS IS OF BULK AT MOST 1048576: true; the input reads as it did. -/
def fnSolvableUptoRow : OpenClaim := { program := "ytjhfmlbnpdnddaa", sum := "c0ae235354a354e82748fab0ebf4054d60b54d69c2d9a6ba6d2d645408c1e65d", func := "loop.example/presburger/laws.FnSolvable", spec := "fnSolvable", unfollowed := true, recurses := true, apart := false, narrowed := true }
def FnSolvableUptoSaid : Prop := fnSolvableUptoRow.holds Try.pinned (OpenSpec.upto fnSolvableSpec)

/-- 'laws.FnCountSolutions', WHERE WHAT IT READS IS OF BULK AT MOST 1048576: true; the input reads as it did. -/
def fnCountSolutionsUptoRow : OpenClaim := { program := "ytjhfmlbnpdnddaa", sum := "c0ae235354a354e82748fab0ebf4054d60b54d69c2d9a6ba6d2d645408c1e65d", func := "loop.example/presburger/laws.FnCountSolutions", spec := "fnCountSolutions", unfollowed := true, recurses := true, apart := false, narrowed := true }
def FnCountSolutionsUptoSaid : Prop := fnCountSolutionsUptoRow.holds Try.pinned (OpenSpec.upto fnCountSolutionsSpec)

/-- 'laws.FnGap', WHERE WHAT IT READS IS OF BULK AT MOST 1048576: true; the input reads as it did. -/
def fnGapUptoRow : OpenClaim := { program := "ytjhfmlbnpdnddaa", sum := "c0ae235354a354e82748fab0ebf4054d60b54d69c2d9a6ba6d2d645408c1e65d", func := "loop.example/presburger/laws.FnGap", spec := "fnGap", unfollowed := true, recurses := true, apart := false, narrowed := true }
def FnGapUptoSaid : Prop := fnGapUptoRow.holds Try.pinned (OpenSpec.upto fnGapSpec)

end Rows
end Go.Proofs.Ytjhfmlbnpdnddaa
