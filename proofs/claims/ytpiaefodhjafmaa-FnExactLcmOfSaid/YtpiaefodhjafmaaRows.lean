/-
  No cell of these rows narrows 'for every input' (looked for: loops, veiled, ifaces, maps, wideKeys, modest, calm, conditions, laid).
  DERIVED. THE GIVEN ROWS OF THIS SEAT. 12 by the template 'for every input the law returns true; each argument reads behind the call as it read before'; 0 by the template 'total and deterministic' (their statements: YtpiaefodhjafmaaTotals.lean).
  GIVEN WITH THE SEED: the statements are not yours to turn. If you find one false, say at which input.
  Laid BY PROGRAM, IN A SANDBOX (cutbox-rows.mjs): the forced cells as the released guide's own fill.sh prints them over the translation 71526d956d49268a… (all of the seat's roots in one cut). By AI agents, Wed Nov 11 2026. No macro, syntax, notation, axiom, sorry.
-/
import Derived.Test.YtpiaefodhjafmaaChecked
import GoSem.Claim
import GoSem.ClaimJoined
import GoSem.ClaimMapViews
import Derived.JoinedTies
import Derived.KernelRfl
namespace Go.Proofs.Ytpiaefodhjafmaa
/- THE CELL 'sum', in the pinned program and in every row, IS THE sha256 OF THE DUMP (.gsa) THAT YtpiaefodhjafmaaProg.lean LOADS. Nothing in Lean hashes anything: it is a label: what it is worth is what the hold of that sum in a sandbox is worth. -/
noncomputable def Try.pinned : Pinned := { name := "ytpiaefodhjafmaa", sum := "71526d956d49268a6106fc1ed8f592c1f7626c57c50a0c57bcc22a331cc24310", checked := Try.checked }
namespace Rows
def none {H : Type} : Left H := { results := [], args := [] }

/-- 'laws.FnExactContentOf': WHATEVER THE INPUT: true; the input reads as it did. -/
def fnExactContentOfSpec : ChangeSpec := { name := "fnExactContentOf", fn := fun _ => fun
  | [d] => { results := [.lit (.bool true)], args := [d] }
  | _ => none }
def fnExactContentOfRow : OpenClaim := { program := "ytpiaefodhjafmaa", sum := "71526d956d49268a6106fc1ed8f592c1f7626c57c50a0c57bcc22a331cc24310", func := "loop.example/presburger/laws.FnExactContentOf", spec := "fnExactContentOf", unfollowed := true, recurses := true, apart := false }
def FnExactContentOfSaid : Prop := fnExactContentOfRow.holds Try.pinned (OpenSpec.ofChange fnExactContentOfSpec)

/-- ITS FALSE NEIGHBOUR: 'it returns false'. Refute it at one input. -/
def fnExactContentOfWrong : ChangeSpec := { name := "fnExactContentOf", fn := fun _ => fun
  | [d] => { results := [.lit (.bool false)], args := [d] }
  | _ => none }
def FnExactContentOfWrongFalsely : Prop := fnExactContentOfRow.holds Try.pinned (OpenSpec.ofChange fnExactContentOfWrong)

/-- 'laws.FnExactGcdOf': WHATEVER THE INPUT: true; the input reads as it did. -/
def fnExactGcdOfSpec : ChangeSpec := { name := "fnExactGcdOf", fn := fun _ => fun
  | [d1, d2] => { results := [.lit (.bool true)], args := [d1, d2] }
  | _ => none }
def fnExactGcdOfRow : OpenClaim := { program := "ytpiaefodhjafmaa", sum := "71526d956d49268a6106fc1ed8f592c1f7626c57c50a0c57bcc22a331cc24310", func := "loop.example/presburger/laws.FnExactGcdOf", spec := "fnExactGcdOf", unfollowed := true, recurses := true, apart := false }
def FnExactGcdOfSaid : Prop := fnExactGcdOfRow.holds Try.pinned (OpenSpec.ofChange fnExactGcdOfSpec)

/-- ITS FALSE NEIGHBOUR: 'it returns false'. Refute it at one input. -/
def fnExactGcdOfWrong : ChangeSpec := { name := "fnExactGcdOf", fn := fun _ => fun
  | [d1, d2] => { results := [.lit (.bool false)], args := [d1, d2] }
  | _ => none }
def FnExactGcdOfWrongFalsely : Prop := fnExactGcdOfRow.holds Try.pinned (OpenSpec.ofChange fnExactGcdOfWrong)

/-- 'laws.FnExactLcmOf': WHATEVER THE INPUT: true; the input reads as it did. -/
def fnExactLcmOfSpec : ChangeSpec := { name := "fnExactLcmOf", fn := fun _ => fun
  | [d] => { results := [.lit (.bool true)], args := [d] }
  | _ => none }
def fnExactLcmOfRow : OpenClaim := { program := "ytpiaefodhjafmaa", sum := "71526d956d49268a6106fc1ed8f592c1f7626c57c50a0c57bcc22a331cc24310", func := "loop.example/presburger/laws.FnExactLcmOf", spec := "fnExactLcmOf", unfollowed := true, recurses := true, apart := false }
def FnExactLcmOfSaid : Prop := fnExactLcmOfRow.holds Try.pinned (OpenSpec.ofChange fnExactLcmOfSpec)

/-- ITS FALSE NEIGHBOUR: 'it returns false'. Refute it at one input. -/
def fnExactLcmOfWrong : ChangeSpec := { name := "fnExactLcmOf", fn := fun _ => fun
  | [d] => { results := [.lit (.bool false)], args := [d] }
  | _ => none }
def FnExactLcmOfWrongFalsely : Prop := fnExactLcmOfRow.holds Try.pinned (OpenSpec.ofChange fnExactLcmOfWrong)

/-- 'laws.FnExactBezoutOf': WHATEVER THE INPUT: true; the input reads as it did. -/
def fnExactBezoutOfSpec : ChangeSpec := { name := "fnExactBezoutOf", fn := fun _ => fun
  | [d1, d2] => { results := [.lit (.bool true)], args := [d1, d2] }
  | _ => none }
def fnExactBezoutOfRow : OpenClaim := { program := "ytpiaefodhjafmaa", sum := "71526d956d49268a6106fc1ed8f592c1f7626c57c50a0c57bcc22a331cc24310", func := "loop.example/presburger/laws.FnExactBezoutOf", spec := "fnExactBezoutOf", unfollowed := true, recurses := true, apart := false }
def FnExactBezoutOfSaid : Prop := fnExactBezoutOfRow.holds Try.pinned (OpenSpec.ofChange fnExactBezoutOfSpec)

/-- ITS FALSE NEIGHBOUR: 'it returns false'. Refute it at one input. -/
def fnExactBezoutOfWrong : ChangeSpec := { name := "fnExactBezoutOf", fn := fun _ => fun
  | [d1, d2] => { results := [.lit (.bool false)], args := [d1, d2] }
  | _ => none }
def FnExactBezoutOfWrongFalsely : Prop := fnExactBezoutOfRow.holds Try.pinned (OpenSpec.ofChange fnExactBezoutOfWrong)

/-- 'laws.FnExactFloorDiv': WHATEVER THE INPUT: true; the input reads as it did. -/
def fnExactFloorDivSpec : ChangeSpec := { name := "fnExactFloorDiv", fn := fun _ => fun
  | [d1, d2] => { results := [.lit (.bool true)], args := [d1, d2] }
  | _ => none }
def fnExactFloorDivRow : OpenClaim := { program := "ytpiaefodhjafmaa", sum := "71526d956d49268a6106fc1ed8f592c1f7626c57c50a0c57bcc22a331cc24310", func := "loop.example/presburger/laws.FnExactFloorDiv", spec := "fnExactFloorDiv", unfollowed := true, recurses := true, apart := false }
def FnExactFloorDivSaid : Prop := fnExactFloorDivRow.holds Try.pinned (OpenSpec.ofChange fnExactFloorDivSpec)

/-- ITS FALSE NEIGHBOUR: 'it returns false'. Refute it at one input. -/
def fnExactFloorDivWrong : ChangeSpec := { name := "fnExactFloorDiv", fn := fun _ => fun
  | [d1, d2] => { results := [.lit (.bool false)], args := [d1, d2] }
  | _ => none }
def FnExactFloorDivWrongFalsely : Prop := fnExactFloorDivRow.holds Try.pinned (OpenSpec.ofChange fnExactFloorDivWrong)

/-- 'laws.FnExactCeilDiv': WHATEVER THE INPUT: true; the input reads as it did. -/
def fnExactCeilDivSpec : ChangeSpec := { name := "fnExactCeilDiv", fn := fun _ => fun
  | [d1, d2] => { results := [.lit (.bool true)], args := [d1, d2] }
  | _ => none }
def fnExactCeilDivRow : OpenClaim := { program := "ytpiaefodhjafmaa", sum := "71526d956d49268a6106fc1ed8f592c1f7626c57c50a0c57bcc22a331cc24310", func := "loop.example/presburger/laws.FnExactCeilDiv", spec := "fnExactCeilDiv", unfollowed := true, recurses := true, apart := false }
def FnExactCeilDivSaid : Prop := fnExactCeilDivRow.holds Try.pinned (OpenSpec.ofChange fnExactCeilDivSpec)

/-- ITS FALSE NEIGHBOUR: 'it returns false'. Refute it at one input. -/
def fnExactCeilDivWrong : ChangeSpec := { name := "fnExactCeilDiv", fn := fun _ => fun
  | [d1, d2] => { results := [.lit (.bool false)], args := [d1, d2] }
  | _ => none }
def FnExactCeilDivWrongFalsely : Prop := fnExactCeilDivRow.holds Try.pinned (OpenSpec.ofChange fnExactCeilDivWrong)

/-- 'laws.FnExactInverseMod': WHATEVER THE INPUT: true; the input reads as it did. -/
def fnExactInverseModSpec : ChangeSpec := { name := "fnExactInverseMod", fn := fun _ => fun
  | [d1, d2] => { results := [.lit (.bool true)], args := [d1, d2] }
  | _ => none }
def fnExactInverseModRow : OpenClaim := { program := "ytpiaefodhjafmaa", sum := "71526d956d49268a6106fc1ed8f592c1f7626c57c50a0c57bcc22a331cc24310", func := "loop.example/presburger/laws.FnExactInverseMod", spec := "fnExactInverseMod", unfollowed := true, recurses := true, apart := false }
def FnExactInverseModSaid : Prop := fnExactInverseModRow.holds Try.pinned (OpenSpec.ofChange fnExactInverseModSpec)

/-- ITS FALSE NEIGHBOUR: 'it returns false'. Refute it at one input. -/
def fnExactInverseModWrong : ChangeSpec := { name := "fnExactInverseMod", fn := fun _ => fun
  | [d1, d2] => { results := [.lit (.bool false)], args := [d1, d2] }
  | _ => none }
def FnExactInverseModWrongFalsely : Prop := fnExactInverseModRow.holds Try.pinned (OpenSpec.ofChange fnExactInverseModWrong)

/-- 'laws.FnExactSolveCongruence': WHATEVER THE INPUT: true; the input reads as it did. -/
def fnExactSolveCongruenceSpec : ChangeSpec := { name := "fnExactSolveCongruence", fn := fun _ => fun
  | [d1, d2, d3] => { results := [.lit (.bool true)], args := [d1, d2, d3] }
  | _ => none }
def fnExactSolveCongruenceRow : OpenClaim := { program := "ytpiaefodhjafmaa", sum := "71526d956d49268a6106fc1ed8f592c1f7626c57c50a0c57bcc22a331cc24310", func := "loop.example/presburger/laws.FnExactSolveCongruence", spec := "fnExactSolveCongruence", unfollowed := true, recurses := true, apart := false }
def FnExactSolveCongruenceSaid : Prop := fnExactSolveCongruenceRow.holds Try.pinned (OpenSpec.ofChange fnExactSolveCongruenceSpec)

/-- ITS FALSE NEIGHBOUR: 'it returns false'. Refute it at one input. -/
def fnExactSolveCongruenceWrong : ChangeSpec := { name := "fnExactSolveCongruence", fn := fun _ => fun
  | [d1, d2, d3] => { results := [.lit (.bool false)], args := [d1, d2, d3] }
  | _ => none }
def FnExactSolveCongruenceWrongFalsely : Prop := fnExactSolveCongruenceRow.holds Try.pinned (OpenSpec.ofChange fnExactSolveCongruenceWrong)

/-- 'laws.FnExactCombineCongruences': WHATEVER THE INPUT: true; the input reads as it did. -/
def fnExactCombineCongruencesSpec : ChangeSpec := { name := "fnExactCombineCongruences", fn := fun _ => fun
  | [d1, d2, d3, d4] => { results := [.lit (.bool true)], args := [d1, d2, d3, d4] }
  | _ => none }
def fnExactCombineCongruencesRow : OpenClaim := { program := "ytpiaefodhjafmaa", sum := "71526d956d49268a6106fc1ed8f592c1f7626c57c50a0c57bcc22a331cc24310", func := "loop.example/presburger/laws.FnExactCombineCongruences", spec := "fnExactCombineCongruences", unfollowed := true, recurses := true, apart := false }
def FnExactCombineCongruencesSaid : Prop := fnExactCombineCongruencesRow.holds Try.pinned (OpenSpec.ofChange fnExactCombineCongruencesSpec)

/-- ITS FALSE NEIGHBOUR: 'it returns false'. Refute it at one input. -/
def fnExactCombineCongruencesWrong : ChangeSpec := { name := "fnExactCombineCongruences", fn := fun _ => fun
  | [d1, d2, d3, d4] => { results := [.lit (.bool false)], args := [d1, d2, d3, d4] }
  | _ => none }
def FnExactCombineCongruencesWrongFalsely : Prop := fnExactCombineCongruencesRow.holds Try.pinned (OpenSpec.ofChange fnExactCombineCongruencesWrong)

/-- 'laws.FnExactLeastSolution': WHATEVER THE INPUT: true; the input reads as it did. -/
def fnExactLeastSolutionSpec : ChangeSpec := { name := "fnExactLeastSolution", fn := fun _ => fun
  | [d1, d2, d3] => { results := [.lit (.bool true)], args := [d1, d2, d3] }
  | _ => none }
def fnExactLeastSolutionRow : OpenClaim := { program := "ytpiaefodhjafmaa", sum := "71526d956d49268a6106fc1ed8f592c1f7626c57c50a0c57bcc22a331cc24310", func := "loop.example/presburger/laws.FnExactLeastSolution", spec := "fnExactLeastSolution", unfollowed := true, recurses := true, apart := false }
def FnExactLeastSolutionSaid : Prop := fnExactLeastSolutionRow.holds Try.pinned (OpenSpec.ofChange fnExactLeastSolutionSpec)

/-- ITS FALSE NEIGHBOUR: 'it returns false'. Refute it at one input. -/
def fnExactLeastSolutionWrong : ChangeSpec := { name := "fnExactLeastSolution", fn := fun _ => fun
  | [d1, d2, d3] => { results := [.lit (.bool false)], args := [d1, d2, d3] }
  | _ => none }
def FnExactLeastSolutionWrongFalsely : Prop := fnExactLeastSolutionRow.holds Try.pinned (OpenSpec.ofChange fnExactLeastSolutionWrong)

/-- 'laws.FnExactCountSolutions': WHATEVER THE INPUT: true; the input reads as it did. -/
def fnExactCountSolutionsSpec : ChangeSpec := { name := "fnExactCountSolutions", fn := fun _ => fun
  | [d1, d2, d3] => { results := [.lit (.bool true)], args := [d1, d2, d3] }
  | _ => none }
def fnExactCountSolutionsRow : OpenClaim := { program := "ytpiaefodhjafmaa", sum := "71526d956d49268a6106fc1ed8f592c1f7626c57c50a0c57bcc22a331cc24310", func := "loop.example/presburger/laws.FnExactCountSolutions", spec := "fnExactCountSolutions", apart := false }
def FnExactCountSolutionsSaid : Prop := fnExactCountSolutionsRow.holds Try.pinned (OpenSpec.ofChange fnExactCountSolutionsSpec)

/-- ITS FALSE NEIGHBOUR: 'it returns false'. Refute it at one input. -/
def fnExactCountSolutionsWrong : ChangeSpec := { name := "fnExactCountSolutions", fn := fun _ => fun
  | [d1, d2, d3] => { results := [.lit (.bool false)], args := [d1, d2, d3] }
  | _ => none }
def FnExactCountSolutionsWrongFalsely : Prop := fnExactCountSolutionsRow.holds Try.pinned (OpenSpec.ofChange fnExactCountSolutionsWrong)

/-- 'laws.FnExactGreatestGap': WHATEVER THE INPUT: true; the input reads as it did. -/
def fnExactGreatestGapSpec : ChangeSpec := { name := "fnExactGreatestGap", fn := fun _ => fun
  | [d1, d2] => { results := [.lit (.bool true)], args := [d1, d2] }
  | _ => none }
def fnExactGreatestGapRow : OpenClaim := { program := "ytpiaefodhjafmaa", sum := "71526d956d49268a6106fc1ed8f592c1f7626c57c50a0c57bcc22a331cc24310", func := "loop.example/presburger/laws.FnExactGreatestGap", spec := "fnExactGreatestGap", unfollowed := true, recurses := true, apart := false }
def FnExactGreatestGapSaid : Prop := fnExactGreatestGapRow.holds Try.pinned (OpenSpec.ofChange fnExactGreatestGapSpec)

/-- ITS FALSE NEIGHBOUR: 'it returns false'. Refute it at one input. -/
def fnExactGreatestGapWrong : ChangeSpec := { name := "fnExactGreatestGap", fn := fun _ => fun
  | [d1, d2] => { results := [.lit (.bool false)], args := [d1, d2] }
  | _ => none }
def FnExactGreatestGapWrongFalsely : Prop := fnExactGreatestGapRow.holds Try.pinned (OpenSpec.ofChange fnExactGreatestGapWrong)

/- THE SECOND FORM. 'bulk': how many values and letters a reading holds, each counted each time it is reached (what is shared counts as often as it is met; a slice's spare places count too). A statement '..UptoSaid' is the law's where the arguments, and the package variables that the reading takes, are together of bulk at most 1048576: NARROWER than '..Said'. Prove '..Said' where nothing that the law and all that it calls make is longer than what came in: it says more and counts as full. Else prove '..UptoSaid'. A law counts once. -/
mutual
def uptoBulk {H : Type} : DataW H → Nat
  | .lit (.string bytes) => bytes.length + 1
  | .lit _ => 1
  | .nil => 1
  | .ptr d => uptoBulk d + 1
  | .slice elems spare => uptoBulkAll elems + uptoBulkAll spare + 1
  | .agg parts => uptoBulkAll parts + 1
  | .iface _ d => uptoBulk d + 1
  | .map entries => uptoBulkEntries entries + 1
  | .held _ => 1
def uptoBulkAll {H : Type} : List (DataW H) → Nat
  | [] => 0
  | d :: r => uptoBulk d + uptoBulkAll r
def uptoBulkEntries {H : Type} : List (Lit × DataW H) → Nat
  | [] => 0
  | x :: r => uptoBulkEntry x + uptoBulkEntries r
def uptoBulkEntry {H : Type} : Lit × DataW H → Nat
  | (.string bytes, d) => bytes.length + uptoBulk d + 1
  | (_, d) => uptoBulk d + 1
 end
def uptoSmall : (H : Type) → List (DataW H) → Bool := fun _ ds => decide (uptoBulkAll ds ≤ 1048576)
def OpenSpec.upto (s : _root_.Go.ChangeSpec) : _root_.Go.OpenSpec := { _root_.Go.OpenSpec.ofChange s with cond := some uptoSmall }

/-- 'laws.FnExactContentOf', WHERE WHAT IT READS IS OF BULK AT MOST 1048576: true; the input reads as it did. -/
def fnExactContentOfUptoRow : OpenClaim := { program := "ytpiaefodhjafmaa", sum := "71526d956d49268a6106fc1ed8f592c1f7626c57c50a0c57bcc22a331cc24310", func := "loop.example/presburger/laws.FnExactContentOf", spec := "fnExactContentOf", unfollowed := true, recurses := true, apart := false, narrowed := true }
def FnExactContentOfUptoSaid : Prop := fnExactContentOfUptoRow.holds Try.pinned (OpenSpec.upto fnExactContentOfSpec)

/-- 'laws.FnExactGcdOf', WHERE WHAT IT READS IS OF BULK AT MOST 1048576: true; the input reads as it did. -/
def fnExactGcdOfUptoRow : OpenClaim := { program := "ytpiaefodhjafmaa", sum := "71526d956d49268a6106fc1ed8f592c1f7626c57c50a0c57bcc22a331cc24310", func := "loop.example/presburger/laws.FnExactGcdOf", spec := "fnExactGcdOf", unfollowed := true, recurses := true, apart := false, narrowed := true }
def FnExactGcdOfUptoSaid : Prop := fnExactGcdOfUptoRow.holds Try.pinned (OpenSpec.upto fnExactGcdOfSpec)

/-- 'laws.FnExactLcmOf', WHERE WHAT IT READS IS OF BULK AT MOST 1048576: true; the input reads as it did. -/
def fnExactLcmOfUptoRow : OpenClaim := { program := "ytpiaefodhjafmaa", sum := "71526d956d49268a6106fc1ed8f592c1f7626c57c50a0c57bcc22a331cc24310", func := "loop.example/presburger/laws.FnExactLcmOf", spec := "fnExactLcmOf", unfollowed := true, recurses := true, apart := false, narrowed := true }
def FnExactLcmOfUptoSaid : Prop := fnExactLcmOfUptoRow.holds Try.pinned (OpenSpec.upto fnExactLcmOfSpec)

/-- 'laws.FnExactBezoutOf', WHERE WHAT IT READS IS OF BULK AT MOST 1048576: true; the input reads as it did. -/
def fnExactBezoutOfUptoRow : OpenClaim := { program := "ytpiaefodhjafmaa", sum := "71526d956d49268a6106fc1ed8f592c1f7626c57c50a0c57bcc22a331cc24310", func := "loop.example/presburger/laws.FnExactBezoutOf", spec := "fnExactBezoutOf", unfollowed := true, recurses := true, apart := false, narrowed := true }
def FnExactBezoutOfUptoSaid : Prop := fnExactBezoutOfUptoRow.holds Try.pinned (OpenSpec.upto fnExactBezoutOfSpec)

/-- 'laws.FnExactFloorDiv', WHERE WHAT IT READS IS OF BULK AT MOST 1048576: true; the input reads as it did. -/
def fnExactFloorDivUptoRow : OpenClaim := { program := "ytpiaefodhjafmaa", sum := "71526d956d49268a6106fc1ed8f592c1f7626c57c50a0c57bcc22a331cc24310", func := "loop.example/presburger/laws.FnExactFloorDiv", spec := "fnExactFloorDiv", unfollowed := true, recurses := true, apart := false, narrowed := true }
def FnExactFloorDivUptoSaid : Prop := fnExactFloorDivUptoRow.holds Try.pinned (OpenSpec.upto fnExactFloorDivSpec)

/-- 'laws.FnExactCeilDiv', WHERE WHAT IT READS IS OF BULK AT MOST 1048576: true; the input reads as it did. -/
def fnExactCeilDivUptoRow : OpenClaim := { program := "ytpiaefodhjafmaa", sum := "71526d956d49268a6106fc1ed8f592c1f7626c57c50a0c57bcc22a331cc24310", func := "loop.example/presburger/laws.FnExactCeilDiv", spec := "fnExactCeilDiv", unfollowed := true, recurses := true, apart := false, narrowed := true }
def FnExactCeilDivUptoSaid : Prop := fnExactCeilDivUptoRow.holds Try.pinned (OpenSpec.upto fnExactCeilDivSpec)

/-- 'laws.FnExactInverseMod', WHERE WHAT IT READS IS OF BULK AT MOST 1048576: true; the input reads as it did. -/
def fnExactInverseModUptoRow : OpenClaim := { program := "ytpiaefodhjafmaa", sum := "71526d956d49268a6106fc1ed8f592c1f7626c57c50a0c57bcc22a331cc24310", func := "loop.example/presburger/laws.FnExactInverseMod", spec := "fnExactInverseMod", unfollowed := true, recurses := true, apart := false, narrowed := true }
def FnExactInverseModUptoSaid : Prop := fnExactInverseModUptoRow.holds Try.pinned (OpenSpec.upto fnExactInverseModSpec)

/-- 'laws.FnExactSolveCongruence', WHERE WHAT IT READS IS OF BULK AT MOST 1048576: true; the input reads as it did. -/
def fnExactSolveCongruenceUptoRow : OpenClaim := { program := "ytpiaefodhjafmaa", sum := "71526d956d49268a6106fc1ed8f592c1f7626c57c50a0c57bcc22a331cc24310", func := "loop.example/presburger/laws.FnExactSolveCongruence", spec := "fnExactSolveCongruence", unfollowed := true, recurses := true, apart := false, narrowed := true }
def FnExactSolveCongruenceUptoSaid : Prop := fnExactSolveCongruenceUptoRow.holds Try.pinned (OpenSpec.upto fnExactSolveCongruenceSpec)

/-- 'laws.FnExactCombineCongruences', WHERE WHAT IT READS IS OF BULK AT MOST 1048576: true; the input reads as it did. -/
def fnExactCombineCongruencesUptoRow : OpenClaim := { program := "ytpiaefodhjafmaa", sum := "71526d956d49268a6106fc1ed8f592c1f7626c57c50a0c57bcc22a331cc24310", func := "loop.example/presburger/laws.FnExactCombineCongruences", spec := "fnExactCombineCongruences", unfollowed := true, recurses := true, apart := false, narrowed := true }
def FnExactCombineCongruencesUptoSaid : Prop := fnExactCombineCongruencesUptoRow.holds Try.pinned (OpenSpec.upto fnExactCombineCongruencesSpec)

/-- 'laws.FnExactLeastSolution', WHERE WHAT IT READS IS OF BULK AT MOST 1048576: true; the input reads as it did. -/
def fnExactLeastSolutionUptoRow : OpenClaim := { program := "ytpiaefodhjafmaa", sum := "71526d956d49268a6106fc1ed8f592c1f7626c57c50a0c57bcc22a331cc24310", func := "loop.example/presburger/laws.FnExactLeastSolution", spec := "fnExactLeastSolution", unfollowed := true, recurses := true, apart := false, narrowed := true }
def FnExactLeastSolutionUptoSaid : Prop := fnExactLeastSolutionUptoRow.holds Try.pinned (OpenSpec.upto fnExactLeastSolutionSpec)

/-- 'laws.FnExactCountSolutions', WHERE WHAT IT READS IS OF BULK AT MOST 1048576: true; the input reads as it did. -/
def fnExactCountSolutionsUptoRow : OpenClaim := { program := "ytpiaefodhjafmaa", sum := "71526d956d49268a6106fc1ed8f592c1f7626c57c50a0c57bcc22a331cc24310", func := "loop.example/presburger/laws.FnExactCountSolutions", spec := "fnExactCountSolutions", apart := false, narrowed := true }
def FnExactCountSolutionsUptoSaid : Prop := fnExactCountSolutionsUptoRow.holds Try.pinned (OpenSpec.upto fnExactCountSolutionsSpec)

/-- 'laws.FnExactGreatestGap', WHERE WHAT IT READS IS OF BULK AT MOST 1048576: true; the input reads as it did. -/
def fnExactGreatestGapUptoRow : OpenClaim := { program := "ytpiaefodhjafmaa", sum := "71526d956d49268a6106fc1ed8f592c1f7626c57c50a0c57bcc22a331cc24310", func := "loop.example/presburger/laws.FnExactGreatestGap", spec := "fnExactGreatestGap", unfollowed := true, recurses := true, apart := false, narrowed := true }
def FnExactGreatestGapUptoSaid : Prop := fnExactGreatestGapUptoRow.holds Try.pinned (OpenSpec.upto fnExactGreatestGapSpec)

end Rows
end Go.Proofs.Ytpiaefodhjafmaa
