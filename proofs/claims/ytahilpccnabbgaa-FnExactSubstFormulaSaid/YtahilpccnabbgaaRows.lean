/-
  NARROWER THAN 'FOR EVERY INPUT', by the rows' own cells (each row's printed sentence says how): FnExactJoinAll: loops · FnExactJoinAny: loops · FnExactNegNormal: loops · FnExactSplitFormula: loops · FnExactSubstFormula: loops.
  DERIVED. THE GIVEN ROWS OF THIS SEAT. 6 by the template 'for every input the law returns true; each argument reads behind the call as it read before'; 0 by the template 'total and deterministic' (their statements: YtahilpccnabbgaaTotals.lean).
  GIVEN WITH THE SEED: the statements are not yours to turn. If you find one false, say at which input.
  Laid BY PROGRAM, IN A SANDBOX (cutbox-rows.mjs): the forced cells as the released guide's own fill.sh prints them over the translation dddbde075a4e0763… (all of the seat's roots in one cut). By AI agents, Wed Nov 11 2026. No macro, syntax, notation, axiom, sorry.
-/
import Derived.Test.YtahilpccnabbgaaChecked
import GoSem.Claim
import GoSem.ClaimJoined
import GoSem.ClaimMapViews
import Derived.JoinedTies
import Derived.KernelRfl
namespace Go.Proofs.Ytahilpccnabbgaa
/- THE CELL 'sum', in the pinned program and in every row, IS THE sha256 OF THE DUMP (.gsa) THAT YtahilpccnabbgaaProg.lean LOADS. Nothing in Lean hashes anything: it is a label: what it is worth is what the hold of that sum in a sandbox is worth. -/
noncomputable def Try.pinned : Pinned := { name := "ytahilpccnabbgaa", sum := "dddbde075a4e0763570934aa3b55ad282e0652739f01eda66812ff48ce3e2da6", checked := Try.checked }
namespace Rows
def none {H : Type} : Left H := { results := [], args := [] }

/-- 'laws.FnExactJoinAll': WHATEVER THE INPUT: true; the input reads as it did. -/
def fnExactJoinAllSpec : ChangeSpec := { name := "fnExactJoinAll", fn := fun _ => fun
  | [d] => { results := [.lit (.bool true)], args := [d] }
  | _ => none }
def fnExactJoinAllRow : OpenClaim := { program := "ytahilpccnabbgaa", sum := "dddbde075a4e0763570934aa3b55ad282e0652739f01eda66812ff48ce3e2da6", func := "loop.example/presburger/laws.FnExactJoinAll", spec := "fnExactJoinAll", unfollowed := true, recurses := true, loops := true, apart := false }
def FnExactJoinAllSaid : Prop := fnExactJoinAllRow.holds Try.pinned (OpenSpec.ofChange fnExactJoinAllSpec)

/-- ITS FALSE NEIGHBOUR: 'it returns false'. Refute it at one input. -/
def fnExactJoinAllWrong : ChangeSpec := { name := "fnExactJoinAll", fn := fun _ => fun
  | [d] => { results := [.lit (.bool false)], args := [d] }
  | _ => none }
def FnExactJoinAllWrongFalsely : Prop := fnExactJoinAllRow.holds Try.pinned (OpenSpec.ofChange fnExactJoinAllWrong)

/-- 'laws.FnExactJoinAny': WHATEVER THE INPUT: true; the input reads as it did. -/
def fnExactJoinAnySpec : ChangeSpec := { name := "fnExactJoinAny", fn := fun _ => fun
  | [d] => { results := [.lit (.bool true)], args := [d] }
  | _ => none }
def fnExactJoinAnyRow : OpenClaim := { program := "ytahilpccnabbgaa", sum := "dddbde075a4e0763570934aa3b55ad282e0652739f01eda66812ff48ce3e2da6", func := "loop.example/presburger/laws.FnExactJoinAny", spec := "fnExactJoinAny", unfollowed := true, recurses := true, loops := true, apart := false }
def FnExactJoinAnySaid : Prop := fnExactJoinAnyRow.holds Try.pinned (OpenSpec.ofChange fnExactJoinAnySpec)

/-- ITS FALSE NEIGHBOUR: 'it returns false'. Refute it at one input. -/
def fnExactJoinAnyWrong : ChangeSpec := { name := "fnExactJoinAny", fn := fun _ => fun
  | [d] => { results := [.lit (.bool false)], args := [d] }
  | _ => none }
def FnExactJoinAnyWrongFalsely : Prop := fnExactJoinAnyRow.holds Try.pinned (OpenSpec.ofChange fnExactJoinAnyWrong)

/-- 'laws.FnExactNegNormal': WHATEVER THE INPUT: true; the input reads as it did. -/
def fnExactNegNormalSpec : ChangeSpec := { name := "fnExactNegNormal", fn := fun _ => fun
  | [d] => { results := [.lit (.bool true)], args := [d] }
  | _ => none }
def fnExactNegNormalRow : OpenClaim := { program := "ytahilpccnabbgaa", sum := "dddbde075a4e0763570934aa3b55ad282e0652739f01eda66812ff48ce3e2da6", func := "loop.example/presburger/laws.FnExactNegNormal", spec := "fnExactNegNormal", unfollowed := true, recurses := true, loops := true, apart := false }
def FnExactNegNormalSaid : Prop := fnExactNegNormalRow.holds Try.pinned (OpenSpec.ofChange fnExactNegNormalSpec)

/-- ITS FALSE NEIGHBOUR: 'it returns false'. Refute it at one input. -/
def fnExactNegNormalWrong : ChangeSpec := { name := "fnExactNegNormal", fn := fun _ => fun
  | [d] => { results := [.lit (.bool false)], args := [d] }
  | _ => none }
def FnExactNegNormalWrongFalsely : Prop := fnExactNegNormalRow.holds Try.pinned (OpenSpec.ofChange fnExactNegNormalWrong)

/-- 'laws.FnExactSplitFormula': WHATEVER THE INPUT: true; the input reads as it did. -/
def fnExactSplitFormulaSpec : ChangeSpec := { name := "fnExactSplitFormula", fn := fun _ => fun
  | [d] => { results := [.lit (.bool true)], args := [d] }
  | _ => none }
def fnExactSplitFormulaRow : OpenClaim := { program := "ytahilpccnabbgaa", sum := "dddbde075a4e0763570934aa3b55ad282e0652739f01eda66812ff48ce3e2da6", func := "loop.example/presburger/laws.FnExactSplitFormula", spec := "fnExactSplitFormula", unfollowed := true, recurses := true, loops := true, apart := false }
def FnExactSplitFormulaSaid : Prop := fnExactSplitFormulaRow.holds Try.pinned (OpenSpec.ofChange fnExactSplitFormulaSpec)

/-- ITS FALSE NEIGHBOUR: 'it returns false'. Refute it at one input. -/
def fnExactSplitFormulaWrong : ChangeSpec := { name := "fnExactSplitFormula", fn := fun _ => fun
  | [d] => { results := [.lit (.bool false)], args := [d] }
  | _ => none }
def FnExactSplitFormulaWrongFalsely : Prop := fnExactSplitFormulaRow.holds Try.pinned (OpenSpec.ofChange fnExactSplitFormulaWrong)

/-- 'laws.FnExactSubstFormula': WHATEVER THE INPUT: true; the input reads as it did. -/
def fnExactSubstFormulaSpec : ChangeSpec := { name := "fnExactSubstFormula", fn := fun _ => fun
  | [d1, d2, d3] => { results := [.lit (.bool true)], args := [d1, d2, d3] }
  | _ => none }
def fnExactSubstFormulaRow : OpenClaim := { program := "ytahilpccnabbgaa", sum := "dddbde075a4e0763570934aa3b55ad282e0652739f01eda66812ff48ce3e2da6", func := "loop.example/presburger/laws.FnExactSubstFormula", spec := "fnExactSubstFormula", unfollowed := true, recurses := true, loops := true, apart := false }
def FnExactSubstFormulaSaid : Prop := fnExactSubstFormulaRow.holds Try.pinned (OpenSpec.ofChange fnExactSubstFormulaSpec)

/-- ITS FALSE NEIGHBOUR: 'it returns false'. Refute it at one input. -/
def fnExactSubstFormulaWrong : ChangeSpec := { name := "fnExactSubstFormula", fn := fun _ => fun
  | [d1, d2, d3] => { results := [.lit (.bool false)], args := [d1, d2, d3] }
  | _ => none }
def FnExactSubstFormulaWrongFalsely : Prop := fnExactSubstFormulaRow.holds Try.pinned (OpenSpec.ofChange fnExactSubstFormulaWrong)

/-- 'laws.FnExactFormulaOfClauses': WHATEVER THE INPUT: true; the input reads as it did. -/
def fnExactFormulaOfClausesSpec : ChangeSpec := { name := "fnExactFormulaOfClauses", fn := fun _ => fun
  | [d] => { results := [.lit (.bool true)], args := [d] }
  | _ => none }
def fnExactFormulaOfClausesRow : OpenClaim := { program := "ytahilpccnabbgaa", sum := "dddbde075a4e0763570934aa3b55ad282e0652739f01eda66812ff48ce3e2da6", func := "loop.example/presburger/laws.FnExactFormulaOfClauses", spec := "fnExactFormulaOfClauses", unfollowed := true, recurses := true, apart := false }
def FnExactFormulaOfClausesSaid : Prop := fnExactFormulaOfClausesRow.holds Try.pinned (OpenSpec.ofChange fnExactFormulaOfClausesSpec)

/-- ITS FALSE NEIGHBOUR: 'it returns false'. Refute it at one input. -/
def fnExactFormulaOfClausesWrong : ChangeSpec := { name := "fnExactFormulaOfClauses", fn := fun _ => fun
  | [d] => { results := [.lit (.bool false)], args := [d] }
  | _ => none }
def FnExactFormulaOfClausesWrongFalsely : Prop := fnExactFormulaOfClausesRow.holds Try.pinned (OpenSpec.ofChange fnExactFormulaOfClausesWrong)

/- THE SECOND FORM. 'bulk': how many values and letters a reading holds, each counted each time it is reached (what is shared counts as often as it is met; a slice's spare places count too). A statement '..UptoSaid' is the law's where the arguments, and the package variables that the reading takes, are together of bulk at most 1048576: NARROWER than '..Said'. Prove '..Said' where nothing that the law and all that it calls make is longer than what came in: it says more and counts as full. Else prove '..UptoSaid'. A law counts once. -/
mutual
def uptoBulk {H : Type} : DataW H → Nat
  | .lit (.string bytes) => bytes.length + 1
  | .lit _ => 1
  | .nil => 1
  | .ptr d => uptoBulk d + 1
  | .slice elems spare => uptoBulkAll elems + uptoBulkAll spare + 1
  | .agg parts => uptoBulkAll parts + 1
  | .iface _ d => uptoBulk d + 1
  | .map entries => uptoBulkEntries entries + 1
  | .held _ => 1
def uptoBulkAll {H : Type} : List (DataW H) → Nat
  | [] => 0
  | d :: r => uptoBulk d + uptoBulkAll r
def uptoBulkEntries {H : Type} : List (Lit × DataW H) → Nat
  | [] => 0
  | x :: r => uptoBulkEntry x + uptoBulkEntries r
def uptoBulkEntry {H : Type} : Lit × DataW H → Nat
  | (.string bytes, d) => bytes.length + uptoBulk d + 1
  | (_, d) => uptoBulk d + 1
 end
def uptoSmall : (H : Type) → List (DataW H) → Bool := fun _ ds => decide (uptoBulkAll ds ≤ 1048576)
def OpenSpec.upto (s : _root_.Go.ChangeSpec) : _root_.Go.OpenSpec := { _root_.Go.OpenSpec.ofChange s with cond := some uptoSmall }

/-- 'laws.FnExactJoinAll', WHERE WHAT IT READS IS OF BULK AT MOST 1048576: true; the input reads as it did. -/
def fnExactJoinAllUptoRow : OpenClaim := { program := "ytahilpccnabbgaa", sum := "dddbde075a4e0763570934aa3b55ad282e0652739f01eda66812ff48ce3e2da6", func := "loop.example/presburger/laws.FnExactJoinAll", spec := "fnExactJoinAll", unfollowed := true, recurses := true, loops := true, apart := false, narrowed := true }
def FnExactJoinAllUptoSaid : Prop := fnExactJoinAllUptoRow.holds Try.pinned (OpenSpec.upto fnExactJoinAllSpec)

/-- 'laws.FnExactJoinAny', WHERE WHAT IT READS IS OF BULK AT MOST 1048576: true; the input reads as it did. -/
def fnExactJoinAnyUptoRow : OpenClaim := { program := "ytahilpccnabbgaa", sum := "dddbde075a4e0763570934aa3b55ad282e0652739f01eda66812ff48ce3e2da6", func := "loop.example/presburger/laws.FnExactJoinAny", spec := "fnExactJoinAny", unfollowed := true, recurses := true, loops := true, apart := false, narrowed := true }
def FnExactJoinAnyUptoSaid : Prop := fnExactJoinAnyUptoRow.holds Try.pinned (OpenSpec.upto fnExactJoinAnySpec)

/-- 'laws.FnExactNegNormal', WHERE WHAT IT READS IS OF BULK AT MOST 1048576: true; the input reads as it did. -/
def fnExactNegNormalUptoRow : OpenClaim := { program := "ytahilpccnabbgaa", sum := "dddbde075a4e0763570934aa3b55ad282e0652739f01eda66812ff48ce3e2da6", func := "loop.example/presburger/laws.FnExactNegNormal", spec := "fnExactNegNormal", unfollowed := true, recurses := true, loops := true, apart := false, narrowed := true }
def FnExactNegNormalUptoSaid : Prop := fnExactNegNormalUptoRow.holds Try.pinned (OpenSpec.upto fnExactNegNormalSpec)

/-- 'laws.FnExactSplitFormula', WHERE WHAT IT READS IS OF BULK AT MOST 1048576: true; the input reads as it did. -/
def fnExactSplitFormulaUptoRow : OpenClaim := { program := "ytahilpccnabbgaa", sum := "dddbde075a4e0763570934aa3b55ad282e0652739f01eda66812ff48ce3e2da6", func := "loop.example/presburger/laws.FnExactSplitFormula", spec := "fnExactSplitFormula", unfollowed := true, recurses := true, loops := true, apart := false, narrowed := true }
def FnExactSplitFormulaUptoSaid : Prop := fnExactSplitFormulaUptoRow.holds Try.pinned (OpenSpec.upto fnExactSplitFormulaSpec)

/-- 'laws.FnExactSubstFormula', WHERE WHAT IT READS IS OF BULK AT MOST 1048576: true; the input reads as it did. -/
def fnExactSubstFormulaUptoRow : OpenClaim := { program := "ytahilpccnabbgaa", sum := "dddbde075a4e0763570934aa3b55ad282e0652739f01eda66812ff48ce3e2da6", func := "loop.example/presburger/laws.FnExactSubstFormula", spec := "fnExactSubstFormula", unfollowed := true, recurses := true, loops := true, apart := false, narrowed := true }
def FnExactSubstFormulaUptoSaid : Prop := fnExactSubstFormulaUptoRow.holds Try.pinned (OpenSpec.upto fnExactSubstFormulaSpec)

/-- 'laws.FnExactFormulaOfClauses', WHERE WHAT IT READS IS OF BULK AT MOST 1048576: true; the input reads as it did. -/
def fnExactFormulaOfClausesUptoRow : OpenClaim := { program := "ytahilpccnabbgaa", sum := "dddbde075a4e0763570934aa3b55ad282e0652739f01eda66812ff48ce3e2da6", func := "loop.example/presburger/laws.FnExactFormulaOfClauses", spec := "fnExactFormulaOfClauses", unfollowed := true, recurses := true, apart := false, narrowed := true }
def FnExactFormulaOfClausesUptoSaid : Prop := fnExactFormulaOfClausesUptoRow.holds Try.pinned (OpenSpec.upto fnExactFormulaOfClausesSpec)

end Rows
end Go.Proofs.Ytahilpccnabbgaa
