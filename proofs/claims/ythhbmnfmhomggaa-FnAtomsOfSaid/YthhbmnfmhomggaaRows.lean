/-
  NARROWER THAN 'FOR EVERY INPUT', by the rows' own cells (each row's printed sentence says how): FnExactJoinAll: loops · FnExactJoinAny: loops · FnExactIsNegNormal: loops.
  DERIVED. THE GIVEN ROWS OF THIS SEAT. 8 by the template 'for every input the law returns true; each argument reads behind the call as it read before'; 0 by the template 'total and deterministic' (their statements: YthhbmnfmhomggaaTotals.lean).
  GIVEN WITH THE SEED: the statements are not yours to turn. If you find one false, say at which input.
  Laid BY PROGRAM, IN A SANDBOX (cutbox-rows.mjs): the forced cells as the released guide's own fill.sh prints them over the translation 8c8cf950acc6be59… (all of the seat's roots in one cut). By AI agents, Wed Nov 11 2026. No macro, syntax, notation, axiom, sorry.
-/
import Derived.Test.YthhbmnfmhomggaaChecked
import GoSem.Claim
import GoSem.ClaimJoined
import GoSem.ClaimMapViews
import Derived.JoinedTies
import Derived.KernelRfl
namespace Go.Proofs.Ythhbmnfmhomggaa
/- THE CELL 'sum', in the pinned program and in every row, IS THE sha256 OF THE DUMP (.gsa) THAT YthhbmnfmhomggaaProg.lean LOADS. Nothing in Lean hashes anything: it is a label: what it is worth is what the hold of that sum in a sandbox is worth. -/
noncomputable def Try.pinned : Pinned := { name := "ythhbmnfmhomggaa", sum := "8c8cf950acc6be59d5727ad54e3721fe5d5e5ee6304c6c84e74f40ef3d51cf7a", checked := Try.checked }
namespace Rows
def none {H : Type} : Left H := { results := [], args := [] }

/-- 'laws.FnNodes': WHATEVER THE INPUT: true; the input reads as it did. -/
def fnNodesSpec : ChangeSpec := { name := "fnNodes", fn := fun _ => fun
  | [d] => { results := [.lit (.bool true)], args := [d] }
  | _ => none }
def fnNodesRow : OpenClaim := { program := "ythhbmnfmhomggaa", sum := "8c8cf950acc6be59d5727ad54e3721fe5d5e5ee6304c6c84e74f40ef3d51cf7a", func := "loop.example/presburger/laws.FnNodes", spec := "fnNodes", unfollowed := true, recurses := true, apart := false }
def FnNodesSaid : Prop := fnNodesRow.holds Try.pinned (OpenSpec.ofChange fnNodesSpec)

/-- ITS FALSE NEIGHBOUR: 'it returns false'. Refute it at one input. -/
def fnNodesWrong : ChangeSpec := { name := "fnNodes", fn := fun _ => fun
  | [d] => { results := [.lit (.bool false)], args := [d] }
  | _ => none }
def FnNodesWrongFalsely : Prop := fnNodesRow.holds Try.pinned (OpenSpec.ofChange fnNodesWrong)

/-- 'laws.FnNested': WHATEVER THE INPUT: true; the input reads as it did. -/
def fnNestedSpec : ChangeSpec := { name := "fnNested", fn := fun _ => fun
  | [d] => { results := [.lit (.bool true)], args := [d] }
  | _ => none }
def fnNestedRow : OpenClaim := { program := "ythhbmnfmhomggaa", sum := "8c8cf950acc6be59d5727ad54e3721fe5d5e5ee6304c6c84e74f40ef3d51cf7a", func := "loop.example/presburger/laws.FnNested", spec := "fnNested", unfollowed := true, recurses := true, apart := false }
def FnNestedSaid : Prop := fnNestedRow.holds Try.pinned (OpenSpec.ofChange fnNestedSpec)

/-- ITS FALSE NEIGHBOUR: 'it returns false'. Refute it at one input. -/
def fnNestedWrong : ChangeSpec := { name := "fnNested", fn := fun _ => fun
  | [d] => { results := [.lit (.bool false)], args := [d] }
  | _ => none }
def FnNestedWrongFalsely : Prop := fnNestedRow.holds Try.pinned (OpenSpec.ofChange fnNestedWrong)

/-- 'laws.FnAtomsOf': WHATEVER THE INPUT: true; the input reads as it did. -/
def fnAtomsOfSpec : ChangeSpec := { name := "fnAtomsOf", fn := fun _ => fun
  | [d] => { results := [.lit (.bool true)], args := [d] }
  | _ => none }
def fnAtomsOfRow : OpenClaim := { program := "ythhbmnfmhomggaa", sum := "8c8cf950acc6be59d5727ad54e3721fe5d5e5ee6304c6c84e74f40ef3d51cf7a", func := "loop.example/presburger/laws.FnAtomsOf", spec := "fnAtomsOf", unfollowed := true, recurses := true, apart := false }
def FnAtomsOfSaid : Prop := fnAtomsOfRow.holds Try.pinned (OpenSpec.ofChange fnAtomsOfSpec)

/-- ITS FALSE NEIGHBOUR: 'it returns false'. Refute it at one input. -/
def fnAtomsOfWrong : ChangeSpec := { name := "fnAtomsOf", fn := fun _ => fun
  | [d] => { results := [.lit (.bool false)], args := [d] }
  | _ => none }
def FnAtomsOfWrongFalsely : Prop := fnAtomsOfRow.holds Try.pinned (OpenSpec.ofChange fnAtomsOfWrong)

/-- 'laws.FnExactJoinAll': WHATEVER THE INPUT: true; the input reads as it did. -/
def fnExactJoinAllSpec : ChangeSpec := { name := "fnExactJoinAll", fn := fun _ => fun
  | [d] => { results := [.lit (.bool true)], args := [d] }
  | _ => none }
def fnExactJoinAllRow : OpenClaim := { program := "ythhbmnfmhomggaa", sum := "8c8cf950acc6be59d5727ad54e3721fe5d5e5ee6304c6c84e74f40ef3d51cf7a", func := "loop.example/presburger/laws.FnExactJoinAll", spec := "fnExactJoinAll", unfollowed := true, recurses := true, loops := true, apart := false }
def FnExactJoinAllSaid : Prop := fnExactJoinAllRow.holds Try.pinned (OpenSpec.ofChange fnExactJoinAllSpec)

/-- ITS FALSE NEIGHBOUR: 'it returns false'. Refute it at one input. -/
def fnExactJoinAllWrong : ChangeSpec := { name := "fnExactJoinAll", fn := fun _ => fun
  | [d] => { results := [.lit (.bool false)], args := [d] }
  | _ => none }
def FnExactJoinAllWrongFalsely : Prop := fnExactJoinAllRow.holds Try.pinned (OpenSpec.ofChange fnExactJoinAllWrong)

/-- 'laws.FnExactJoinAny': WHATEVER THE INPUT: true; the input reads as it did. -/
def fnExactJoinAnySpec : ChangeSpec := { name := "fnExactJoinAny", fn := fun _ => fun
  | [d] => { results := [.lit (.bool true)], args := [d] }
  | _ => none }
def fnExactJoinAnyRow : OpenClaim := { program := "ythhbmnfmhomggaa", sum := "8c8cf950acc6be59d5727ad54e3721fe5d5e5ee6304c6c84e74f40ef3d51cf7a", func := "loop.example/presburger/laws.FnExactJoinAny", spec := "fnExactJoinAny", unfollowed := true, recurses := true, loops := true, apart := false }
def FnExactJoinAnySaid : Prop := fnExactJoinAnyRow.holds Try.pinned (OpenSpec.ofChange fnExactJoinAnySpec)

/-- ITS FALSE NEIGHBOUR: 'it returns false'. Refute it at one input. -/
def fnExactJoinAnyWrong : ChangeSpec := { name := "fnExactJoinAny", fn := fun _ => fun
  | [d] => { results := [.lit (.bool false)], args := [d] }
  | _ => none }
def FnExactJoinAnyWrongFalsely : Prop := fnExactJoinAnyRow.holds Try.pinned (OpenSpec.ofChange fnExactJoinAnyWrong)

/-- 'laws.FnExactIsNegNormal': WHATEVER THE INPUT: true; the input reads as it did. -/
def fnExactIsNegNormalSpec : ChangeSpec := { name := "fnExactIsNegNormal", fn := fun _ => fun
  | [d] => { results := [.lit (.bool true)], args := [d] }
  | _ => none }
def fnExactIsNegNormalRow : OpenClaim := { program := "ythhbmnfmhomggaa", sum := "8c8cf950acc6be59d5727ad54e3721fe5d5e5ee6304c6c84e74f40ef3d51cf7a", func := "loop.example/presburger/laws.FnExactIsNegNormal", spec := "fnExactIsNegNormal", unfollowed := true, recurses := true, loops := true, apart := false }
def FnExactIsNegNormalSaid : Prop := fnExactIsNegNormalRow.holds Try.pinned (OpenSpec.ofChange fnExactIsNegNormalSpec)

/-- ITS FALSE NEIGHBOUR: 'it returns false'. Refute it at one input. -/
def fnExactIsNegNormalWrong : ChangeSpec := { name := "fnExactIsNegNormal", fn := fun _ => fun
  | [d] => { results := [.lit (.bool false)], args := [d] }
  | _ => none }
def FnExactIsNegNormalWrongFalsely : Prop := fnExactIsNegNormalRow.holds Try.pinned (OpenSpec.ofChange fnExactIsNegNormalWrong)

/-- 'laws.FnExactClauseValid': WHATEVER THE INPUT: true; the input reads as it did. -/
def fnExactClauseValidSpec : ChangeSpec := { name := "fnExactClauseValid", fn := fun _ => fun
  | [d] => { results := [.lit (.bool true)], args := [d] }
  | _ => none }
def fnExactClauseValidRow : OpenClaim := { program := "ythhbmnfmhomggaa", sum := "8c8cf950acc6be59d5727ad54e3721fe5d5e5ee6304c6c84e74f40ef3d51cf7a", func := "loop.example/presburger/laws.FnExactClauseValid", spec := "fnExactClauseValid", apart := false }
def FnExactClauseValidSaid : Prop := fnExactClauseValidRow.holds Try.pinned (OpenSpec.ofChange fnExactClauseValidSpec)

/-- ITS FALSE NEIGHBOUR: 'it returns false'. Refute it at one input. -/
def fnExactClauseValidWrong : ChangeSpec := { name := "fnExactClauseValid", fn := fun _ => fun
  | [d] => { results := [.lit (.bool false)], args := [d] }
  | _ => none }
def FnExactClauseValidWrongFalsely : Prop := fnExactClauseValidRow.holds Try.pinned (OpenSpec.ofChange fnExactClauseValidWrong)

/-- 'laws.FnExactFormulaOfClauses': WHATEVER THE INPUT: true; the input reads as it did. -/
def fnExactFormulaOfClausesSpec : ChangeSpec := { name := "fnExactFormulaOfClauses", fn := fun _ => fun
  | [d] => { results := [.lit (.bool true)], args := [d] }
  | _ => none }
def fnExactFormulaOfClausesRow : OpenClaim := { program := "ythhbmnfmhomggaa", sum := "8c8cf950acc6be59d5727ad54e3721fe5d5e5ee6304c6c84e74f40ef3d51cf7a", func := "loop.example/presburger/laws.FnExactFormulaOfClauses", spec := "fnExactFormulaOfClauses", unfollowed := true, recurses := true, apart := false }
def FnExactFormulaOfClausesSaid : Prop := fnExactFormulaOfClausesRow.holds Try.pinned (OpenSpec.ofChange fnExactFormulaOfClausesSpec)

/-- ITS FALSE NEIGHBOUR: 'it returns false'. Refute it at one input. -/
def fnExactFormulaOfClausesWrong : ChangeSpec := { name := "fnExactFormulaOfClauses", fn := fun _ => fun
  | [d] => { results := [.lit (.bool false)], args := [d] }
  | _ => none }
def FnExactFormulaOfClausesWrongFalsely : Prop := fnExactFormulaOfClausesRow.holds Try.pinned (OpenSpec.ofChange fnExactFormulaOfClausesWrong)

/- THE SECOND FORM. 'bulk': how many values and letters a reading holds, each counted each time it is reached (what is shared counts as often as it is met; a slice's spare places count too). A statement '..UptoSaid' is the law's where the arguments, and the package variables that the reading takes, are together of bulk at most 1048576: NARROWER than '..Said'. Prove '..Said' where nothing that the law and all that it calls make is longer than what came in: it says more and counts as full. Else prove '..UptoSaid'. A law counts once. -/
mutual
def uptoBulk {H : Type} : DataW H → Nat
  | .lit (.string bytes) => bytes.length + 1
  | .lit _ => 1
  | .nil => 1
  | .ptr d => uptoBulk d + 1
  | .slice elems spare => uptoBulkAll elems + uptoBulkAll spare + 1
  | .agg parts => uptoBulkAll parts + 1
  | .iface _ d => uptoBulk d + 1
  | .map entries => uptoBulkEntries entries + 1
  | .held _ => 1
def uptoBulkAll {H : Type} : List (DataW H) → Nat
  | [] => 0
  | d :: r => uptoBulk d + uptoBulkAll r
def uptoBulkEntries {H : Type} : List (Lit × DataW H) → Nat
  | [] => 0
  | x :: r => uptoBulkEntry x + uptoBulkEntries r
def uptoBulkEntry {H : Type} : Lit × DataW H → Nat
  | (.string bytes, d) => bytes.length + uptoBulk d + 1
  | (_, d) => uptoBulk d + 1
 end
def uptoSmall : (H : Type) → List (DataW H) → Bool := fun _ ds => decide (uptoBulkAll ds ≤ 1048576)
def OpenSpec.upto (s : _root_.Go.ChangeSpec) : _root_.Go.OpenSpec := { _root_.Go.OpenSpec.ofChange s with cond := some uptoSmall }

/-- 'laws.FnNodes', WHERE WHAT IT READS IS OF BULK AT MOST 1048576: true; the input reads as it did. -/
def fnNodesUptoRow : OpenClaim := { program := "ythhbmnfmhomggaa", sum := "8c8cf950acc6be59d5727ad54e3721fe5d5e5ee6304c6c84e74f40ef3d51cf7a", func := "loop.example/presburger/laws.FnNodes", spec := "fnNodes", unfollowed := true, recurses := true, apart := false, narrowed := true }
def FnNodesUptoSaid : Prop := fnNodesUptoRow.holds Try.pinned (OpenSpec.upto fnNodesSpec)

/-- 'laws.FnNested', WHERE WHAT IT READS IS OF BULK AT MOST 1048576: true; the input reads as it did. -/
def fnNestedUptoRow : OpenClaim := { program := "ythhbmnfmhomggaa", sum := "8c8cf950acc6be59d5727ad54e3721fe5d5e5ee6304c6c84e74f40ef3d51cf7a", func := "loop.example/presburger/laws.FnNested", spec := "fnNested", unfollowed := true, recurses := true, apart := false, narrowed := true }
def FnNestedUptoSaid : Prop := fnNestedUptoRow.holds Try.pinned (OpenSpec.upto fnNestedSpec)

/-- 'laws.FnAtomsOf', WHERE WHAT IT READS IS OF BULK AT MOST 1048576: true; the input reads as it did. -/
def fnAtomsOfUptoRow : OpenClaim := { program := "ythhbmnfmhomggaa", sum := "8c8cf950acc6be59d5727ad54e3721fe5d5e5ee6304c6c84e74f40ef3d51cf7a", func := "loop.example/presburger/laws.FnAtomsOf", spec := "fnAtomsOf", unfollowed := true, recurses := true, apart := false, narrowed := true }
def FnAtomsOfUptoSaid : Prop := fnAtomsOfUptoRow.holds Try.pinned (OpenSpec.upto fnAtomsOfSpec)

/-- 'laws.FnExactJoinAll', WHERE WHAT IT READS IS OF BULK AT MOST 1048576: true; the input reads as it did. -/
def fnExactJoinAllUptoRow : OpenClaim := { program := "ythhbmnfmhomggaa", sum := "8c8cf950acc6be59d5727ad54e3721fe5d5e5ee6304c6c84e74f40ef3d51cf7a", func := "loop.example/presburger/laws.FnExactJoinAll", spec := "fnExactJoinAll", unfollowed := true, recurses := true, loops := true, apart := false, narrowed := true }
def FnExactJoinAllUptoSaid : Prop := fnExactJoinAllUptoRow.holds Try.pinned (OpenSpec.upto fnExactJoinAllSpec)

/-- 'laws.FnExactJoinAny', WHERE WHAT IT READS IS OF BULK AT MOST 1048576: true; the input reads as it did. -/
def fnExactJoinAnyUptoRow : OpenClaim := { program := "ythhbmnfmhomggaa", sum := "8c8cf950acc6be59d5727ad54e3721fe5d5e5ee6304c6c84e74f40ef3d51cf7a", func := "loop.example/presburger/laws.FnExactJoinAny", spec := "fnExactJoinAny", unfollowed := true, recurses := true, loops := true, apart := false, narrowed := true }
def FnExactJoinAnyUptoSaid : Prop := fnExactJoinAnyUptoRow.holds Try.pinned (OpenSpec.upto fnExactJoinAnySpec)

/-- 'laws.FnExactIsNegNormal', WHERE WHAT IT READS IS OF BULK AT MOST 1048576: true; the input reads as it did. -/
def fnExactIsNegNormalUptoRow : OpenClaim := { program := "ythhbmnfmhomggaa", sum := "8c8cf950acc6be59d5727ad54e3721fe5d5e5ee6304c6c84e74f40ef3d51cf7a", func := "loop.example/presburger/laws.FnExactIsNegNormal", spec := "fnExactIsNegNormal", unfollowed := true, recurses := true, loops := true, apart := false, narrowed := true }
def FnExactIsNegNormalUptoSaid : Prop := fnExactIsNegNormalUptoRow.holds Try.pinned (OpenSpec.upto fnExactIsNegNormalSpec)

/-- 'laws.FnExactClauseValid', WHERE WHAT IT READS IS OF BULK AT MOST 1048576: true; the input reads as it did. -/
def fnExactClauseValidUptoRow : OpenClaim := { program := "ythhbmnfmhomggaa", sum := "8c8cf950acc6be59d5727ad54e3721fe5d5e5ee6304c6c84e74f40ef3d51cf7a", func := "loop.example/presburger/laws.FnExactClauseValid", spec := "fnExactClauseValid", apart := false, narrowed := true }
def FnExactClauseValidUptoSaid : Prop := fnExactClauseValidUptoRow.holds Try.pinned (OpenSpec.upto fnExactClauseValidSpec)

/-- 'laws.FnExactFormulaOfClauses', WHERE WHAT IT READS IS OF BULK AT MOST 1048576: true; the input reads as it did. -/
def fnExactFormulaOfClausesUptoRow : OpenClaim := { program := "ythhbmnfmhomggaa", sum := "8c8cf950acc6be59d5727ad54e3721fe5d5e5ee6304c6c84e74f40ef3d51cf7a", func := "loop.example/presburger/laws.FnExactFormulaOfClauses", spec := "fnExactFormulaOfClauses", unfollowed := true, recurses := true, apart := false, narrowed := true }
def FnExactFormulaOfClausesUptoSaid : Prop := fnExactFormulaOfClausesUptoRow.holds Try.pinned (OpenSpec.upto fnExactFormulaOfClausesSpec)

end Rows
end Go.Proofs.Ythhbmnfmhomggaa
