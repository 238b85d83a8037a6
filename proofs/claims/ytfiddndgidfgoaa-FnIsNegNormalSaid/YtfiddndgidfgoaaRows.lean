/-
  No cell of these rows narrows 'for every input' (looked for: loops, veiled, ifaces, maps, wideKeys, modest, calm, conditions, laid).
  DERIVED. THE GIVEN ROWS OF THIS SEAT. 3 by the template 'for every input the law returns true; each argument reads behind the call as it read before'; 0 by the template 'total and deterministic' (their statements: YtfiddndgidfgoaaTotals.lean).
  GIVEN WITH THE SEED: the statements are not yours to turn. If you find one false, say at which input.
  Laid BY PROGRAM, IN A SANDBOX (cutbox-rows.mjs): the forced cells as the released guide's own fill.sh prints them over the translation e9fe4258726d02d0… (all of the seat's roots in one cut). By AI agents, Wed Nov 11 2026. No macro, syntax, notation, axiom, sorry.
-/
import Derived.Test.YtfiddndgidfgoaaChecked
import GoSem.Claim
import GoSem.ClaimJoined
import GoSem.ClaimMapViews
import Derived.JoinedTies
import Derived.KernelRfl
namespace Go.Proofs.Ytfiddndgidfgoaa
/- THE CELL 'sum', in the pinned program and in every row, IS THE sha256 OF THE DUMP (.gsa) THAT YtfiddndgidfgoaaProg.lean LOADS. Nothing in Lean hashes anything: it is a label: what it is worth is what the hold of that sum in a sandbox is worth. -/
noncomputable def Try.pinned : Pinned := { name := "ytfiddndgidfgoaa", sum := "e9fe4258726d02d051991247001c02aac3703b9a740cd1cb364262f9e2afd54b", checked := Try.checked }
namespace Rows
def none {H : Type} : Left H := { results := [], args := [] }

/-- 'laws.FnIsNegNormal': WHATEVER THE INPUT: true; the input reads as it did. -/
def fnIsNegNormalSpec : ChangeSpec := { name := "fnIsNegNormal", fn := fun _ => fun
  | [d] => { results := [.lit (.bool true)], args := [d] }
  | _ => none }
def fnIsNegNormalRow : OpenClaim := { program := "ytfiddndgidfgoaa", sum := "e9fe4258726d02d051991247001c02aac3703b9a740cd1cb364262f9e2afd54b", func := "loop.example/presburger/laws.FnIsNegNormal", spec := "fnIsNegNormal", unfollowed := true, recurses := true, apart := false }
def FnIsNegNormalSaid : Prop := fnIsNegNormalRow.holds Try.pinned (OpenSpec.ofChange fnIsNegNormalSpec)

/-- ITS FALSE NEIGHBOUR: 'it returns false'. Refute it at one input. -/
def fnIsNegNormalWrong : ChangeSpec := { name := "fnIsNegNormal", fn := fun _ => fun
  | [d] => { results := [.lit (.bool false)], args := [d] }
  | _ => none }
def FnIsNegNormalWrongFalsely : Prop := fnIsNegNormalRow.holds Try.pinned (OpenSpec.ofChange fnIsNegNormalWrong)

/-- 'laws.FnCapture': WHATEVER THE INPUT: true; the input reads as it did. -/
def fnCaptureSpec : ChangeSpec := { name := "fnCapture", fn := fun _ => fun
  | [d] => { results := [.lit (.bool true)], args := [d] }
  | _ => none }
def fnCaptureRow : OpenClaim := { program := "ytfiddndgidfgoaa", sum := "e9fe4258726d02d051991247001c02aac3703b9a740cd1cb364262f9e2afd54b", func := "loop.example/presburger/laws.FnCapture", spec := "fnCapture", unfollowed := true, recurses := true, apart := false }
def FnCaptureSaid : Prop := fnCaptureRow.holds Try.pinned (OpenSpec.ofChange fnCaptureSpec)

/-- ITS FALSE NEIGHBOUR: 'it returns false'. Refute it at one input. -/
def fnCaptureWrong : ChangeSpec := { name := "fnCapture", fn := fun _ => fun
  | [d] => { results := [.lit (.bool false)], args := [d] }
  | _ => none }
def FnCaptureWrongFalsely : Prop := fnCaptureRow.holds Try.pinned (OpenSpec.ofChange fnCaptureWrong)

/-- 'laws.FnExactFormulaOfClauses': WHATEVER THE INPUT: true; the input reads as it did. -/
def fnExactFormulaOfClausesSpec : ChangeSpec := { name := "fnExactFormulaOfClauses", fn := fun _ => fun
  | [d] => { results := [.lit (.bool true)], args := [d] }
  | _ => none }
def fnExactFormulaOfClausesRow : OpenClaim := { program := "ytfiddndgidfgoaa", sum := "e9fe4258726d02d051991247001c02aac3703b9a740cd1cb364262f9e2afd54b", func := "loop.example/presburger/laws.FnExactFormulaOfClauses", spec := "fnExactFormulaOfClauses", unfollowed := true, recurses := true, apart := false }
def FnExactFormulaOfClausesSaid : Prop := fnExactFormulaOfClausesRow.holds Try.pinned (OpenSpec.ofChange fnExactFormulaOfClausesSpec)

/-- ITS FALSE NEIGHBOUR: 'it returns false'. Refute it at one input. -/
def fnExactFormulaOfClausesWrong : ChangeSpec := { name := "fnExactFormulaOfClauses", fn := fun _ => fun
  | [d] => { results := [.lit (.bool false)], args := [d] }
  | _ => none }
def FnExactFormulaOfClausesWrongFalsely : Prop := fnExactFormulaOfClausesRow.holds Try.pinned (OpenSpec.ofChange fnExactFormulaOfClausesWrong)

/- THE SECOND FORM. 'bulk': how many values and letters a reading holds, each counted each time it is reached (what is shared counts as often as it is met; a slice's spare places count too). A statement '..UptoSaid' is the law's where the arguments, and the package variables that the reading takes, are together of bulk at most 1048576: NARROWER than '..Said'. Prove '..Said' where nothing that the law and all that it calls make is longer than what came in: it says more and counts as full. Else prove '..UptoSaid'. A law counts once. -/
mutual
def uptoBulk {H : Type} : DataW H → Nat
  | .lit (.string bytes) => bytes.length + 1
  | .lit _ => 1
  | .nil => 1
  | .ptr d => uptoBulk d + 1
  | .slice elems spare => uptoBulkAll elems + uptoBulkAll spare + 1
  | .agg parts => uptoBulkAll parts + 1
  | .iface _ d => uptoBulk d + 1
  | .map entries => uptoBulkEntries entries + 1
  | .held _ => 1
def uptoBulkAll {H : Type} : List (DataW H) → Nat
  | [] => 0
  | d :: r => uptoBulk d + uptoBulkAll r
def uptoBulkEntries {H : Type} : List (Lit × DataW H) → Nat
  | [] => 0
  | x :: r => uptoBulkEntry x + uptoBulkEntries r
def uptoBulkEntry {H : Type} : Lit × DataW H → Nat
  | (.string bytes, d) => bytes.length + uptoBulk d + 1
  | (_, d) => uptoBulk d + 1
 end
def uptoSmall : (H : Type) → List (DataW H) → Bool := fun _ ds => decide (uptoBulkAll ds ≤ 1048576)
def OpenSpec.upto (s : _root_.Go.ChangeSpec) : _root_.Go.OpenSpec := { _root_.Go.OpenSpec.ofChange s with cond := some uptoSmall }

/-- 'laws.FnIsNegNormal', WHERE WHAT IT READS IS OF BULK AT MOST 1048576: true; the input reads as it did. -/
def fnIsNegNormalUptoRow : OpenClaim := { program := "ytfiddndgidfgoaa", sum := "e9fe4258726d02d051991247001c02aac3703b9a740cd1cb364262f9e2afd54b", func := "loop.example/presburger/laws.FnIsNegNormal", spec := "fnIsNegNormal", unfollowed := true, recurses := true, apart := false, narrowed := true }
def FnIsNegNormalUptoSaid : Prop := fnIsNegNormalUptoRow.holds Try.pinned (OpenSpec.upto fnIsNegNormalSpec)

/-- 'laws.FnCapture', WHERE WHAT IT READS IS OF BULK AT MOST 1048576: true; the input reads as it did. -/
def fnCaptureUptoRow : OpenClaim := { program := "ytfiddndgidfgoaa", sum := "e9fe4258726d02d051991247001c02aac3703b9a740cd1cb364262f9e2afd54b", func := "loop.example/presburger/laws.FnCapture", spec := "fnCapture", unfollowed := true, recurses := true, apart := false, narrowed := true }
def FnCaptureUptoSaid : Prop := fnCaptureUptoRow.holds Try.pinned (OpenSpec.upto fnCaptureSpec)

/-- 'laws.FnExactFormulaOfClauses', WHERE WHAT IT READS IS OF BULK AT MOST 1048576: true; the input reads as it did. -/
def fnExactFormulaOfClausesUptoRow : OpenClaim := { program := "ytfiddndgidfgoaa", sum := "e9fe4258726d02d051991247001c02aac3703b9a740cd1cb364262f9e2afd54b", func := "loop.example/presburger/laws.FnExactFormulaOfClauses", spec := "fnExactFormulaOfClauses", unfollowed := true, recurses := true, apart := false, narrowed := true }
def FnExactFormulaOfClausesUptoSaid : Prop := fnExactFormulaOfClausesUptoRow.holds Try.pinned (OpenSpec.upto fnExactFormulaOfClausesSpec)

end Rows
end Go.Proofs.Ytfiddndgidfgoaa
