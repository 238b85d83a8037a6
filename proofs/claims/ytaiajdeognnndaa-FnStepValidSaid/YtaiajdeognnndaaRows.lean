/-
  No cell of these rows narrows 'for every input' (looked for: loops, veiled, ifaces, maps, wideKeys, modest, calm, conditions, laid).
  DERIVED. THE GIVEN ROWS OF THIS SEAT. 4 by the template 'for every input the law returns true; each argument reads behind the call as it read before'; 0 by the template 'total and deterministic' (their statements: YtaiajdeognnndaaTotals.lean).
  GIVEN WITH THE SEED: the statements are not yours to turn. If you find one false, say at which input.
  Laid BY PROGRAM, IN A SANDBOX (cutbox-rows.mjs): the forced cells as the released guide's own fill.sh prints them over the translation 25fbe8426d63dff2… (all of the seat's roots in one cut). By AI agents, Wed Nov 11 2026. No macro, syntax, notation, axiom, sorry.
-/
import Derived.Test.YtaiajdeognnndaaChecked
import GoSem.Claim
import GoSem.ClaimJoined
import GoSem.ClaimMapViews
import Derived.JoinedTies
import Derived.KernelRfl
namespace Go.Proofs.Ytaiajdeognnndaa
/- THE CELL 'sum', in the pinned program and in every row, IS THE sha256 OF THE DUMP (.gsa) THAT YtaiajdeognnndaaProg.lean LOADS. Nothing in Lean hashes anything: it is a label: what it is worth is what the hold of that sum in a sandbox is worth. -/
noncomputable def Try.pinned : Pinned := { name := "ytaiajdeognnndaa", sum := "25fbe8426d63dff232c52f0a23e2ccfda6c046ee5434dd0c052a09ad30c9490e", checked := Try.checked }
namespace Rows
def none {H : Type} : Left H := { results := [], args := [] }

/-- 'laws.FnExactStartLines': WHATEVER THE INPUT: true; the input reads as it did. -/
def fnExactStartLinesSpec : ChangeSpec := { name := "fnExactStartLines", fn := fun _ => fun
  | [d] => { results := [.lit (.bool true)], args := [d] }
  | _ => none }
def fnExactStartLinesRow : OpenClaim := { program := "ytaiajdeognnndaa", sum := "25fbe8426d63dff232c52f0a23e2ccfda6c046ee5434dd0c052a09ad30c9490e", func := "loop.example/presburger/laws.FnExactStartLines", spec := "fnExactStartLines", unfollowed := true, recurses := true, apart := false }
def FnExactStartLinesSaid : Prop := fnExactStartLinesRow.holds Try.pinned (OpenSpec.ofChange fnExactStartLinesSpec)

/-- ITS FALSE NEIGHBOUR: 'it returns false'. Refute it at one input. -/
def fnExactStartLinesWrong : ChangeSpec := { name := "fnExactStartLines", fn := fun _ => fun
  | [d] => { results := [.lit (.bool false)], args := [d] }
  | _ => none }
def FnExactStartLinesWrongFalsely : Prop := fnExactStartLinesRow.holds Try.pinned (OpenSpec.ofChange fnExactStartLinesWrong)

/-- 'laws.FnStepValid': WHATEVER THE INPUT: true; the input reads as it did. -/
def fnStepValidSpec : ChangeSpec := { name := "fnStepValid", fn := fun _ => fun
  | [d] => { results := [.lit (.bool true)], args := [d] }
  | _ => none }
def fnStepValidRow : OpenClaim := { program := "ytaiajdeognnndaa", sum := "25fbe8426d63dff232c52f0a23e2ccfda6c046ee5434dd0c052a09ad30c9490e", func := "loop.example/presburger/laws.FnStepValid", spec := "fnStepValid", apart := false }
def FnStepValidSaid : Prop := fnStepValidRow.holds Try.pinned (OpenSpec.ofChange fnStepValidSpec)

/-- ITS FALSE NEIGHBOUR: 'it returns false'. Refute it at one input. -/
def fnStepValidWrong : ChangeSpec := { name := "fnStepValid", fn := fun _ => fun
  | [d] => { results := [.lit (.bool false)], args := [d] }
  | _ => none }
def FnStepValidWrongFalsely : Prop := fnStepValidRow.holds Try.pinned (OpenSpec.ofChange fnStepValidWrong)

/-- 'laws.FnExactStepValid': WHATEVER THE INPUT: true; the input reads as it did. -/
def fnExactStepValidSpec : ChangeSpec := { name := "fnExactStepValid", fn := fun _ => fun
  | [d1, d2] => { results := [.lit (.bool true)], args := [d1, d2] }
  | _ => none }
def fnExactStepValidRow : OpenClaim := { program := "ytaiajdeognnndaa", sum := "25fbe8426d63dff232c52f0a23e2ccfda6c046ee5434dd0c052a09ad30c9490e", func := "loop.example/presburger/laws.FnExactStepValid", spec := "fnExactStepValid", apart := false }
def FnExactStepValidSaid : Prop := fnExactStepValidRow.holds Try.pinned (OpenSpec.ofChange fnExactStepValidSpec)

/-- ITS FALSE NEIGHBOUR: 'it returns false'. Refute it at one input. -/
def fnExactStepValidWrong : ChangeSpec := { name := "fnExactStepValid", fn := fun _ => fun
  | [d1, d2] => { results := [.lit (.bool false)], args := [d1, d2] }
  | _ => none }
def FnExactStepValidWrongFalsely : Prop := fnExactStepValidRow.holds Try.pinned (OpenSpec.ofChange fnExactStepValidWrong)

/-- 'laws.FnExactFormulaOfClauses': WHATEVER THE INPUT: true; the input reads as it did. -/
def fnExactFormulaOfClausesSpec : ChangeSpec := { name := "fnExactFormulaOfClauses", fn := fun _ => fun
  | [d] => { results := [.lit (.bool true)], args := [d] }
  | _ => none }
def fnExactFormulaOfClausesRow : OpenClaim := { program := "ytaiajdeognnndaa", sum := "25fbe8426d63dff232c52f0a23e2ccfda6c046ee5434dd0c052a09ad30c9490e", func := "loop.example/presburger/laws.FnExactFormulaOfClauses", spec := "fnExactFormulaOfClauses", unfollowed := true, recurses := true, apart := false }
def FnExactFormulaOfClausesSaid : Prop := fnExactFormulaOfClausesRow.holds Try.pinned (OpenSpec.ofChange fnExactFormulaOfClausesSpec)

/-- ITS FALSE NEIGHBOUR: 'it returns false'. Refute it at one input. -/
def fnExactFormulaOfClausesWrong : ChangeSpec := { name := "fnExactFormulaOfClauses", fn := fun _ => fun
  | [d] => { results := [.lit (.bool false)], args := [d] }
  | _ => none }
def FnExactFormulaOfClausesWrongFalsely : Prop := fnExactFormulaOfClausesRow.holds Try.pinned (OpenSpec.ofChange fnExactFormulaOfClausesWrong)

/- THE SECOND FORM. 'bulk': how many values and letters a reading holds, each counted each time it is reached (what is shared counts as often as it is met; a slice's spare places count too). A statement '..UptoSaid' is the law's where the arguments, and the package variables that the reading takes, are together of bulk at most 1048576: NARROWER than '..Said'. Prove '..Said' where nothing that the law and all that it calls make is longer than what came in: it says more and counts as full. Else prove '..UptoSaid'. A law counts once. -/
mutual
def uptoBulk {H : Type} : DataW H → Nat
  | .lit (.string bytes) => bytes.length + 1
  | .lit _ => 1
  | .nil => 1
  | .ptr d => uptoBulk d + 1
  | .slice elems spare => uptoBulkAll elems + uptoBulkAll spare + 1
  | .agg parts => uptoBulkAll parts + 1
  | .iface _ d => uptoBulk d + 1
  | .map entries => uptoBulkEntries entries + 1
  | .held _ => 1
def uptoBulkAll {H : Type} : List (DataW H) → Nat
  | [] => 0
  | d :: r => uptoBulk d + uptoBulkAll r
def uptoBulkEntries {H : Type} : List (Lit × DataW H) → Nat
  | [] => 0
  | x :: r => uptoBulkEntry x + uptoBulkEntries r
def uptoBulkEntry {H : Type} : Lit × DataW H → Nat
  | (.string bytes, d) => bytes.length + uptoBulk d + 1
  | (_, d) => uptoBulk d + 1
 end
def uptoSmall : (H : Type) → List (DataW H) → Bool := fun _ ds => decide (uptoBulkAll ds ≤ 1048576)
def OpenSpec.upto (s : _root_.Go.ChangeSpec) : _root_.Go.OpenSpec := { _root_.Go.OpenSpec.ofChange s with cond := some uptoSmall }

/-- 'laws.FnExactStartLines', WHERE WHAT IT READS IS OF BULK AT MOST 1048576: true; the input reads as it did. -/
def fnExactStartLinesUptoRow : OpenClaim := { program := "ytaiajdeognnndaa", sum := "25fbe8426d63dff232c52f0a23e2ccfda6c046ee5434dd0c052a09ad30c9490e", func := "loop.example/presburger/laws.FnExactStartLines", spec := "fnExactStartLines", unfollowed := true, recurses := true, apart := false, narrowed := true }
def FnExactStartLinesUptoSaid : Prop := fnExactStartLinesUptoRow.holds Try.pinned (OpenSpec.upto fnExactStartLinesSpec)

/-- 'laws.FnStepValid', WHERE WHAT IT READS IS OF BULK AT MOST 1048576: true; the input reads as it did. -/
def fnStepValidUptoRow : OpenClaim := { program := "ytaiajdeognnndaa", sum := "25fbe8426d63dff232c52f0a23e2ccfda6c046ee5434dd0c052a09ad30c9490e", func := "loop.example/presburger/laws.FnStepValid", spec := "fnStepValid", apart := false, narrowed := true }
def FnStepValidUptoSaid : Prop := fnStepValidUptoRow.holds Try.pinned (OpenSpec.upto fnStepValidSpec)

/-- 'laws.FnExactStepValid', WHERE WHAT IT READS IS OF BULK AT MOST 1048576: true; the input reads as it did. -/
def fnExactStepValidUptoRow : OpenClaim := { program := "ytaiajdeognnndaa", sum := "25fbe8426d63dff232c52f0a23e2ccfda6c046ee5434dd0c052a09ad30c9490e", func := "loop.example/presburger/laws.FnExactStepValid", spec := "fnExactStepValid", apart := false, narrowed := true }
def FnExactStepValidUptoSaid : Prop := fnExactStepValidUptoRow.holds Try.pinned (OpenSpec.upto fnExactStepValidSpec)

/-- 'laws.FnExactFormulaOfClauses', WHERE WHAT IT READS IS OF BULK AT MOST 1048576: true; the input reads as it did. -/
def fnExactFormulaOfClausesUptoRow : OpenClaim := { program := "ytaiajdeognnndaa", sum := "25fbe8426d63dff232c52f0a23e2ccfda6c046ee5434dd0c052a09ad30c9490e", func := "loop.example/presburger/laws.FnExactFormulaOfClauses", spec := "fnExactFormulaOfClauses", unfollowed := true, recurses := true, apart := false, narrowed := true }
def FnExactFormulaOfClausesUptoSaid : Prop := fnExactFormulaOfClausesUptoRow.holds Try.pinned (OpenSpec.upto fnExactFormulaOfClausesSpec)

end Rows
end Go.Proofs.Ytaiajdeognnndaa
