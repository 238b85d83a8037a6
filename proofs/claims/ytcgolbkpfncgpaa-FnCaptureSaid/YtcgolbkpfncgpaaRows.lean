/-
  NARROWER THAN 'FOR EVERY INPUT', by the rows' own cells (each row's printed sentence says how): FnExactSubstFormula: loops · FnExactLowerBounds: loops · FnExactPeriodOf: loops.
  DERIVED. THE GIVEN ROWS OF THIS SEAT. 8 by the template 'for every input the law returns true; each argument reads behind the call as it read before'; 0 by the template 'total and deterministic' (their statements: YtcgolbkpfncgpaaTotals.lean).
  GIVEN WITH THE SEED: the statements are not yours to turn. If you find one false, say at which input.
  Laid BY PROGRAM, IN A SANDBOX (cutbox-rows.mjs): the forced cells as the released guide's own fill.sh prints them over the translation b161d340bfebe519… (all of the seat's roots in one cut). By AI agents, Wed Nov 11 2026. No macro, syntax, notation, axiom, sorry.
-/
import Derived.Test.YtcgolbkpfncgpaaChecked
import GoSem.Claim
import GoSem.ClaimJoined
import GoSem.ClaimMapViews
import Derived.JoinedTies
import Derived.KernelRfl
namespace Go.Proofs.Ytcgolbkpfncgpaa
/- THE CELL 'sum', in the pinned program and in every row, IS THE sha256 OF THE DUMP (.gsa) THAT YtcgolbkpfncgpaaProg.lean LOADS. Nothing in Lean hashes anything: it is a label: what it is worth is what the hold of that sum in a sandbox is worth. -/
noncomputable def Try.pinned : Pinned := { name := "ytcgolbkpfncgpaa", sum := "b161d340bfebe5190f987e88adccae29533f0c54887b37c6419d07acbe536b90", checked := Try.checked }
namespace Rows
def none {H : Type} : Left H := { results := [], args := [] }

/-- 'laws.FnSubstTerm': WHATEVER THE INPUT: true; the input reads as it did. -/
def fnSubstTermSpec : ChangeSpec := { name := "fnSubstTerm", fn := fun _ => fun
  | [d] => { results := [.lit (.bool true)], args := [d] }
  | _ => none }
def fnSubstTermRow : OpenClaim := { program := "ytcgolbkpfncgpaa", sum := "b161d340bfebe5190f987e88adccae29533f0c54887b37c6419d07acbe536b90", func := "loop.example/presburger/laws.FnSubstTerm", spec := "fnSubstTerm", apart := false }
def FnSubstTermSaid : Prop := fnSubstTermRow.holds Try.pinned (OpenSpec.ofChange fnSubstTermSpec)

/-- ITS FALSE NEIGHBOUR: 'it returns false'. Refute it at one input. -/
def fnSubstTermWrong : ChangeSpec := { name := "fnSubstTerm", fn := fun _ => fun
  | [d] => { results := [.lit (.bool false)], args := [d] }
  | _ => none }
def FnSubstTermWrongFalsely : Prop := fnSubstTermRow.holds Try.pinned (OpenSpec.ofChange fnSubstTermWrong)

/-- 'laws.FnExactSubstTerm': WHATEVER THE INPUT: true; the input reads as it did. -/
def fnExactSubstTermSpec : ChangeSpec := { name := "fnExactSubstTerm", fn := fun _ => fun
  | [d1, d2, d3] => { results := [.lit (.bool true)], args := [d1, d2, d3] }
  | _ => none }
def fnExactSubstTermRow : OpenClaim := { program := "ytcgolbkpfncgpaa", sum := "b161d340bfebe5190f987e88adccae29533f0c54887b37c6419d07acbe536b90", func := "loop.example/presburger/laws.FnExactSubstTerm", spec := "fnExactSubstTerm", apart := false }
def FnExactSubstTermSaid : Prop := fnExactSubstTermRow.holds Try.pinned (OpenSpec.ofChange fnExactSubstTermSpec)

/-- ITS FALSE NEIGHBOUR: 'it returns false'. Refute it at one input. -/
def fnExactSubstTermWrong : ChangeSpec := { name := "fnExactSubstTerm", fn := fun _ => fun
  | [d1, d2, d3] => { results := [.lit (.bool false)], args := [d1, d2, d3] }
  | _ => none }
def FnExactSubstTermWrongFalsely : Prop := fnExactSubstTermRow.holds Try.pinned (OpenSpec.ofChange fnExactSubstTermWrong)

/-- 'laws.FnExactSubstAtom': WHATEVER THE INPUT: true; the input reads as it did. -/
def fnExactSubstAtomSpec : ChangeSpec := { name := "fnExactSubstAtom", fn := fun _ => fun
  | [d1, d2, d3] => { results := [.lit (.bool true)], args := [d1, d2, d3] }
  | _ => none }
def fnExactSubstAtomRow : OpenClaim := { program := "ytcgolbkpfncgpaa", sum := "b161d340bfebe5190f987e88adccae29533f0c54887b37c6419d07acbe536b90", func := "loop.example/presburger/laws.FnExactSubstAtom", spec := "fnExactSubstAtom", apart := false }
def FnExactSubstAtomSaid : Prop := fnExactSubstAtomRow.holds Try.pinned (OpenSpec.ofChange fnExactSubstAtomSpec)

/-- ITS FALSE NEIGHBOUR: 'it returns false'. Refute it at one input. -/
def fnExactSubstAtomWrong : ChangeSpec := { name := "fnExactSubstAtom", fn := fun _ => fun
  | [d1, d2, d3] => { results := [.lit (.bool false)], args := [d1, d2, d3] }
  | _ => none }
def FnExactSubstAtomWrongFalsely : Prop := fnExactSubstAtomRow.holds Try.pinned (OpenSpec.ofChange fnExactSubstAtomWrong)

/-- 'laws.FnExactSubstFormula': WHATEVER THE INPUT: true; the input reads as it did. -/
def fnExactSubstFormulaSpec : ChangeSpec := { name := "fnExactSubstFormula", fn := fun _ => fun
  | [d1, d2, d3] => { results := [.lit (.bool true)], args := [d1, d2, d3] }
  | _ => none }
def fnExactSubstFormulaRow : OpenClaim := { program := "ytcgolbkpfncgpaa", sum := "b161d340bfebe5190f987e88adccae29533f0c54887b37c6419d07acbe536b90", func := "loop.example/presburger/laws.FnExactSubstFormula", spec := "fnExactSubstFormula", unfollowed := true, recurses := true, loops := true, apart := false }
def FnExactSubstFormulaSaid : Prop := fnExactSubstFormulaRow.holds Try.pinned (OpenSpec.ofChange fnExactSubstFormulaSpec)

/-- ITS FALSE NEIGHBOUR: 'it returns false'. Refute it at one input. -/
def fnExactSubstFormulaWrong : ChangeSpec := { name := "fnExactSubstFormula", fn := fun _ => fun
  | [d1, d2, d3] => { results := [.lit (.bool false)], args := [d1, d2, d3] }
  | _ => none }
def FnExactSubstFormulaWrongFalsely : Prop := fnExactSubstFormulaRow.holds Try.pinned (OpenSpec.ofChange fnExactSubstFormulaWrong)

/-- 'laws.FnExactLowerBounds': WHATEVER THE INPUT: true; the input reads as it did. -/
def fnExactLowerBoundsSpec : ChangeSpec := { name := "fnExactLowerBounds", fn := fun _ => fun
  | [d1, d2] => { results := [.lit (.bool true)], args := [d1, d2] }
  | _ => none }
def fnExactLowerBoundsRow : OpenClaim := { program := "ytcgolbkpfncgpaa", sum := "b161d340bfebe5190f987e88adccae29533f0c54887b37c6419d07acbe536b90", func := "loop.example/presburger/laws.FnExactLowerBounds", spec := "fnExactLowerBounds", unfollowed := true, recurses := true, loops := true, apart := false }
def FnExactLowerBoundsSaid : Prop := fnExactLowerBoundsRow.holds Try.pinned (OpenSpec.ofChange fnExactLowerBoundsSpec)

/-- ITS FALSE NEIGHBOUR: 'it returns false'. Refute it at one input. -/
def fnExactLowerBoundsWrong : ChangeSpec := { name := "fnExactLowerBounds", fn := fun _ => fun
  | [d1, d2] => { results := [.lit (.bool false)], args := [d1, d2] }
  | _ => none }
def FnExactLowerBoundsWrongFalsely : Prop := fnExactLowerBoundsRow.holds Try.pinned (OpenSpec.ofChange fnExactLowerBoundsWrong)

/-- 'laws.FnExactPeriodOf': WHATEVER THE INPUT: true; the input reads as it did. -/
def fnExactPeriodOfSpec : ChangeSpec := { name := "fnExactPeriodOf", fn := fun _ => fun
  | [d1, d2] => { results := [.lit (.bool true)], args := [d1, d2] }
  | _ => none }
def fnExactPeriodOfRow : OpenClaim := { program := "ytcgolbkpfncgpaa", sum := "b161d340bfebe5190f987e88adccae29533f0c54887b37c6419d07acbe536b90", func := "loop.example/presburger/laws.FnExactPeriodOf", spec := "fnExactPeriodOf", unfollowed := true, recurses := true, loops := true, apart := false }
def FnExactPeriodOfSaid : Prop := fnExactPeriodOfRow.holds Try.pinned (OpenSpec.ofChange fnExactPeriodOfSpec)

/-- ITS FALSE NEIGHBOUR: 'it returns false'. Refute it at one input. -/
def fnExactPeriodOfWrong : ChangeSpec := { name := "fnExactPeriodOf", fn := fun _ => fun
  | [d1, d2] => { results := [.lit (.bool false)], args := [d1, d2] }
  | _ => none }
def FnExactPeriodOfWrongFalsely : Prop := fnExactPeriodOfRow.holds Try.pinned (OpenSpec.ofChange fnExactPeriodOfWrong)

/-- 'laws.FnCapture': WHATEVER THE INPUT: true; the input reads as it did. -/
def fnCaptureSpec : ChangeSpec := { name := "fnCapture", fn := fun _ => fun
  | [d] => { results := [.lit (.bool true)], args := [d] }
  | _ => none }
def fnCaptureRow : OpenClaim := { program := "ytcgolbkpfncgpaa", sum := "b161d340bfebe5190f987e88adccae29533f0c54887b37c6419d07acbe536b90", func := "loop.example/presburger/laws.FnCapture", spec := "fnCapture", unfollowed := true, recurses := true, apart := false }
def FnCaptureSaid : Prop := fnCaptureRow.holds Try.pinned (OpenSpec.ofChange fnCaptureSpec)

/-- ITS FALSE NEIGHBOUR: 'it returns false'. Refute it at one input. -/
def fnCaptureWrong : ChangeSpec := { name := "fnCapture", fn := fun _ => fun
  | [d] => { results := [.lit (.bool false)], args := [d] }
  | _ => none }
def FnCaptureWrongFalsely : Prop := fnCaptureRow.holds Try.pinned (OpenSpec.ofChange fnCaptureWrong)

/-- 'laws.FnExactFormulaOfClauses': WHATEVER THE INPUT: true; the input reads as it did. -/
def fnExactFormulaOfClausesSpec : ChangeSpec := { name := "fnExactFormulaOfClauses", fn := fun _ => fun
  | [d] => { results := [.lit (.bool true)], args := [d] }
  | _ => none }
def fnExactFormulaOfClausesRow : OpenClaim := { program := "ytcgolbkpfncgpaa", sum := "b161d340bfebe5190f987e88adccae29533f0c54887b37c6419d07acbe536b90", func := "loop.example/presburger/laws.FnExactFormulaOfClauses", spec := "fnExactFormulaOfClauses", unfollowed := true, recurses := true, apart := false }
def FnExactFormulaOfClausesSaid : Prop := fnExactFormulaOfClausesRow.holds Try.pinned (OpenSpec.ofChange fnExactFormulaOfClausesSpec)

/-- ITS FALSE NEIGHBOUR: 'it returns false'. Refute it at one input. -/
def fnExactFormulaOfClausesWrong : ChangeSpec := { name := "fnExactFormulaOfClauses", fn := fun _ => fun
  | [d] => { results := [.lit (.bool false)], args := [d] }
  | _ => none }
def FnExactFormulaOfClausesWrongFalsely : Prop := fnExactFormulaOfClausesRow.holds Try.pinned (OpenSpec.ofChange fnExactFormulaOfClausesWrong)

/- THE SECOND FORM. 'bulk': how many values and letters a reading holds, each counted each time it is reached (what is shared counts as often as it is met; a slice's spare places count too). A statement '..UptoSaid' is the law's where the arguments, and the package variables that the reading takes, are together of bulk at most 1048576: NARROWER than '..Said'. Prove '..Said' where nothing that the law and all that it calls make is longer than what came in: it says more and counts as full. Else prove '..UptoSaid'. A law counts once. -/
mutual
def uptoBulk {H : Type} : DataW H → Nat
  | .lit (.string bytes) => bytes.length + 1
  | .lit _ => 1
  | .nil => 1
  | .ptr d => uptoBulk d + 1
  | .slice elems spare => uptoBulkAll elems + uptoBulkAll spare + 1
  | .agg parts => uptoBulkAll parts + 1
  | .iface _ d => uptoBulk d + 1
  | .map entries => uptoBulkEntries entries + 1
  | .held _ => 1
def uptoBulkAll {H : Type} : List (DataW H) → Nat
  | [] => 0
  | d :: r => uptoBulk d + uptoBulkAll r
def uptoBulkEntries {H : Type} : List (Lit × DataW H) → Nat
  | [] => 0
  | x :: r => uptoBulkEntry x + uptoBulkEntries r
def uptoBulkEntry {H : Type} : Lit × DataW H → Nat
  | (.string bytes, d) => bytes.length + uptoBulk d + 1
  | (_, d) => uptoBulk d + 1
 end
def uptoSmall : (H : Type) → List (DataW H) → Bool := fun _ ds => decide (uptoBulkAll ds ≤ 1048576)
def OpenSpec.upto (s : _root_.Go.ChangeSpec) : _root_.Go.OpenSpec := { _root_.Go.OpenSpec.ofChange s with cond := some uptoSmall }

/-- 'laws.FnSubstTerm', WHERE WHAT IT READS IS OF BULK AT MOST 1048576: true; the input reads as it did. -/
def fnSubstTermUptoRow : OpenClaim := { program := "ytcgolbkpfncgpaa", sum := "b161d340bfebe5190f987e88adccae29533f0c54887b37c6419d07acbe536b90", func := "loop.example/presburger/laws.FnSubstTerm", spec := "fnSubstTerm", apart := false, narrowed := true }
def FnSubstTermUptoSaid : Prop := fnSubstTermUptoRow.holds Try.pinned (OpenSpec.upto fnSubstTermSpec)

/-- 'laws.FnExactSubstTerm', WHERE WHAT IT READS IS OF BULK AT MOST 1048576: true; the input reads as it did. -/
def fnExactSubstTermUptoRow : OpenClaim := { program := "ytcgolbkpfncgpaa", sum := "b161d340bfebe5190f987e88adccae29533f0c54887b37c6419d07acbe536b90", func := "loop.example/presburger/laws.FnExactSubstTerm", spec := "fnExactSubstTerm", apart := false, narrowed := true }
def FnExactSubstTermUptoSaid : Prop := fnExactSubstTermUptoRow.holds Try.pinned (OpenSpec.upto fnExactSubstTermSpec)

/-- 'laws.FnExactSubstAtom', WHERE WHAT IT READS IS OF BULK AT MOST 1048576: true; the input reads as it did. -/
def fnExactSubstAtomUptoRow : OpenClaim := { program := "ytcgolbkpfncgpaa", sum := "b161d340bfebe5190f987e88adccae29533f0c54887b37c6419d07acbe536b90", func := "loop.example/presburger/laws.FnExactSubstAtom", spec := "fnExactSubstAtom", apart := false, narrowed := true }
def FnExactSubstAtomUptoSaid : Prop := fnExactSubstAtomUptoRow.holds Try.pinned (OpenSpec.upto fnExactSubstAtomSpec)

/-- 'laws.FnExactSubstFormula', WHERE WHAT IT READS IS OF BULK AT MOST 1048576: true; the input reads as it did. -/
def fnExactSubstFormulaUptoRow : OpenClaim := { program := "ytcgolbkpfncgpaa", sum := "b161d340bfebe5190f987e88adccae29533f0c54887b37c6419d07acbe536b90", func := "loop.example/presburger/laws.FnExactSubstFormula", spec := "fnExactSubstFormula", unfollowed := true, recurses := true, loops := true, apart := false, narrowed := true }
def FnExactSubstFormulaUptoSaid : Prop := fnExactSubstFormulaUptoRow.holds Try.pinned (OpenSpec.upto fnExactSubstFormulaSpec)

/-- 'laws.FnExactLowerBounds', WHERE WHAT IT READS IS OF BULK AT MOST 1048576: true; the input reads as it did. -/
def fnExactLowerBoundsUptoRow : OpenClaim := { program := "ytcgolbkpfncgpaa", sum := "b161d340bfebe5190f987e88adccae29533f0c54887b37c6419d07acbe536b90", func := "loop.example/presburger/laws.FnExactLowerBounds", spec := "fnExactLowerBounds", unfollowed := true, recurses := true, loops := true, apart := false, narrowed := true }
def FnExactLowerBoundsUptoSaid : Prop := fnExactLowerBoundsUptoRow.holds Try.pinned (OpenSpec.upto fnExactLowerBoundsSpec)

/-- 'laws.FnExactPeriodOf', WHERE WHAT IT READS IS OF BULK AT MOST 1048576: true; the input reads as it did. -/
def fnExactPeriodOfUptoRow : OpenClaim := { program := "ytcgolbkpfncgpaa", sum := "b161d340bfebe5190f987e88adccae29533f0c54887b37c6419d07acbe536b90", func := "loop.example/presburger/laws.FnExactPeriodOf", spec := "fnExactPeriodOf", unfollowed := true, recurses := true, loops := true, apart := false, narrowed := true }
def FnExactPeriodOfUptoSaid : Prop := fnExactPeriodOfUptoRow.holds Try.pinned (OpenSpec.upto fnExactPeriodOfSpec)

/-- 'laws.FnCapture', WHERE WHAT IT READS IS OF BULK AT MOST 1048576: true; the input reads as it did. -/
def fnCaptureUptoRow : OpenClaim := { program := "ytcgolbkpfncgpaa", sum := "b161d340bfebe5190f987e88adccae29533f0c54887b37c6419d07acbe536b90", func := "loop.example/presburger/laws.FnCapture", spec := "fnCapture", unfollowed := true, recurses := true, apart := false, narrowed := true }
def FnCaptureUptoSaid : Prop := fnCaptureUptoRow.holds Try.pinned (OpenSpec.upto fnCaptureSpec)

/-- 'laws.FnExactFormulaOfClauses', WHERE WHAT IT READS IS OF BULK AT MOST 1048576: true; the input reads as it did. -/
def fnExactFormulaOfClausesUptoRow : OpenClaim := { program := "ytcgolbkpfncgpaa", sum := "b161d340bfebe5190f987e88adccae29533f0c54887b37c6419d07acbe536b90", func := "loop.example/presburger/laws.FnExactFormulaOfClauses", spec := "fnExactFormulaOfClauses", unfollowed := true, recurses := true, apart := false, narrowed := true }
def FnExactFormulaOfClausesUptoSaid : Prop := fnExactFormulaOfClausesUptoRow.holds Try.pinned (OpenSpec.upto fnExactFormulaOfClausesSpec)

end Rows
end Go.Proofs.Ytcgolbkpfncgpaa
