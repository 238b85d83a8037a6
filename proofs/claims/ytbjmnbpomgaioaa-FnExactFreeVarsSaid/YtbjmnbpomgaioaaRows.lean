/-
  NARROWER THAN 'FOR EVERY INPUT', by the rows' own cells (each row's printed sentence says how): FnExactFormulaValid: loops · FnExactNodeCount: loops · FnExactNestedCount: loops · FnExactFreeVars: loops · FnExactIsOpen: loops · FnExactAtomsOf: loops · FnExactJoinAll: loops · FnExactJoinAny: loops.
  DERIVED. THE GIVEN ROWS OF THIS SEAT. 11 by the template 'for every input the law returns true; each argument reads behind the call as it read before'; 0 by the template 'total and deterministic' (their statements: YtbjmnbpomgaioaaTotals.lean).
  GIVEN WITH THE SEED: the statements are not yours to turn. If you find one false, say at which input.
  Laid BY PROGRAM, IN A SANDBOX (cutbox-rows.mjs): the forced cells as the released guide's own fill.sh prints them over the translation c03ffb1747269474… (all of the seat's roots in one cut). By AI agents, Wed Nov 11 2026. No macro, syntax, notation, axiom, sorry.
-/
import Derived.Test.YtbjmnbpomgaioaaChecked
import GoSem.Claim
import GoSem.ClaimJoined
import GoSem.ClaimMapViews
import Derived.JoinedTies
import Derived.KernelRfl
namespace Go.Proofs.Ytbjmnbpomgaioaa
/- THE CELL 'sum', in the pinned program and in every row, IS THE sha256 OF THE DUMP (.gsa) THAT YtbjmnbpomgaioaaProg.lean LOADS. Nothing in Lean hashes anything: it is a label: what it is worth is what the hold of that sum in a sandbox is worth. -/
noncomputable def Try.pinned : Pinned := { name := "ytbjmnbpomgaioaa", sum := "c03ffb1747269474b51b1a67c96e0c640cf2ac8fed5d174584d680617e8144cd", checked := Try.checked }
namespace Rows
def none {H : Type} : Left H := { results := [], args := [] }

/-- 'laws.FnWithValue': WHATEVER THE INPUT: true; the input reads as it did. -/
def fnWithValueSpec : ChangeSpec := { name := "fnWithValue", fn := fun _ => fun
  | [d] => { results := [.lit (.bool true)], args := [d] }
  | _ => none }
def fnWithValueRow : OpenClaim := { program := "ytbjmnbpomgaioaa", sum := "c03ffb1747269474b51b1a67c96e0c640cf2ac8fed5d174584d680617e8144cd", func := "loop.example/presburger/laws.FnWithValue", spec := "fnWithValue", apart := false }
def FnWithValueSaid : Prop := fnWithValueRow.holds Try.pinned (OpenSpec.ofChange fnWithValueSpec)

/-- ITS FALSE NEIGHBOUR: 'it returns false'. Refute it at one input. -/
def fnWithValueWrong : ChangeSpec := { name := "fnWithValue", fn := fun _ => fun
  | [d] => { results := [.lit (.bool false)], args := [d] }
  | _ => none }
def FnWithValueWrongFalsely : Prop := fnWithValueRow.holds Try.pinned (OpenSpec.ofChange fnWithValueWrong)

/-- 'laws.FnExactNegateAtom': WHATEVER THE INPUT: true; the input reads as it did. -/
def fnExactNegateAtomSpec : ChangeSpec := { name := "fnExactNegateAtom", fn := fun _ => fun
  | [d] => { results := [.lit (.bool true)], args := [d] }
  | _ => none }
def fnExactNegateAtomRow : OpenClaim := { program := "ytbjmnbpomgaioaa", sum := "c03ffb1747269474b51b1a67c96e0c640cf2ac8fed5d174584d680617e8144cd", func := "loop.example/presburger/laws.FnExactNegateAtom", spec := "fnExactNegateAtom", apart := false }
def FnExactNegateAtomSaid : Prop := fnExactNegateAtomRow.holds Try.pinned (OpenSpec.ofChange fnExactNegateAtomSpec)

/-- ITS FALSE NEIGHBOUR: 'it returns false'. Refute it at one input. -/
def fnExactNegateAtomWrong : ChangeSpec := { name := "fnExactNegateAtom", fn := fun _ => fun
  | [d] => { results := [.lit (.bool false)], args := [d] }
  | _ => none }
def FnExactNegateAtomWrongFalsely : Prop := fnExactNegateAtomRow.holds Try.pinned (OpenSpec.ofChange fnExactNegateAtomWrong)

/-- 'laws.FnExactSplitZero': WHATEVER THE INPUT: true; the input reads as it did. -/
def fnExactSplitZeroSpec : ChangeSpec := { name := "fnExactSplitZero", fn := fun _ => fun
  | [d] => { results := [.lit (.bool true)], args := [d] }
  | _ => none }
def fnExactSplitZeroRow : OpenClaim := { program := "ytbjmnbpomgaioaa", sum := "c03ffb1747269474b51b1a67c96e0c640cf2ac8fed5d174584d680617e8144cd", func := "loop.example/presburger/laws.FnExactSplitZero", spec := "fnExactSplitZero", apart := false }
def FnExactSplitZeroSaid : Prop := fnExactSplitZeroRow.holds Try.pinned (OpenSpec.ofChange fnExactSplitZeroSpec)

/-- ITS FALSE NEIGHBOUR: 'it returns false'. Refute it at one input. -/
def fnExactSplitZeroWrong : ChangeSpec := { name := "fnExactSplitZero", fn := fun _ => fun
  | [d] => { results := [.lit (.bool false)], args := [d] }
  | _ => none }
def FnExactSplitZeroWrongFalsely : Prop := fnExactSplitZeroRow.holds Try.pinned (OpenSpec.ofChange fnExactSplitZeroWrong)

/-- 'laws.FnExactFormulaValid': WHATEVER THE INPUT: true; the input reads as it did. -/
def fnExactFormulaValidSpec : ChangeSpec := { name := "fnExactFormulaValid", fn := fun _ => fun
  | [d] => { results := [.lit (.bool true)], args := [d] }
  | _ => none }
def fnExactFormulaValidRow : OpenClaim := { program := "ytbjmnbpomgaioaa", sum := "c03ffb1747269474b51b1a67c96e0c640cf2ac8fed5d174584d680617e8144cd", func := "loop.example/presburger/laws.FnExactFormulaValid", spec := "fnExactFormulaValid", recurses := true, loops := true, apart := false }
def FnExactFormulaValidSaid : Prop := fnExactFormulaValidRow.holds Try.pinned (OpenSpec.ofChange fnExactFormulaValidSpec)

/-- ITS FALSE NEIGHBOUR: 'it returns false'. Refute it at one input. -/
def fnExactFormulaValidWrong : ChangeSpec := { name := "fnExactFormulaValid", fn := fun _ => fun
  | [d] => { results := [.lit (.bool false)], args := [d] }
  | _ => none }
def FnExactFormulaValidWrongFalsely : Prop := fnExactFormulaValidRow.holds Try.pinned (OpenSpec.ofChange fnExactFormulaValidWrong)

/-- 'laws.FnExactNodeCount': WHATEVER THE INPUT: true; the input reads as it did. -/
def fnExactNodeCountSpec : ChangeSpec := { name := "fnExactNodeCount", fn := fun _ => fun
  | [d] => { results := [.lit (.bool true)], args := [d] }
  | _ => none }
def fnExactNodeCountRow : OpenClaim := { program := "ytbjmnbpomgaioaa", sum := "c03ffb1747269474b51b1a67c96e0c640cf2ac8fed5d174584d680617e8144cd", func := "loop.example/presburger/laws.FnExactNodeCount", spec := "fnExactNodeCount", unfollowed := true, recurses := true, loops := true, apart := false }
def FnExactNodeCountSaid : Prop := fnExactNodeCountRow.holds Try.pinned (OpenSpec.ofChange fnExactNodeCountSpec)

/-- ITS FALSE NEIGHBOUR: 'it returns false'. Refute it at one input. -/
def fnExactNodeCountWrong : ChangeSpec := { name := "fnExactNodeCount", fn := fun _ => fun
  | [d] => { results := [.lit (.bool false)], args := [d] }
  | _ => none }
def FnExactNodeCountWrongFalsely : Prop := fnExactNodeCountRow.holds Try.pinned (OpenSpec.ofChange fnExactNodeCountWrong)

/-- 'laws.FnExactNestedCount': WHATEVER THE INPUT: true; the input reads as it did. -/
def fnExactNestedCountSpec : ChangeSpec := { name := "fnExactNestedCount", fn := fun _ => fun
  | [d] => { results := [.lit (.bool true)], args := [d] }
  | _ => none }
def fnExactNestedCountRow : OpenClaim := { program := "ytbjmnbpomgaioaa", sum := "c03ffb1747269474b51b1a67c96e0c640cf2ac8fed5d174584d680617e8144cd", func := "loop.example/presburger/laws.FnExactNestedCount", spec := "fnExactNestedCount", unfollowed := true, recurses := true, loops := true, apart := false }
def FnExactNestedCountSaid : Prop := fnExactNestedCountRow.holds Try.pinned (OpenSpec.ofChange fnExactNestedCountSpec)

/-- ITS FALSE NEIGHBOUR: 'it returns false'. Refute it at one input. -/
def fnExactNestedCountWrong : ChangeSpec := { name := "fnExactNestedCount", fn := fun _ => fun
  | [d] => { results := [.lit (.bool false)], args := [d] }
  | _ => none }
def FnExactNestedCountWrongFalsely : Prop := fnExactNestedCountRow.holds Try.pinned (OpenSpec.ofChange fnExactNestedCountWrong)

/-- 'laws.FnExactFreeVars': WHATEVER THE INPUT: true; the input reads as it did. -/
def fnExactFreeVarsSpec : ChangeSpec := { name := "fnExactFreeVars", fn := fun _ => fun
  | [d] => { results := [.lit (.bool true)], args := [d] }
  | _ => none }
def fnExactFreeVarsRow : OpenClaim := { program := "ytbjmnbpomgaioaa", sum := "c03ffb1747269474b51b1a67c96e0c640cf2ac8fed5d174584d680617e8144cd", func := "loop.example/presburger/laws.FnExactFreeVars", spec := "fnExactFreeVars", unfollowed := true, recurses := true, loops := true, apart := false }
def FnExactFreeVarsSaid : Prop := fnExactFreeVarsRow.holds Try.pinned (OpenSpec.ofChange fnExactFreeVarsSpec)

/-- ITS FALSE NEIGHBOUR: 'it returns false'. Refute it at one input. -/
def fnExactFreeVarsWrong : ChangeSpec := { name := "fnExactFreeVars", fn := fun _ => fun
  | [d] => { results := [.lit (.bool false)], args := [d] }
  | _ => none }
def FnExactFreeVarsWrongFalsely : Prop := fnExactFreeVarsRow.holds Try.pinned (OpenSpec.ofChange fnExactFreeVarsWrong)

/-- 'laws.FnExactIsOpen': WHATEVER THE INPUT: true; the input reads as it did. -/
def fnExactIsOpenSpec : ChangeSpec := { name := "fnExactIsOpen", fn := fun _ => fun
  | [d] => { results := [.lit (.bool true)], args := [d] }
  | _ => none }
def fnExactIsOpenRow : OpenClaim := { program := "ytbjmnbpomgaioaa", sum := "c03ffb1747269474b51b1a67c96e0c640cf2ac8fed5d174584d680617e8144cd", func := "loop.example/presburger/laws.FnExactIsOpen", spec := "fnExactIsOpen", unfollowed := true, recurses := true, loops := true, apart := false }
def FnExactIsOpenSaid : Prop := fnExactIsOpenRow.holds Try.pinned (OpenSpec.ofChange fnExactIsOpenSpec)

/-- ITS FALSE NEIGHBOUR: 'it returns false'. Refute it at one input. -/
def fnExactIsOpenWrong : ChangeSpec := { name := "fnExactIsOpen", fn := fun _ => fun
  | [d] => { results := [.lit (.bool false)], args := [d] }
  | _ => none }
def FnExactIsOpenWrongFalsely : Prop := fnExactIsOpenRow.holds Try.pinned (OpenSpec.ofChange fnExactIsOpenWrong)

/-- 'laws.FnExactAtomsOf': WHATEVER THE INPUT: true; the input reads as it did. -/
def fnExactAtomsOfSpec : ChangeSpec := { name := "fnExactAtomsOf", fn := fun _ => fun
  | [d] => { results := [.lit (.bool true)], args := [d] }
  | _ => none }
def fnExactAtomsOfRow : OpenClaim := { program := "ytbjmnbpomgaioaa", sum := "c03ffb1747269474b51b1a67c96e0c640cf2ac8fed5d174584d680617e8144cd", func := "loop.example/presburger/laws.FnExactAtomsOf", spec := "fnExactAtomsOf", unfollowed := true, recurses := true, loops := true, apart := false }
def FnExactAtomsOfSaid : Prop := fnExactAtomsOfRow.holds Try.pinned (OpenSpec.ofChange fnExactAtomsOfSpec)

/-- ITS FALSE NEIGHBOUR: 'it returns false'. Refute it at one input. -/
def fnExactAtomsOfWrong : ChangeSpec := { name := "fnExactAtomsOf", fn := fun _ => fun
  | [d] => { results := [.lit (.bool false)], args := [d] }
  | _ => none }
def FnExactAtomsOfWrongFalsely : Prop := fnExactAtomsOfRow.holds Try.pinned (OpenSpec.ofChange fnExactAtomsOfWrong)

/-- 'laws.FnExactJoinAll': WHATEVER THE INPUT: true; the input reads as it did. -/
def fnExactJoinAllSpec : ChangeSpec := { name := "fnExactJoinAll", fn := fun _ => fun
  | [d] => { results := [.lit (.bool true)], args := [d] }
  | _ => none }
def fnExactJoinAllRow : OpenClaim := { program := "ytbjmnbpomgaioaa", sum := "c03ffb1747269474b51b1a67c96e0c640cf2ac8fed5d174584d680617e8144cd", func := "loop.example/presburger/laws.FnExactJoinAll", spec := "fnExactJoinAll", unfollowed := true, recurses := true, loops := true, apart := false }
def FnExactJoinAllSaid : Prop := fnExactJoinAllRow.holds Try.pinned (OpenSpec.ofChange fnExactJoinAllSpec)

/-- ITS FALSE NEIGHBOUR: 'it returns false'. Refute it at one input. -/
def fnExactJoinAllWrong : ChangeSpec := { name := "fnExactJoinAll", fn := fun _ => fun
  | [d] => { results := [.lit (.bool false)], args := [d] }
  | _ => none }
def FnExactJoinAllWrongFalsely : Prop := fnExactJoinAllRow.holds Try.pinned (OpenSpec.ofChange fnExactJoinAllWrong)

/-- 'laws.FnExactJoinAny': WHATEVER THE INPUT: true; the input reads as it did. -/
def fnExactJoinAnySpec : ChangeSpec := { name := "fnExactJoinAny", fn := fun _ => fun
  | [d] => { results := [.lit (.bool true)], args := [d] }
  | _ => none }
def fnExactJoinAnyRow : OpenClaim := { program := "ytbjmnbpomgaioaa", sum := "c03ffb1747269474b51b1a67c96e0c640cf2ac8fed5d174584d680617e8144cd", func := "loop.example/presburger/laws.FnExactJoinAny", spec := "fnExactJoinAny", unfollowed := true, recurses := true, loops := true, apart := false }
def FnExactJoinAnySaid : Prop := fnExactJoinAnyRow.holds Try.pinned (OpenSpec.ofChange fnExactJoinAnySpec)

/-- ITS FALSE NEIGHBOUR: 'it returns false'. Refute it at one input. -/
def fnExactJoinAnyWrong : ChangeSpec := { name := "fnExactJoinAny", fn := fun _ => fun
  | [d] => { results := [.lit (.bool false)], args := [d] }
  | _ => none }
def FnExactJoinAnyWrongFalsely : Prop := fnExactJoinAnyRow.holds Try.pinned (OpenSpec.ofChange fnExactJoinAnyWrong)

/- THE SECOND FORM. 'bulk': how many values and letters a reading holds, each counted each time it is reached (what is shared counts as often as it is met; a slice's spare places count too). A statement '..UptoSaid' is the law's where the arguments, and the package variables that the reading takes, are together of bulk at most 1048576: NARROWER than '..Said'. Prove '..Said' where nothing that the law and all that it calls make is longer than what came in: it says more and counts as full. Else prove '..UptoSaid'. A law counts once. -/
mutual
def uptoBulk {H : Type} : DataW H → Nat
  | .lit (.string bytes) => bytes.length + 1
  | .lit _ => 1
  | .nil => 1
  | .ptr d => uptoBulk d + 1
  | .slice elems spare => uptoBulkAll elems + uptoBulkAll spare + 1
  | .agg parts => uptoBulkAll parts + 1
  | .iface _ d => uptoBulk d + 1
  | .map entries => uptoBulkEntries entries + 1
  | .held _ => 1
def uptoBulkAll {H : Type} : List (DataW H) → Nat
  | [] => 0
  | d :: r => uptoBulk d + uptoBulkAll r
def uptoBulkEntries {H : Type} : List (Lit × DataW H) → Nat
  | [] => 0
  | x :: r => uptoBulkEntry x + uptoBulkEntries r
def uptoBulkEntry {H : Type} : Lit × DataW H → Nat
  | (.string bytes, d) => bytes.length + uptoBulk d + 1
  | (_, d) => uptoBulk d + 1
 end
def uptoSmall : (H : Type) → List (DataW H) → Bool := fun _ ds => decide (uptoBulkAll ds ≤ 1048576)
def OpenSpec.upto (s : _root_.Go.ChangeSpec) : _root_.Go.OpenSpec := { _root_.Go.OpenSpec.ofChange s with cond := some uptoSmall }

/-- 'laws.FnWithValue', WHERE WHAT IT READS IS OF BULK AT MOST 1048576: true; the input reads as it did. -/
def fnWithValueUptoRow : OpenClaim := { program := "ytbjmnbpomgaioaa", sum := "c03ffb1747269474b51b1a67c96e0c640cf2ac8fed5d174584d680617e8144cd", func := "loop.example/presburger/laws.FnWithValue", spec := "fnWithValue", apart := false, narrowed := true }
def FnWithValueUptoSaid : Prop := fnWithValueUptoRow.holds Try.pinned (OpenSpec.upto fnWithValueSpec)

/-- 'laws.FnExactNegateAtom', WHERE WHAT IT READS IS OF BULK AT MOST 1048576: true; the input reads as it did. -/
def fnExactNegateAtomUptoRow : OpenClaim := { program := "ytbjmnbpomgaioaa", sum := "c03ffb1747269474b51b1a67c96e0c640cf2ac8fed5d174584d680617e8144cd", func := "loop.example/presburger/laws.FnExactNegateAtom", spec := "fnExactNegateAtom", apart := false, narrowed := true }
def FnExactNegateAtomUptoSaid : Prop := fnExactNegateAtomUptoRow.holds Try.pinned (OpenSpec.upto fnExactNegateAtomSpec)

/-- 'laws.FnExactSplitZero', WHERE WHAT IT READS IS OF BULK AT MOST 1048576: true; the input reads as it did. -/
def fnExactSplitZeroUptoRow : OpenClaim := { program := "ytbjmnbpomgaioaa", sum := "c03ffb1747269474b51b1a67c96e0c640cf2ac8fed5d174584d680617e8144cd", func := "loop.example/presburger/laws.FnExactSplitZero", spec := "fnExactSplitZero", apart := false, narrowed := true }
def FnExactSplitZeroUptoSaid : Prop := fnExactSplitZeroUptoRow.holds Try.pinned (OpenSpec.upto fnExactSplitZeroSpec)

/-- 'laws.FnExactFormulaValid', WHERE WHAT IT READS IS OF BULK AT MOST 1048576: true; the input reads as it did. -/
def fnExactFormulaValidUptoRow : OpenClaim := { program := "ytbjmnbpomgaioaa", sum := "c03ffb1747269474b51b1a67c96e0c640cf2ac8fed5d174584d680617e8144cd", func := "loop.example/presburger/laws.FnExactFormulaValid", spec := "fnExactFormulaValid", recurses := true, loops := true, apart := false, narrowed := true }
def FnExactFormulaValidUptoSaid : Prop := fnExactFormulaValidUptoRow.holds Try.pinned (OpenSpec.upto fnExactFormulaValidSpec)

/-- 'laws.FnExactNodeCount', WHERE WHAT IT READS IS OF BULK AT MOST 1048576: true; the input reads as it did. -/
def fnExactNodeCountUptoRow : OpenClaim := { program := "ytbjmnbpomgaioaa", sum := "c03ffb1747269474b51b1a67c96e0c640cf2ac8fed5d174584d680617e8144cd", func := "loop.example/presburger/laws.FnExactNodeCount", spec := "fnExactNodeCount", unfollowed := true, recurses := true, loops := true, apart := false, narrowed := true }
def FnExactNodeCountUptoSaid : Prop := fnExactNodeCountUptoRow.holds Try.pinned (OpenSpec.upto fnExactNodeCountSpec)

/-- 'laws.FnExactNestedCount', WHERE WHAT IT READS IS OF BULK AT MOST 1048576: true; the input reads as it did. -/
def fnExactNestedCountUptoRow : OpenClaim := { program := "ytbjmnbpomgaioaa", sum := "c03ffb1747269474b51b1a67c96e0c640cf2ac8fed5d174584d680617e8144cd", func := "loop.example/presburger/laws.FnExactNestedCount", spec := "fnExactNestedCount", unfollowed := true, recurses := true, loops := true, apart := false, narrowed := true }
def FnExactNestedCountUptoSaid : Prop := fnExactNestedCountUptoRow.holds Try.pinned (OpenSpec.upto fnExactNestedCountSpec)

/-- 'laws.FnExactFreeVars', WHERE WHAT IT READS IS OF BULK AT MOST 1048576: true; the input reads as it did. -/
def fnExactFreeVarsUptoRow : OpenClaim := { program := "ytbjmnbpomgaioaa", sum := "c03ffb1747269474b51b1a67c96e0c640cf2ac8fed5d174584d680617e8144cd", func := "loop.example/presburger/laws.FnExactFreeVars", spec := "fnExactFreeVars", unfollowed := true, recurses := true, loops := true, apart := false, narrowed := true }
def FnExactFreeVarsUptoSaid : Prop := fnExactFreeVarsUptoRow.holds Try.pinned (OpenSpec.upto fnExactFreeVarsSpec)

/-- 'laws.FnExactIsOpen', WHERE WHAT IT READS IS OF BULK AT MOST 1048576: true; the input reads as it did. -/
def fnExactIsOpenUptoRow : OpenClaim := { program := "ytbjmnbpomgaioaa", sum := "c03ffb1747269474b51b1a67c96e0c640cf2ac8fed5d174584d680617e8144cd", func := "loop.example/presburger/laws.FnExactIsOpen", spec := "fnExactIsOpen", unfollowed := true, recurses := true, loops := true, apart := false, narrowed := true }
def FnExactIsOpenUptoSaid : Prop := fnExactIsOpenUptoRow.holds Try.pinned (OpenSpec.upto fnExactIsOpenSpec)

/-- 'laws.FnExactAtomsOf', WHERE WHAT IT READS IS OF BULK AT MOST 1048576: true; the input reads as it did. -/
def fnExactAtomsOfUptoRow : OpenClaim := { program := "ytbjmnbpomgaioaa", sum := "c03ffb1747269474b51b1a67c96e0c640cf2ac8fed5d174584d680617e8144cd", func := "loop.example/presburger/laws.FnExactAtomsOf", spec := "fnExactAtomsOf", unfollowed := true, recurses := true, loops := true, apart := false, narrowed := true }
def FnExactAtomsOfUptoSaid : Prop := fnExactAtomsOfUptoRow.holds Try.pinned (OpenSpec.upto fnExactAtomsOfSpec)

/-- 'laws.FnExactJoinAll', WHERE WHAT IT READS IS OF BULK AT MOST 1048576: true; the input reads as it did. -/
def fnExactJoinAllUptoRow : OpenClaim := { program := "ytbjmnbpomgaioaa", sum := "c03ffb1747269474b51b1a67c96e0c640cf2ac8fed5d174584d680617e8144cd", func := "loop.example/presburger/laws.FnExactJoinAll", spec := "fnExactJoinAll", unfollowed := true, recurses := true, loops := true, apart := false, narrowed := true }
def FnExactJoinAllUptoSaid : Prop := fnExactJoinAllUptoRow.holds Try.pinned (OpenSpec.upto fnExactJoinAllSpec)

/-- 'laws.FnExactJoinAny', WHERE WHAT IT READS IS OF BULK AT MOST 1048576: true; the input reads as it did. -/
def fnExactJoinAnyUptoRow : OpenClaim := { program := "ytbjmnbpomgaioaa", sum := "c03ffb1747269474b51b1a67c96e0c640cf2ac8fed5d174584d680617e8144cd", func := "loop.example/presburger/laws.FnExactJoinAny", spec := "fnExactJoinAny", unfollowed := true, recurses := true, loops := true, apart := false, narrowed := true }
def FnExactJoinAnyUptoSaid : Prop := fnExactJoinAnyUptoRow.holds Try.pinned (OpenSpec.upto fnExactJoinAnySpec)

end Rows
end Go.Proofs.Ytbjmnbpomgaioaa
