/-
  No cell of these rows narrows 'for every input' (looked for: loops, veiled, ifaces, maps, wideKeys, modest, calm, conditions, laid).
  DERIVED. THE GIVEN ROWS OF THIS SEAT. 3 by the template 'for every input the law returns true; each argument reads behind the call as it read before'; 0 by the template 'total and deterministic' (their statements: YtmnppdkoehdplaaTotals.lean).
  GIVEN WITH THE SEED: the statements are not yours to turn. If you find one false, say at which input.
  Laid BY PROGRAM, IN A SANDBOX (cutbox-rows.mjs): the forced cells as the released guide's own fill.sh prints them over the translation b04b296bb0708846… (all of the seat's roots in one cut). By AI agents, Wed Nov 11 2026. No macro, syntax, notation, axiom, sorry.
-/
import Derived.Test.YtmnppdkoehdplaaChecked
import GoSem.Claim
import GoSem.ClaimJoined
import GoSem.ClaimMapViews
import Derived.JoinedTies
import Derived.KernelRfl
namespace Go.Proofs.Ytmnppdkoehdplaa
/- THE CELL 'sum', in the pinned program and in every row, IS THE sha256 OF THE DUMP (.gsa) THAT YtmnppdkoehdplaaProg.lean LOADS. Nothing in Lean hashes anything: it is a label: what it is worth is what the hold of that sum in a sandbox is worth. -/
noncomputable def Try.pinned : Pinned := { name := "ytmnppdkoehdplaa", sum := "b04b296bb07088461c335a21762e286a946f711602ed4e3750e100da943085f4", checked := Try.checked }
namespace Rows
def none {H : Type} : Left H := { results := [], args := [] }

/-- 'laws.FnExactSystemValid': WHATEVER THE INPUT: true; the input reads as it did. -/
def fnExactSystemValidSpec : ChangeSpec := { name := "fnExactSystemValid", fn := fun _ => fun
  | [d] => { results := [.lit (.bool true)], args := [d] }
  | _ => none }
def fnExactSystemValidRow : OpenClaim := { program := "ytmnppdkoehdplaa", sum := "b04b296bb07088461c335a21762e286a946f711602ed4e3750e100da943085f4", func := "loop.example/presburger/laws.FnExactSystemValid", spec := "fnExactSystemValid", apart := false }
def FnExactSystemValidSaid : Prop := fnExactSystemValidRow.holds Try.pinned (OpenSpec.ofChange fnExactSystemValidSpec)

/-- ITS FALSE NEIGHBOUR: 'it returns false'. Refute it at one input. -/
def fnExactSystemValidWrong : ChangeSpec := { name := "fnExactSystemValid", fn := fun _ => fun
  | [d] => { results := [.lit (.bool false)], args := [d] }
  | _ => none }
def FnExactSystemValidWrongFalsely : Prop := fnExactSystemValidRow.holds Try.pinned (OpenSpec.ofChange fnExactSystemValidWrong)

/-- 'laws.FnExactBoundsAt': WHATEVER THE INPUT: true; the input reads as it did. -/
def fnExactBoundsAtSpec : ChangeSpec := { name := "fnExactBoundsAt", fn := fun _ => fun
  | [d1, d2, d3] => { results := [.lit (.bool true)], args := [d1, d2, d3] }
  | _ => none }
def fnExactBoundsAtRow : OpenClaim := { program := "ytmnppdkoehdplaa", sum := "b04b296bb07088461c335a21762e286a946f711602ed4e3750e100da943085f4", func := "loop.example/presburger/laws.FnExactBoundsAt", spec := "fnExactBoundsAt", unfollowed := true, recurses := true, apart := false }
def FnExactBoundsAtSaid : Prop := fnExactBoundsAtRow.holds Try.pinned (OpenSpec.ofChange fnExactBoundsAtSpec)

/-- ITS FALSE NEIGHBOUR: 'it returns false'. Refute it at one input. -/
def fnExactBoundsAtWrong : ChangeSpec := { name := "fnExactBoundsAt", fn := fun _ => fun
  | [d1, d2, d3] => { results := [.lit (.bool false)], args := [d1, d2, d3] }
  | _ => none }
def FnExactBoundsAtWrongFalsely : Prop := fnExactBoundsAtRow.holds Try.pinned (OpenSpec.ofChange fnExactBoundsAtWrong)

/-- 'laws.FnExactExactVar': WHATEVER THE INPUT: true; the input reads as it did. -/
def fnExactExactVarSpec : ChangeSpec := { name := "fnExactExactVar", fn := fun _ => fun
  | [d1, d2] => { results := [.lit (.bool true)], args := [d1, d2] }
  | _ => none }
def fnExactExactVarRow : OpenClaim := { program := "ytmnppdkoehdplaa", sum := "b04b296bb07088461c335a21762e286a946f711602ed4e3750e100da943085f4", func := "loop.example/presburger/laws.FnExactExactVar", spec := "fnExactExactVar", unfollowed := true, recurses := true, apart := false }
def FnExactExactVarSaid : Prop := fnExactExactVarRow.holds Try.pinned (OpenSpec.ofChange fnExactExactVarSpec)

/-- ITS FALSE NEIGHBOUR: 'it returns false'. Refute it at one input. -/
def fnExactExactVarWrong : ChangeSpec := { name := "fnExactExactVar", fn := fun _ => fun
  | [d1, d2] => { results := [.lit (.bool false)], args := [d1, d2] }
  | _ => none }
def FnExactExactVarWrongFalsely : Prop := fnExactExactVarRow.holds Try.pinned (OpenSpec.ofChange fnExactExactVarWrong)

/- THE SECOND FORM. 'bulk': how many values and letters a reading holds, each counted each time it is reached (what is shared counts as often as it is met; a slice's spare places count too). A statement '..UptoSaid' is the law's where the arguments, and the package variables that the reading takes, are together of bulk at most 1048576: NARROWER than '..Said'. Prove '..Said' where nothing that the law and all that it calls make is longer than what came in: it says more and counts as full. Else prove '..UptoSaid'. A law counts once. -/
mutual
def uptoBulk {H : Type} : DataW H → Nat
  | .lit (.string bytes) => bytes.length + 1
  | .lit _ => 1
  | .nil => 1
  | .ptr d => uptoBulk d + 1
  | .slice elems spare => uptoBulkAll elems + uptoBulkAll spare + 1
  | .agg parts => uptoBulkAll parts + 1
  | .iface _ d => uptoBulk d + 1
  | .map entries => uptoBulkEntries entries + 1
  | .held _ => 1
def uptoBulkAll {H : Type} : List (DataW H) → Nat
  | [] => 0
  | d :: r => uptoBulk d + uptoBulkAll r
def uptoBulkEntries {H : Type} : List (Lit × DataW H) → Nat
  | [] => 0
  | x :: r => uptoBulkEntry x + uptoBulkEntries r
def uptoBulkEntry {H : Type} : Lit × DataW H → Nat
  | (.string bytes, d) => bytes.length + uptoBulk d + 1
  | (_, d) => uptoBulk d + 1
 end
def uptoSmall : (H : Type) → List (DataW H) → Bool := fun _ ds => decide (uptoBulkAll ds ≤ 1048576)
def OpenSpec.upto (s : _root_.Go.ChangeSpec) : _root_.Go.OpenSpec := { _root_.Go.OpenSpec.ofChange s with cond := some uptoSmall }

/-- 'laws.FnExactSystemValid', WHERE WHAT IT READS IS OF BULK AT MOST 1048576: true; the input reads as it did. -/
def fnExactSystemValidUptoRow : OpenClaim := { program := "ytmnppdkoehdplaa", sum := "b04b296bb07088461c335a21762e286a946f711602ed4e3750e100da943085f4", func := "loop.example/presburger/laws.FnExactSystemValid", spec := "fnExactSystemValid", apart := false, narrowed := true }
def FnExactSystemValidUptoSaid : Prop := fnExactSystemValidUptoRow.holds Try.pinned (OpenSpec.upto fnExactSystemValidSpec)

/-- 'laws.FnExactBoundsAt', WHERE WHAT IT READS IS OF BULK AT MOST 1048576: true; the input reads as it did. -/
def fnExactBoundsAtUptoRow : OpenClaim := { program := "ytmnppdkoehdplaa", sum := "b04b296bb07088461c335a21762e286a946f711602ed4e3750e100da943085f4", func := "loop.example/presburger/laws.FnExactBoundsAt", spec := "fnExactBoundsAt", unfollowed := true, recurses := true, apart := false, narrowed := true }
def FnExactBoundsAtUptoSaid : Prop := fnExactBoundsAtUptoRow.holds Try.pinned (OpenSpec.upto fnExactBoundsAtSpec)

/-- 'laws.FnExactExactVar', WHERE WHAT IT READS IS OF BULK AT MOST 1048576: true; the input reads as it did. -/
def fnExactExactVarUptoRow : OpenClaim := { program := "ytmnppdkoehdplaa", sum := "b04b296bb07088461c335a21762e286a946f711602ed4e3750e100da943085f4", func := "loop.example/presburger/laws.FnExactExactVar", spec := "fnExactExactVar", unfollowed := true, recurses := true, apart := false, narrowed := true }
def FnExactExactVarUptoSaid : Prop := fnExactExactVarUptoRow.holds Try.pinned (OpenSpec.upto fnExactExactVarSpec)

end Rows
end Go.Proofs.Ytmnppdkoehdplaa
