/- BoundsAt answers as its model does, for all arguments. No condition. -/
import Derived.Test.YtmnppdkoehdplaaLift
import Derived.Test.YtmnppdkoehdplaaLift4
import Derived.Test.YtmnppdkoehdplaaLGBoundsAt
import Derived.Test.YtmnppdkoehdplaaFact1
import Derived.Test.YtmnppdkoehdplaaFact2
import Derived.Test.YtmnppdkoehdplaaFact3
import Derived.JoinedOf
import Derived.JoinedAt
import Derived.RowKit3
namespace Go.Proofs.Ytmnppdkoehdplaa
open Go.ChangeShapes Go.WideShapes Go.ChangeAt Go.RowKit Go.Joins

set_option maxRecDepth 100000 in
theorem fnExactBoundsAt_lifted (os : Os) (started : os.Started) (H : Type) (enc : TypeId × Value → H) :
    ReturnsInHanded {} Try.checked os 4 .any (Rows.fnExactBoundsAtSpec.pre6 enc Try.prog Try.f4 Rows.fnExactBoundsAtRow.domain false) (Rows.fnExactBoundsAtSpec.post enc Try.prog Try.f4 false true false false) := by
  refine returnsInHanded_of_change (C := Try.checked) Try.own started (by kernel_rfl) Try.func4
    (ChangeSpec.witness6 (enc := enc) (C := Try.checked) false ⟨#[], #[.slice none 0 0, .int .i64 0, .agg #[.int .i64 0, .int .i64 0, .int .i64 0, .int .i64 0]], []⟩ 8 (by kernel_rfl) (by kernel_rfl) (by kernel_rfl) (by kernel_rfl)) ?_
  intro W base args ds gs before hval0 hW _ _
  have hval : ∀ (j : Nat) t v, Try.f4.params[j]? = some t → args[j]? = some v → Value.okWide Try.prog W .any base t v := hval0
  have hW' := hW
  obtain ⟨p, q, hA0, hV, rfl, _, _⟩ := hW
  have hA : DataW.TrodAll enc Try.prog W 0 (fun _ => true) true Try.f4.params.toList args.toList ds p := hA0
  rw [Try.params4] at hA hval
  obtain ⟨v0, v1, v2, d0, d1, d2, p0, p1, p2, rfl, rfl, rfl, h0, h1, h2⟩ := trodAll_three hA
  obtain ⟨rfl, rfl⟩ := trodVars_none hV
  obtain ⟨L0, hL0⟩ := open_atoms Try.underlying46 (by kernel_rfl) rfl rfl rfl rfl rfl rfl (by kernel_rfl) Try.underlying44 (by kernel_rfl) (by kernel_rfl) rfl Try.underlying3 (by kernel_rfl) Try.underlying22 (hval 0 22 v0 rfl rfl) h0
  obtain ⟨i1, rfl, rfl, rfl, _⟩ := open_int Try.underlying3 (hval 1 3 v1 rfl rfl) h1
  obtain ⟨xs2, hl2, rfl, _⟩ := open_ints_agg Try.underlying30 (by kernel_rfl) (by kernel_rfl) Try.underlying3 (by kernel_rfl) (hval 2 30 v2 rfl rfl) h2
  obtain ⟨a2, b2, c2, e2, rfl⟩ := len4 hl2
  clear hA0 hval0
  refine (exactBoundsAt_walk v0 i1 a2 b2 c2 e2 L0 W hL0).mono fun e W' ⟨he, hb⟩ => ⟨_, he, ?_⟩
  exact law_post Try.laidOut (by kernel_rfl) rfl rfl Try.underlying4 hW' rfl hb

theorem fnExactBoundsAt_holds : Rows.FnExactBoundsAtSaid :=
  OpenClaim.holds_of_wide 4 Try.f4 rfl rfl rfl rfl rfl rfl rfl ⟨rfl, rfl, rfl, rfl, rfl⟩ rfl rfl rfl rfl rfl (by kernel_rfl) Try.func4 (by show joinedFacts Try.prog 4 Try.f4 Rows.fnExactBoundsAtSpec Rows.fnExactBoundsAtRow = true; unfold joinedFacts; rw [Try.mayEnterT, Try.liftsFinalF, Try.makeC]; kernel_rfl)
    (of_decide_eq_true (by kernel_rfl)) (by unfold Func.isWrapper; rw [if_neg (by decide +kernel)]; exact ⟨rfl, rfl⟩)
    (fun os started H enc _ => fnExactBoundsAt_lifted os started H enc)

end Go.Proofs.Ytmnppdkoehdplaa
