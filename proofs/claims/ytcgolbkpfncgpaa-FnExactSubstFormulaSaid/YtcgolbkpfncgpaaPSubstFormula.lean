/- SubstFormula answers as its model does, for all arguments. No condition. -/
import Derived.Test.YtcgolbkpfncgpaaLift
import Derived.Test.YtcgolbkpfncgpaaLift3
import Derived.Test.YtcgolbkpfncgpaaSz
import Derived.Test.YtcgolbkpfncgpaaFact1
import Derived.Test.YtcgolbkpfncgpaaFact2
import Derived.Test.YtcgolbkpfncgpaaFact3
import Derived.JoinedOf
import Derived.JoinedAt
import Derived.RowKit3
namespace Go.Proofs.Ytcgolbkpfncgpaa
open Go.ChangeShapes Go.WideShapes Go.ChangeAt Go.RowKit Go.Joins

set_option maxRecDepth 100000 in
theorem fnExactSubstFormula_lifted (os : Os) (started : os.Started) (H : Type) (enc : TypeId × Value → H) :
    ReturnsInHanded {} Try.checked os 6 .any (Rows.fnExactSubstFormulaSpec.pre6 enc Try.prog Try.f6 Rows.fnExactSubstFormulaRow.domain false) (Rows.fnExactSubstFormulaSpec.post enc Try.prog Try.f6 false true false false) := by
  refine returnsInHanded_of_change (C := Try.checked) Try.own started (by kernel_rfl) Try.func6
    (ChangeSpec.witness6 (enc := enc) (C := Try.checked) false ⟨#[], #[.agg #[.int .i64 0, .int .i64 0, .int .i64 0, .int .i64 0, .int .i64 0, .int .i64 0, .int .i64 0, .int .i64 0, .int .i64 0, .slice none 0 0], .int .i64 0, .agg #[.int .i64 0, .int .i64 0, .int .i64 0, .int .i64 0, .int .i64 0]], []⟩ 8 (by kernel_rfl) (by kernel_rfl) (by kernel_rfl) (by kernel_rfl)) ?_
  intro W base args ds gs before hval0 hW _ _
  have hval : ∀ (j : Nat) t v, Try.f6.params[j]? = some t → args[j]? = some v → Value.okWide Try.prog W .any base t v := hval0
  have hW' := hW
  obtain ⟨p, q, hA0, hV, rfl, _, _⟩ := hW
  have hA : DataW.TrodAll enc Try.prog W 0 (fun _ => true) true Try.f6.params.toList args.toList ds p := hA0
  rw [Try.params6] at hA hval
  obtain ⟨v0, v1, v2, d0, d1, d2, p0, p1, p2, rfl, rfl, rfl, h0, h1, h2⟩ := trodAll_three hA
  obtain ⟨rfl, rfl⟩ := trodVars_none hV
  obtain ⟨k0, f0, s0, rfl, hf0⟩ := open_formula Try.underlying52 (by kernel_rfl) rfl rfl rfl rfl rfl rfl rfl rfl (by kernel_rfl) (by kernel_rfl) Try.underlying42 (by kernel_rfl) rfl rfl rfl rfl rfl rfl Try.underlying37 (by kernel_rfl) (by kernel_rfl) rfl Try.underlying3 (by kernel_rfl) Try.underlying50 (hval 0 52 v0 rfl rfl) h0
  obtain ⟨i1, rfl, rfl, rfl, _⟩ := open_int Try.underlying3 (hval 1 3 v1 rfl rfl) h1
  obtain ⟨xs2, hl2, rfl, _⟩ := open_ints_agg Try.underlying37 (by kernel_rfl) (by kernel_rfl) Try.underlying3 (by kernel_rfl) (hval 2 37 v2 rfl rfl) h2
  obtain ⟨a2, b2, c2, e2, n2, rfl⟩ := len5 hl2
  clear hA0 hval0
  refine (exactSubstFormula_walk k0 f0 ⟨i1, a2, b2, c2, e2, n2⟩ W _ s0 hf0).mono fun e W' ⟨he, hb⟩ => ⟨_, he, ?_⟩
  exact law_post Try.laidOut (by kernel_rfl) rfl rfl Try.underlying4 hW' rfl hb

theorem fnExactSubstFormula_holds : Rows.FnExactSubstFormulaSaid :=
  OpenClaim.holds_of_wide 6 Try.f6 rfl rfl rfl rfl rfl rfl rfl ⟨rfl, rfl, rfl, rfl, rfl⟩ rfl rfl rfl rfl rfl (by kernel_rfl) Try.func6 (by show joinedFacts Try.prog 6 Try.f6 Rows.fnExactSubstFormulaSpec Rows.fnExactSubstFormulaRow = true; unfold joinedFacts; rw [Try.mayEnterT, Try.liftsFinalF, Try.makeC]; kernel_rfl)
    (of_decide_eq_true (by kernel_rfl)) (by unfold Func.isWrapper; rw [if_neg (by decide +kernel)]; exact ⟨rfl, rfl⟩)
    (fun os started H enc _ => fnExactSubstFormula_lifted os started H enc)

end Go.Proofs.Ytcgolbkpfncgpaa
