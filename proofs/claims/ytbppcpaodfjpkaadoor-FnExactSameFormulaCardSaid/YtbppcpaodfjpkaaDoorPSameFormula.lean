/- SameFormula answers as its model does, for all arguments (the law FnExactSameFormula returns true and leaves its argument as it was): the row and its tied card. Condition: the tables of strconv and math/bits that the row lists start as the program lays them, which the card ties to its text. -/
import Derived.Test.YtbppcpaodfjpkaaDoorLift
import Derived.Test.YtbppcpaodfjpkaaDoorLiftV
import Derived.Test.YtbppcpaodfjpkaaDoorLift3
import Derived.Test.YtbppcpaodfjpkaaDoorSa2
import Derived.Test.YtbppcpaodfjpkaaDoorLdTab4
import Derived.Test.YtbppcpaodfjpkaaDoorLdKw
import Derived.Test.YtbppcpaodfjpkaaDoorTie
import Derived.Test.YtbppcpaodfjpkaaDoorCards
import Derived.SevenTiedAt
import Derived.JoinedOf
import Derived.JoinedAt
import Derived.RowKit3
namespace Go.Proofs.YtbppcpaodfjpkaaDoor
open Go.ChangeShapes Go.WideShapes Go.ChangeAt Go.RowKit Go.Joins

set_option maxRecDepth 100000 in
theorem exactSameFormula_lifted (os : Os) (started : os.Started) (H : Type) (enc : TypeId × Value → H) :
    ReturnsInHanded {} Tryd.checked os 3 .any (fun w args => (Rows.fnExactSameFormulaSpec.pre enc Tryd.prog Tryd.f3 [] false w args ∧ laidMetH Tryd.prog laid4 w) ∧ sizedMet enc Tryd.prog Tryd.f3 (OpenSpec.ofChange Rows.fnExactSameFormulaSpec) false w args)
      (Rows.fnExactSameFormulaSpec.post enc Tryd.prog Tryd.f3 false true false false) := by
  refine returnsInHanded_of_change_and (C := Tryd.checked) (X := fun w _ => laidMetH Tryd.prog laid4 w) (fun _ _ _ hh h => h.of_heap hh) Tryd.own started (by kernel_rfl) Tryd.func3
    (ChangeSpec.witness_shaped (enc := enc) (C := Tryd.checked) (os := os) (X := fun w _ => laidMetH Tryd.prog laid4 w) false (World.doorLaid Tryd.prog 400 os) #[.agg #[.int .i64 0, .int .i64 0, .int .i64 0, .int .i64 0, .int .i64 0, .int .i64 0, .int .i64 0, .int .i64 0, .int .i64 0, .slice none 0 0], .agg #[.int .i64 0, .int .i64 0, .int .i64 0, .int .i64 0, .int .i64 0, .int .i64 0, .int .i64 0, .int .i64 0, .int .i64 0, .slice none 0 0]] 8 rfl (World.shaped_of_RefB (by kernel_rfl) (by kernel_rfl)) (by kernel_rfl) (by kernel_rfl) (by kernel_rfl) (door_met os _)) ?_
  intro W base args ds gs before hval0 hW _ _ hL _
  have hval : ∀ (j : Nat) t v, Tryd.f3.params[j]? = some t → args[j]? = some v → Value.okWide Tryd.prog W .any base t v := hval0
  have hW' := hW
  obtain ⟨p, q, hA0, hV, _, _, _⟩ := hW
  have hA : DataW.TrodAll enc Tryd.prog W 0 (fun _ => true) true Tryd.f3.params.toList args.toList ds p := hA0
  rw [Tryd.params3] at hA hval
  obtain ⟨v0, v1, d0, d1, p0, p1, rfl, rfl, rfl, h0, h1⟩ := trodAll_two hA
  obtain ⟨gg, tg, csg, fg, dg, pg, rfl, _, _, _, _, _⟩ := trodVars_one (n := "loop.example/presburger/impl.kindWords") hV
  obtain ⟨k0, f0, s0, rfl, hf0⟩ := open_formula Tryd.underlying28 (by kernel_rfl) rfl rfl rfl rfl rfl rfl rfl rfl (by kernel_rfl) (by kernel_rfl) Tryd.underlying25 (by kernel_rfl) rfl rfl rfl rfl rfl rfl Tryd.underlying23 (by kernel_rfl) (by kernel_rfl) rfl Tryd.underlying3 (by kernel_rfl) Tryd.underlying26 (hval 0 28 v0 rfl rfl) h0
  obtain ⟨k1, f1, s1, rfl, hf1⟩ := open_formula Tryd.underlying28 (by kernel_rfl) rfl rfl rfl rfl rfl rfl rfl rfl (by kernel_rfl) (by kernel_rfl) Tryd.underlying25 (by kernel_rfl) rfl rfl rfl rfl rfl rfl Tryd.underlying23 (by kernel_rfl) (by kernel_rfl) rfl Tryd.underlying3 (by kernel_rfl) Tryd.underlying26 (hval 1 28 v1 rfl rfl) h1
  clear hA0 hval0
  refine (exactSameFormula_walk k0 f0 k1 f1 W _ _ s0 s1 hf0 hf1 (words_of_laid hL) (tab_of_laid hL)).mono fun e W' ⟨he, hb⟩ => ⟨_, he, ?_⟩
  exact law_post1 (n := "loop.example/presburger/impl.kindWords") Tryd.laidOut (by kernel_rfl) rfl rfl Tryd.underlying4 (fun g t h1 h2 => by
    obtain rfl := Option.some.inj ((show Tryd.prog.globalNamed "loop.example/presburger/impl.kindWords" = some 0 by kernel_rfl).symm.trans h1)
    obtain rfl := Option.some.inj ((show (Tryd.prog.globals[0]?).map (·.type) = some 66 by kernel_rfl).symm.trans h2)
    exact ⟨by kernel_rfl, by decide +kernel⟩) hW' rfl hb

theorem exactSameFormula_holds : Rows.FnExactSameFormulaSaid :=
  OpenClaim.holds_of_wide 3 Tryd.f3 rfl rfl rfl rfl rfl rfl rfl ⟨rfl, rfl, rfl, rfl, rfl⟩ rfl rfl rfl rfl rfl (by kernel_rfl) Tryd.func3 (by kernel_rfl)
    (of_decide_eq_true (by kernel_rfl)) (by unfold Func.isWrapper; rw [if_neg (by decide +kernel)]; exact ⟨rfl, rfl⟩)
    (fun os started H enc _ => exactSameFormula_lifted os started H enc)

theorem exactSameFormula_card : Rows.FnExactSameFormulaCardSaid :=
  Claim7.holds_tied_plain_at .later [] [.data, .data, .data, .data] true (true, "87b5d62f754ad34407d10ff0f476ddfe3c374b24a180768f066ca5d606036092") true
    exactSameFormula_holds (fun _ h => by cases h) (by kernel_rfl) (fun _ h => by cases h) fnExactSameFormula_row_tie rfl ⟨rfl, rfl⟩ (by kernel_rfl) rfl
    (fun f fn hf hfn => by
      obtain rfl : f = 3 := Option.some.inj ((show Tryd.prog.funcNamed "loop.example/presburger/laws.FnExactSameFormula" = some 3 by kernel_rfl).symm.trans hf) |>.symm
      obtain rfl : fn = Tryd.f3 := (Option.some.inj (Tryd.func3.symm.trans hfn)).symm
      exact ⟨by kernel_rfl, fun j t ht => by
        rw [Tryd.params3] at ht
        have hm : t ∈ [28, 28] := by simpa using Array.mem_of_getElem? ht
        have hall : ([28, 28].all fun u => !Tryd.prog.wantsStandIn u) = true := by kernel_rfl
        exact (show Tryd.prog.wantsStandIn t = false by simpa using List.all_eq_true.1 hall t hm)⟩)
    (by kernel_rfl)

#print axioms exactSameFormula_card
end Go.Proofs.YtbppcpaodfjpkaaDoor
