/- FormatFormula answers as its model does, for all arguments (the law FnExactFormatFormula returns true and leaves its argument as it was): the row and its tied card. Condition: the tables of strconv and math/bits that the row lists start as the program lays them, which the card ties to its text. -/
import Derived.Test.YtppkjegenmghnaaDoorLift
import Derived.Test.YtppkjegenmghnaaDoorLiftV
import Derived.Test.YtppkjegenmghnaaDoorLift3
import Derived.Test.YtppkjegenmghnaaDoorLTxF
import Derived.Test.YtppkjegenmghnaaDoorLdTab4
import Derived.Test.YtppkjegenmghnaaDoorLdKw
import Derived.Test.YtppkjegenmghnaaDoorTie
import Derived.Test.YtppkjegenmghnaaDoorCards
import Derived.SevenTiedAt
import Derived.JoinedOf
import Derived.JoinedAt
import Derived.RowKit3
namespace Go.Proofs.YtppkjegenmghnaaDoor
open Go.ChangeShapes Go.WideShapes Go.ChangeAt Go.RowKit Go.Joins

set_option maxRecDepth 100000 in
theorem exactFormatFormula_lifted (os : Os) (started : os.Started) (H : Type) (enc : TypeId × Value → H) :
    ReturnsInHanded {} Tryd.checked os 5 .any (fun w args => (Rows.fnExactFormatFormulaSpec.pre enc Tryd.prog Tryd.f5 [] false w args ∧ laidMetH Tryd.prog laid4 w) ∧ sizedMet enc Tryd.prog Tryd.f5 (OpenSpec.ofChange Rows.fnExactFormatFormulaSpec) false w args)
      (Rows.fnExactFormatFormulaSpec.post enc Tryd.prog Tryd.f5 false true false false) := by
  refine returnsInHanded_of_change_and (C := Tryd.checked) (X := fun w _ => laidMetH Tryd.prog laid4 w) (fun _ _ _ hh h => h.of_heap hh) Tryd.own started (by kernel_rfl) Tryd.func5
    (ChangeSpec.witness_shaped (enc := enc) (C := Tryd.checked) (os := os) (X := fun w _ => laidMetH Tryd.prog laid4 w) false (World.doorLaid Tryd.prog 400 os) #[.agg #[.int .i64 0, .int .i64 0, .int .i64 0, .int .i64 0, .int .i64 0, .int .i64 0, .int .i64 0, .int .i64 0, .int .i64 0, .slice none 0 0]] 8 rfl (World.shaped_of_RefB (by kernel_rfl) (by kernel_rfl)) (by kernel_rfl) (by kernel_rfl) (by kernel_rfl) (door_met os _)) ?_
  intro W base args ds gs before hval0 hW _ _ hL _
  have hval : ∀ (j : Nat) t v, Tryd.f5.params[j]? = some t → args[j]? = some v → Value.okWide Tryd.prog W .any base t v := hval0
  have hW' := hW
  obtain ⟨p, q, hA0, hV, _, _, _⟩ := hW
  have hA : DataW.TrodAll enc Tryd.prog W 0 (fun _ => true) true Tryd.f5.params.toList args.toList ds p := hA0
  rw [Tryd.params5] at hA hval
  obtain ⟨v0, d0, rfl, rfl, h0⟩ := trodAll_one hA
  obtain ⟨gg, tg, csg, fg, dg, pg, rfl, _, _, _, _, _⟩ := trodVars_one (n := "loop.example/presburger/impl.kindWords") hV
  obtain ⟨k0, f0, s0, rfl, hf0⟩ := open_formula Tryd.underlying42 (by kernel_rfl) rfl rfl rfl rfl rfl rfl rfl rfl (by kernel_rfl) (by kernel_rfl) Tryd.underlying39 (by kernel_rfl) rfl rfl rfl rfl rfl rfl Tryd.underlying37 (by kernel_rfl) (by kernel_rfl) rfl Tryd.underlying3 (by kernel_rfl) Tryd.underlying40 (hval 0 42 v0 rfl rfl) h0
  clear hA0 hval0
  refine (exactFormatFormula_walk k0 f0 W _ s0 hf0 (words_of_laid hL) (tab_of_laid hL)).mono fun e W' ⟨he, hb⟩ => ⟨_, he, ?_⟩
  exact law_post1 (n := "loop.example/presburger/impl.kindWords") Tryd.laidOut (by kernel_rfl) rfl rfl Tryd.underlying4 (fun g t h1 h2 => by
    obtain rfl := Option.some.inj ((show Tryd.prog.globalNamed "loop.example/presburger/impl.kindWords" = some 0 by kernel_rfl).symm.trans h1)
    obtain rfl := Option.some.inj ((show (Tryd.prog.globals[0]?).map (·.type) = some 60 by kernel_rfl).symm.trans h2)
    exact ⟨by kernel_rfl, by decide +kernel⟩) hW' rfl hb

theorem exactFormatFormula_holds : Rows.FnExactFormatFormulaSaid :=
  OpenClaim.holds_of_wide 5 Tryd.f5 rfl rfl rfl rfl rfl rfl rfl ⟨rfl, rfl, rfl, rfl, rfl⟩ rfl rfl rfl rfl rfl (by kernel_rfl) Tryd.func5 (by kernel_rfl)
    (of_decide_eq_true (by kernel_rfl)) (by unfold Func.isWrapper; rw [if_neg (by decide +kernel)]; exact ⟨rfl, rfl⟩)
    (fun os started H enc _ => exactFormatFormula_lifted os started H enc)

theorem exactFormatFormula_card : Rows.FnExactFormatFormulaCardSaid :=
  Claim7.holds_tied_plain_at .later [] [.data, .data, .data, .data] true (true, "110013745f51a51eb917cac0729943404e95af2114916b3ed8c51dff3ea7ea7a") true
    exactFormatFormula_holds (fun _ h => by cases h) (by kernel_rfl) (fun _ h => by cases h) fnExactFormatFormula_row_tie rfl ⟨rfl, rfl⟩ (by kernel_rfl) rfl
    (fun f fn hf hfn => by
      obtain rfl : f = 5 := Option.some.inj ((show Tryd.prog.funcNamed "loop.example/presburger/laws.FnExactFormatFormula" = some 5 by kernel_rfl).symm.trans hf) |>.symm
      obtain rfl : fn = Tryd.f5 := (Option.some.inj (Tryd.func5.symm.trans hfn)).symm
      exact ⟨by kernel_rfl, fun j t ht => by
        rw [Tryd.params5] at ht
        have hm : t ∈ [42] := by simpa using Array.mem_of_getElem? ht
        have hall : ([42].all fun u => !Tryd.prog.wantsStandIn u) = true := by kernel_rfl
        exact (show Tryd.prog.wantsStandIn t = false by simpa using List.all_eq_true.1 hall t hm)⟩)
    (by kernel_rfl)

#print axioms exactFormatFormula_card
end Go.Proofs.YtppkjegenmghnaaDoor
