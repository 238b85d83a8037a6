/- OtherSet answers as its model does, for all arguments (the law FnExactOtherSet returns true and leaves its arguments as they were): the row and its tied card. Condition: the tables of unicode/utf8 that the row lists start as the program lays them, which the card ties to its text. -/
import Derived.Test.YtpheihejgnlanaaDoorLift7
import Derived.Test.YtpheihejgnlanaaDoorLdUtf
import Derived.Test.YtpheihejgnlanaaDoorLSOtherSet
import Derived.Test.YtpheihejgnlanaaDoorTie
import Derived.Test.YtpheihejgnlanaaDoorCards
import Derived.SevenTiedAt
import Derived.ChangeMaps5
import Derived.JoinedOf
import Derived.JoinedAt
import Derived.RowKit3
namespace Go.Proofs.YtpheihejgnlanaaDoor
open Go.ChangeShapes Go.WideShapes Go.ChangeAt Go.RowKit Go.Joins

set_option maxRecDepth 100000 in
theorem fnExactOtherSet_lifted (os : Os) (started : os.Started) (H : Type) (enc : TypeId × Value → H) :
    ReturnsInHanded {} Tryd.checked os 5 .any (fun w args => (Rows.fnExactOtherSetSpec.pre enc Tryd.prog Tryd.f5 [] false w args ∧ laidMetH Tryd.prog laid2 w) ∧ sizedMet enc Tryd.prog Tryd.f5 (OpenSpec.ofChange Rows.fnExactOtherSetSpec) false w args)
      (Rows.fnExactOtherSetSpec.post enc Tryd.prog Tryd.f5 false true false false) := by
  refine returnsInHanded_of_change_and (C := Tryd.checked) (X := fun w _ => laidMetH Tryd.prog laid2 w) (fun _ _ _ hh h => h.of_heap hh) Tryd.own started (by kernel_rfl) Tryd.func5
    (ChangeSpec.witness_shaped (enc := enc) (C := Tryd.checked) (os := os) (X := fun w _ => laidMetH Tryd.prog laid2 w) false (World.laidAll Tryd.prog os laid2) #[.agg #[.string ⟨#[]⟩, .string ⟨#[]⟩]] 8 (World.laidAll_os _ _ _) (World.shaped_of_ZipB (by kernel_rfl) (by kernel_rfl)) (by kernel_rfl) (by kernel_rfl) (by kernel_rfl)
      (by rw [MakeChecks.laidMetH_plain _ _ _ (by kernel_rfl)]; exact laidMet_laidAll _ (by kernel_rfl) (by kernel_rfl))) ?_
  intro W base args ds gs before hval0 hW _ _ _ _
  have hval : ∀ (j : Nat) t v, Tryd.f5.params[j]? = some t → args[j]? = some v → Value.okWide Tryd.prog W .any base t v := hval0
  have hW' := hW
  obtain ⟨p, q, hA0, hV, rfl, _, _⟩ := hW
  have hA : DataW.TrodAll enc Tryd.prog W 0 (fun _ => true) true Tryd.f5.params.toList args.toList ds p := hA0
  rw [Tryd.params5] at hA hval
  obtain ⟨v0, d0, rfl, rfl, h0⟩ := trodAll_one hA
  obtain ⟨rfl, rfl⟩ := trodVars_none hV
  obtain ⟨xs0, hl0, rfl, hb0⟩ := open_strs_agg Tryd.underlying23 (by kernel_rfl) (by kernel_rfl) Tryd.underlying9 (by kernel_rfl) (hval 0 23 v0 rfl rfl) h0
  obtain ⟨a0, b0, e0, rfl⟩ := len2s hl0
  rw [e0]
  obtain ⟨a0, rfl⟩ := bs_of a0
  obtain ⟨b0, rfl⟩ := bs_of b0
  have ha0 : a0.length ≤ 9223372036854775807 := by have := hb0 _ (List.mem_cons_self ..); rw [bs_size] at this; unfold maxLen at this; omega
  have hb0 : b0.length ≤ 9223372036854775807 := by have := hb0 _ (List.mem_cons_of_mem _ (List.mem_cons_self ..)); rw [bs_size] at this; unfold maxLen at this; omega
  clear hA0 hval0
  refine (exactOtherSet_walk a0 b0 W ha0 hb0).mono fun e W' ⟨he, hb⟩ => ⟨_, he, ?_⟩
  exact law_post Tryd.laidOut (by kernel_rfl) rfl rfl Tryd.underlying4 hW' rfl hb

theorem fnExactOtherSet_holds : Rows.FnExactOtherSetSaid :=
  OpenClaim.holds_of_wide 5 Tryd.f5 rfl rfl rfl rfl rfl rfl rfl ⟨rfl, rfl, rfl, rfl, rfl⟩ rfl rfl rfl rfl rfl (by kernel_rfl) Tryd.func5 (by kernel_rfl)
    (of_decide_eq_true (by kernel_rfl)) (by unfold Func.isWrapper; rw [if_neg (by decide +kernel)]; exact ⟨rfl, rfl⟩)
    (fun os started H enc _ => fnExactOtherSet_lifted os started H enc)

theorem fnExactOtherSet_card : Rows.FnExactOtherSetCardSaid :=
  Claim7.holds_tied_plain_at .later [] [.data, .pinned] true Rows.fnExactOtherSetCard.stood.harness Rows.fnExactOtherSetCard.stood.looks
    fnExactOtherSet_holds (fun _ h => by cases h) (by kernel_rfl) (fun _ h => by cases h) fnExactOtherSet_row_tie rfl ⟨rfl, rfl⟩ (by kernel_rfl) rfl
    (fun f fn hf hfn => by
      obtain rfl : f = 5 := Option.some.inj ((show Tryd.prog.funcNamed "loop.example/presburger/laws.FnExactOtherSet" = some 5 by kernel_rfl).symm.trans hf) |>.symm
      obtain rfl : fn = Tryd.f5 := (Option.some.inj (Tryd.func5.symm.trans hfn)).symm
      exact ⟨by kernel_rfl, fun j t ht => by
        rw [Tryd.params5] at ht
        have hm : t ∈ [23] := by simpa using Array.mem_of_getElem? ht
        have hall : ([23].all fun u => !Tryd.prog.wantsStandIn u) = true := by kernel_rfl
        exact (show Tryd.prog.wantsStandIn t = false by simpa using List.all_eq_true.1 hall t hm)⟩)
    (by kernel_rfl)

end Go.Proofs.YtpheihejgnlanaaDoor
