/- The walk of the law FnAtomText. -/
import Derived.Test.YtjbbknbnknhjhaaDoorAxS
import Derived.Test.YtjbbknbnknhjhaaDoorDrA3
import Derived.BigQuiet
namespace Go.Proofs.YtjbbknbnknhjhaaDoor
open Go.RowKit

theorem c7_newT {w W : World} {k m a b c d n : Int} {t : TypeId} (hW : w.alloc (.cells #[.int .i64 k, .int .i64 m, .int .i64 a, .int .i64 b, .int .i64 c, .int .i64 d, .int .i64 n] t) = W) : C7 W w.heap.size k m a b c d n ∧ W.heap.size = w.heap.size + 1 ∧ Below w.heap.size w W := by
  subst hW
  exact ⟨(by refine ⟨?_, ?_, ?_, ?_, ?_, ?_, ?_, ?_⟩ <;> first | (simp [go_sem]; done) | (simp; omega)), by simp, by go_grown⟩
theorem pa_yes {s : List UInt8} {A : AtD} (h : IsAx s A) : paT s = (A, true) := by
  have e := rdI_ok h
  have h2 := h.2
  rw [pa_I, e]
  simp [h2]
theorem pa_text {s : List UInt8} {k m a b c d n : Int} (h : paT s = (⟨k, m, a, b, c, d, n⟩, true)) : taL k m a b c d n = s := by
  unfold paT at h
  split at h
  · rename_i hx
    have hc := Classical.choose_spec hx
    have he := congrArg Prod.fst h
    simp only at he
    rw [he] at hc
    exact hc.2
  · exact absurd (congrArg Prod.snd h) (by simp)

set_option maxRecDepth 10000 in
set_option maxHeartbeats 4000000 in
theorem fnAtomText_walk (sp : Option Addr) (n cap : Nat) (sp2 : Option Addr) (n2 cap2 : Nat) (w : World) (h : Code w sp n cap) (h2 : Code w sp2 n2 cap2) (hE : Errs w) (hT0 : Tab w) :
    Calls Tryd.prog 4 #[.slice sp n cap, .slice sp2 n2 cap2] w fun e w' => e = .returned (.bool true) ∧ Below w.heap.size w w' := by
  have HC := Lib.hid h
  have HC2 := Lib.hid h2
  have HE := Lib.hid hE
  have HT := Lib.hid hT0
  clear h h2 hE hT0
  by_cases hn : n ≤ 1048576
  · have hn' : ¬ (1048576 : Int) < (n : Int) := by omega
    by_cases hm : n2 ≤ 1048576
    · have hm' : ¬ (1048576 : Int) < (n2 : Int) := by omega
      go_enter Tryd.func4, Tryd.ntmps4
      go_wp2_with fail
      refine (DrawFormatAtom_t sp n cap w HC.out).mono ?_
      rintro e w1 ⟨k, m, a, b, c, d, z, rfl, k1⟩
      go_upto_region 4 with fail
      generalize hW : World.alloc w1 _ = w2
      obtain ⟨hx, hsx, hb⟩ := c7_newT hW
      clear hW
      have k2 := below_on k1 hb
      clear k1
      clear hb
      have sx_2 := hx
      clear hx hsx
      have hlist := bs_list
      have HI := Lib.hid fun w h => pFormatAtom_any k m a b c d z w h
      have HS := Lib.hid fun w => specFormatAtom_any k m a b c d z w
      obtain ⟨v, hv⟩ : ∃ v, avB k m a b c d z = v := ⟨_, rfl⟩
      have HV := Lib.hid fun w => AtomValid_is k m a b c d z v w hv
      obtain ⟨T, hT⟩ : ∃ T, taL k m a b c d z = T := ⟨_, rfl⟩
      rw [hT] at HI HS
      have HVV := Lib.hid hv
      have HTT := Lib.hid hT
      clear hT hv
      obtain ⟨s_0, s_1, s_2, s_3, s_4, s_5, s_6, s_7⟩ := id sx_2
      go_wp2_with fail
      refine (HI.out _ (tab_on HT.out k2)).mono ?_
      rintro e w3 ⟨rfl, hb⟩
      clear s_0 s_1 s_2 s_3 s_4 s_5 s_6 s_7
      have k3 := below_on k2 hb
      have sx_3 := c7_on sx_2 hb
      clear k2 sx_2
      clear hb
      obtain ⟨s_0, s_1, s_2, s_3, s_4, s_5, s_6, s_7⟩ := id sx_3
      go_wp2_with fail
      refine (HS.out _).mono ?_
      rintro e w4 ⟨rfl, hb⟩
      clear s_0 s_1 s_2 s_3 s_4 s_5 s_6 s_7
      have k4 := below_on k3 hb
      have sx_4 := c7_on sx_3 hb
      clear k3 sx_3
      clear hb
      cases v with
      | false =>
        obtain rfl : T = [] := by rw [← HTT.out]; unfold taL; rw [if_neg (by rw [HVV.out]; decide)]
        have hemp : ([] : List UInt8).isEmpty = true := rfl
        clear HTT
        obtain ⟨s_0, s_1, s_2, s_3, s_4, s_5, s_6, s_7⟩ := id sx_4
        go_wp2_with fail
        refine (HV.out _).mono ?_
        rintro e w5 ⟨rfl, hb⟩
        clear s_0 s_1 s_2 s_3 s_4 s_5 s_6 s_7
        have k5 := below_on k4 hb
        have sx_5 := c7_on sx_4 hb
        clear k4 sx_4
        clear hb
        obtain ⟨s_0, s_1, s_2, s_3, s_4, s_5, s_6, s_7⟩ := id sx_5
        go_upto_region 11 with fail
        clear s_0 s_1 s_2 s_3 s_4 s_5 s_6 s_7
        clear sx_5
        go_wp2_with fail
        refine (DrawParseAtom_t sp2 n2 cap2 _ (code_on HC2.out k5)).mono ?_
        rintro e w6 ⟨t, rfl, htl, hb⟩
        have k6 := below_on k5 hb
        clear k5
        clear hb
        have HP := Lib.hid fun w h1 h2 => ParseAtom_any t w (by omega) h1 h2
        have HQ := Lib.hid fun w => specParseAtom_any t w (by omega)
        obtain ⟨⟨⟨K, M, A, B, C, D, Z⟩, ok⟩, er⟩ : ∃ r, paT t = r := ⟨_, rfl⟩
        rw [er] at HP HQ
        simp only [PaV, AtV] at HP HQ
        have ER := Lib.hid er
        clear er
        go_wp2_with fail
        refine (HP.out _ (errs_on HE.out k6) (tab_on HT.out k6)).mono ?_
        rintro e w7 ⟨rfl, hb⟩
        have k7 := below_on k6 hb
        clear k6
        clear hb
        go_upto_region 13 with fail
        generalize hW : World.alloc w7 _ = w8
        obtain ⟨hx, hsx, hb⟩ := c7_newT hW
        clear hW
        have k8 := below_on k7 hb
        clear k7
        clear hb
        have gotx_8 := hx
        clear hx hsx
        obtain ⟨got_0, got_1, got_2, got_3, got_4, got_5, got_6, got_7⟩ := id gotx_8
        go_wp2_with fail
        refine (HQ.out _).mono ?_
        rintro e w9 ⟨rfl, hb⟩
        clear got_0 got_1 got_2 got_3 got_4 got_5 got_6 got_7
        have k9 := below_on k8 hb
        have gotx_9 := c7_on gotx_8 hb
        clear k8 gotx_8
        clear hb
        go_upto_region 14 with fail
        generalize hW : World.alloc w9 _ = w10
        obtain ⟨hx, hsx, hb⟩ := c7_newT hW
        clear hW
        have k10 := below_on k9 hb
        have gotx_10 := c7_on gotx_9 hb
        clear k9 gotx_9
        clear hb
        have wantx_10 := hx
        clear hx hsx
        cases ok with
        | false =>
          obtain ⟨got_0, got_1, got_2, got_3, got_4, got_5, got_6, got_7⟩ := id gotx_10
          obtain ⟨want_0, want_1, want_2, want_3, want_4, want_5, want_6, want_7⟩ := id wantx_10
          go_wp2
          go_ret
          exact ⟨rfl, k10⟩
        | true =>
          have ef := pa_text ER.out
          have HF := Lib.hid fun w h => pFormatAtom_any K M A B C D Z w h
          rw [ef] at HF
          have htt : (t == t) = true := beq_self_eq_true _
          clear ef ER
          obtain ⟨got_0, got_1, got_2, got_3, got_4, got_5, got_6, got_7⟩ := id gotx_10
          obtain ⟨want_0, want_1, want_2, want_3, want_4, want_5, want_6, want_7⟩ := id wantx_10
          go_wp2_with fail
          refine (HF.out _ (tab_on HT.out k10)).mono ?_
          rintro e w11 ⟨rfl, hb⟩
          clear got_0 got_1 got_2 got_3 got_4 got_5 got_6 got_7
          clear want_0 want_1 want_2 want_3 want_4 want_5 want_6 want_7
          have k11 := below_on k10 hb
          have gotx_11 := c7_on gotx_10 hb
          have wantx_11 := c7_on wantx_10 hb
          clear k10 gotx_10 wantx_10
          clear hb
          obtain ⟨got_0, got_1, got_2, got_3, got_4, got_5, got_6, got_7⟩ := id gotx_11
          obtain ⟨want_0, want_1, want_2, want_3, want_4, want_5, want_6, want_7⟩ := id wantx_11
          go_wp2
          go_ret
          exact ⟨rfl, k11⟩
      | true =>
        have hsz := ta_sz HVV.out
        rw [HTT.out] at hsz
        have hne3 : ¬ T = [] := by rintro rfl; simp at hsz
        have hne : T.isEmpty = false := by simpa using hne3
        have hne2 : (T == []) = false := by simpa using hne3
        have hTT : (T == T) = true := beq_self_eq_true _
        have HP := Lib.hid fun w h1 h2 => ParseAtom_any T w (by omega) h1 h2
        rw [show paT T = (⟨k, m, a, b, c, d, z⟩, true) from pa_yes ⟨HVV.out, HTT.out⟩] at HP
        simp only [PaV, AtV] at HP
        clear hsz
        obtain ⟨s_0, s_1, s_2, s_3, s_4, s_5, s_6, s_7⟩ := id sx_4
        go_wp2_with fail
        refine (HV.out _).mono ?_
        rintro e w5 ⟨rfl, hb⟩
        clear s_0 s_1 s_2 s_3 s_4 s_5 s_6 s_7
        have k5 := below_on k4 hb
        have sx_5 := c7_on sx_4 hb
        clear k4 sx_4
        clear hb
        obtain ⟨s_0, s_1, s_2, s_3, s_4, s_5, s_6, s_7⟩ := id sx_5
        go_wp2_with fail
        refine (HP.out _ (errs_on HE.out k5) (tab_on HT.out k5)).mono ?_
        rintro e w6 ⟨rfl, hb⟩
        clear s_0 s_1 s_2 s_3 s_4 s_5 s_6 s_7
        have k6 := below_on k5 hb
        have sx_6 := c7_on sx_5 hb
        clear k5 sx_5
        clear hb
        go_upto_region 9 with fail
        generalize hW : World.alloc w6 _ = w7
        obtain ⟨hx, hsx, hb⟩ := c7_newT hW
        clear hW
        have k7 := below_on k6 hb
        have sx_7 := c7_on sx_6 hb
        clear k6 sx_6
        clear hb
        have backx_7 := hx
        clear hx hsx
        obtain ⟨s_0, s_1, s_2, s_3, s_4, s_5, s_6, s_7⟩ := id sx_7
        obtain ⟨back_0, back_1, back_2, back_3, back_4, back_5, back_6, back_7⟩ := id backx_7
        go_upto_region 11 with fail
        clear s_0 s_1 s_2 s_3 s_4 s_5 s_6 s_7
        clear back_0 back_1 back_2 back_3 back_4 back_5 back_6 back_7
        clear sx_7 backx_7
        clear HP HTT hne hne2 hne3 hTT
        go_wp2_with fail
        refine (DrawParseAtom_t sp2 n2 cap2 _ (code_on HC2.out k7)).mono ?_
        rintro e w8 ⟨t, rfl, htl, hb⟩
        have k8 := below_on k7 hb
        clear k7
        clear hb
        have HP := Lib.hid fun w h1 h2 => ParseAtom_any t w (by omega) h1 h2
        have HQ := Lib.hid fun w => specParseAtom_any t w (by omega)
        obtain ⟨⟨⟨K, M, A, B, C, D, Z⟩, ok⟩, er⟩ : ∃ r, paT t = r := ⟨_, rfl⟩
        rw [er] at HP HQ
        simp only [PaV, AtV] at HP HQ
        have ER := Lib.hid er
        clear er
        go_wp2_with fail
        refine (HP.out _ (errs_on HE.out k8) (tab_on HT.out k8)).mono ?_
        rintro e w9 ⟨rfl, hb⟩
        have k9 := below_on k8 hb
        clear k8
        clear hb
        go_upto_region 13 with fail
        generalize hW : World.alloc w9 _ = w10
        obtain ⟨hx, hsx, hb⟩ := c7_newT hW
        clear hW
        have k10 := below_on k9 hb
        clear k9
        clear hb
        have gotx_10 := hx
        clear hx hsx
        obtain ⟨got_0, got_1, got_2, got_3, got_4, got_5, got_6, got_7⟩ := id gotx_10
        go_wp2_with fail
        refine (HQ.out _).mono ?_
        rintro e w11 ⟨rfl, hb⟩
        clear got_0 got_1 got_2 got_3 got_4 got_5 got_6 got_7
        have k11 := below_on k10 hb
        have gotx_11 := c7_on gotx_10 hb
        clear k10 gotx_10
        clear hb
        go_upto_region 14 with fail
        generalize hW : World.alloc w11 _ = w12
        obtain ⟨hx, hsx, hb⟩ := c7_newT hW
        clear hW
        have k12 := below_on k11 hb
        have gotx_12 := c7_on gotx_11 hb
        clear k11 gotx_11
        clear hb
        have wantx_12 := hx
        clear hx hsx
        cases ok with
        | false =>
          obtain ⟨got_0, got_1, got_2, got_3, got_4, got_5, got_6, got_7⟩ := id gotx_12
          obtain ⟨want_0, want_1, want_2, want_3, want_4, want_5, want_6, want_7⟩ := id wantx_12
          go_wp2
          go_ret
          exact ⟨rfl, k12⟩
        | true =>
          have ef := pa_text ER.out
          have HF := Lib.hid fun w h => pFormatAtom_any K M A B C D Z w h
          rw [ef] at HF
          have htt : (t == t) = true := beq_self_eq_true _
          clear ef ER
          obtain ⟨got_0, got_1, got_2, got_3, got_4, got_5, got_6, got_7⟩ := id gotx_12
          obtain ⟨want_0, want_1, want_2, want_3, want_4, want_5, want_6, want_7⟩ := id wantx_12
          go_wp2_with fail
          refine (HF.out _ (tab_on HT.out k12)).mono ?_
          rintro e w13 ⟨rfl, hb⟩
          clear got_0 got_1 got_2 got_3 got_4 got_5 got_6 got_7
          clear want_0 want_1 want_2 want_3 want_4 want_5 want_6 want_7
          have k13 := below_on k12 hb
          have gotx_13 := c7_on gotx_12 hb
          have wantx_13 := c7_on wantx_12 hb
          clear k12 gotx_12 wantx_12
          clear hb
          obtain ⟨got_0, got_1, got_2, got_3, got_4, got_5, got_6, got_7⟩ := id gotx_13
          obtain ⟨want_0, want_1, want_2, want_3, want_4, want_5, want_6, want_7⟩ := id wantx_13
          go_wp2
          go_ret
          exact ⟨rfl, k13⟩
    · have hm' : (1048576 : Int) < (n2 : Int) := by omega
      go_enter Tryd.func4, Tryd.ntmps4
      go_wp2
      go_ret
      exact ⟨rfl, by go_grown⟩
  · have hn' : (1048576 : Int) < (n : Int) := by omega
    go_enter Tryd.func4, Tryd.ntmps4
    go_wp2
    go_ret
    exact ⟨rfl, by go_grown⟩
    
end Go.Proofs.YtjbbknbnknhjhaaDoor
