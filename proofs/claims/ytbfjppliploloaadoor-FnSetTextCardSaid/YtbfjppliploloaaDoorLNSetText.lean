/- The walk of the law FnSetText. -/
import Derived.Test.YtbfjppliploloaaDoorLwK
import Derived.Test.YtbfjppliploloaaDoorDrV
import Derived.Test.YtbfjppliploloaaDoorSgP
import Derived.Test.YtbfjppliploloaaDoorSgS
import Derived.BigQuiet
import Derived.Deep.RegionHeld3
import Derived.BigGuardPart
import Derived.Deep.DeepCutAuto
namespace Go.Proofs.YtbfjppliploloaaDoor
open Go.RowKit

set_option maxRecDepth 10000 in
set_option maxHeartbeats 4000000 in
theorem fnSetText_walk (sp : Option Addr) (n cap : Nat) (sp2 : Option Addr) (n2 cap2 : Nat) (w : World) (h : Code w sp n cap) (h2 : Code w sp2 n2 cap2) :
    Calls Tryd.prog 3 #[.slice sp n cap, .slice sp2 n2 cap2] w fun e w' => e = .returned (.bool true) ∧ Below w.heap.size w w' := by
  have HC := Lib.hid h
  have HC2 := Lib.hid h2
  clear h h2
  by_cases hn : n ≤ 1048576
  · have hn' : ¬ (1048576 : Int) < (n : Int) := by omega
    by_cases hm : n2 ≤ 1048576
    · have hm' : ¬ (1048576 : Int) < (n2 : Int) := by omega
      go_enter Tryd.func3, Tryd.ntmps3
      go_wp2_with fail
      refine (DrawFormatSet_t sp n cap w HC.out).mono ?_
      rintro e w1 ⟨h, l, rfl, ⟨s0, s1⟩, k0⟩
      go_upto_region 4 with fail
      generalize hW : World.alloc w1 _ = w2
      obtain ⟨hx, hsx, hb⟩ := s2_new hW
      clear hW
      have k2 := below_on k0 hb
      clear k0
      have s_2 := hx
      clear hx hb
      obtain ⟨z0, z1⟩ : h.length ≤ 1000000000 ∧ l.length ≤ 1000000000 := ⟨by omega, by omega⟩
      have hlist := bs_list
      have HI := Lib.hid fun w => FormatSet_any h l w z0 z1
      have HS := Lib.hid fun w => specFormatSet_any h l w z0 z1
      have HV := Lib.hid fun w => SetValid_any h l w z0 z1
      have hTl := fs_len h l
      obtain ⟨T, hT⟩ : ∃ T, fsT h l = T := ⟨_, rfl⟩
      obtain ⟨v, hv⟩ : ∃ v, svS h l = v := ⟨_, rfl⟩
      rw [hT] at HI HS hTl
      rw [hv] at HV
      have HVV := Lib.hid hv
      have HT := Lib.hid hT
      clear hT hv s0 s1
      obtain ⟨s_a, s_b, s_c, s_d⟩ := id s_2
      go_wp2_with fail
      refine (HI.out _).mono ?_
      rintro e w3 ⟨rfl, hb⟩
      clear s_a s_b s_c s_d
      have k3 := below_on k2 hb
      have s_3 := s2_on s_2 hb
      clear k2 s_2
      clear hb
      obtain ⟨s_a, s_b, s_c, s_d⟩ := id s_3
      go_wp2_with fail
      refine (HS.out _).mono ?_
      rintro e w4 ⟨rfl, hb⟩
      clear s_a s_b s_c s_d
      have k4 := below_on k3 hb
      have s_4 := s2_on s_3 hb
      clear k3 s_3
      clear hb
      cases v with
      | false =>
        obtain rfl : T = [] := by rw [← HT.out]; exact fs_no HVV.out
        have hemp : ([] : List UInt8).isEmpty = true := rfl
        obtain ⟨s_a, s_b, s_c, s_d⟩ := id s_4
        go_wp2_with fail
        refine (HV.out _).mono ?_
        rintro e w5 ⟨rfl, hb⟩
        clear s_a s_b s_c s_d
        have k5 := below_on k4 hb
        have s_5 := s2_on s_4 hb
        clear k4 s_4
        clear hb
        obtain ⟨s_a, s_b, s_c, s_d⟩ := id s_5
        go_upto_region 11 with fail
        clear s_a s_b s_c s_d
        clear s_5
        go_wp2_with fail
        refine (DrawParseSet_t sp2 n2 cap2 _ (code_on HC2.out k5)).mono ?_
        rintro e w6 ⟨t, rfl, htl, hb⟩
        have k6 := below_on k5 hb
        clear k5
        clear hb
        have HP := Lib.hid fun w => ParseSet_any t w (by omega)
        have HQ := Lib.hid fun w => specParseSet_any t w (by omega)
        have hpl := pa_len t
        obtain ⟨RR, er⟩ : ∃ RR, paR t = RR := ⟨_, rfl⟩
        obtain ⟨⟨X, Y⟩, b⟩ := RR
        rw [er] at HP HQ hpl
        have he1 := eql_same X Y
        go_wp2_with fail
        refine (HP.out _).mono ?_
        rintro e w7 ⟨rfl, hb⟩
        have k7 := below_on k6 hb
        clear k6
        clear hb
        go_upto_region 13 with fail
        generalize hW : World.alloc w7 _ = w8
        obtain ⟨hx, hsx, hb⟩ := s2_new hW
        clear hW
        have k8 := below_on k7 hb
        clear k7
        have got_8 := hx
        clear hx hb
        obtain ⟨got_a, got_b, got_c, got_d⟩ := id got_8
        go_wp2_with fail
        refine (HQ.out _).mono ?_
        rintro e w9 ⟨rfl, hb⟩
        clear got_a got_b got_c got_d
        have k9 := below_on k8 hb
        have got_9 := s2_on got_8 hb
        clear k8 got_8
        clear hb
        go_upto_region 14 with fail
        generalize hW : World.alloc w9 _ = w10
        obtain ⟨hx, hsx, hb⟩ := s2_new hW
        clear hW
        have k10 := below_on k9 hb
        have got_10 := s2_on got_9 hb
        clear k9 got_9
        have want_10 := hx
        clear hx hb
        cases b with
        | false =>
          clear er
          obtain ⟨got_a, got_b, got_c, got_d⟩ := id got_10
          obtain ⟨want_a, want_b, want_c, want_d⟩ := id want_10
          go_wp2
          go_ret
          exact ⟨rfl, k10⟩
        | true =>
          have ef := (fs_pa er).1
          have HF := Lib.hid fun w => FormatSet_any X Y w (by have := hpl.1; (try dsimp only at this); omega) (by have := hpl.2; (try dsimp only at this); omega)
          rw [ef] at HF
          have htt : (t == t) = true := beq_self_eq_true _
          clear er ef hpl
          obtain ⟨got_a, got_b, got_c, got_d⟩ := id got_10
          obtain ⟨want_a, want_b, want_c, want_d⟩ := id want_10
          go_wp2_with fail
          refine (HF.out _).mono ?_
          rintro e w11 ⟨rfl, hb⟩
          clear got_a got_b got_c got_d want_a want_b want_c want_d
          have k11 := below_on k10 hb
          have got_11 := s2_on got_10 hb
          have want_11 := s2_on want_10 hb
          clear k10 got_10 want_10
          clear hb
          obtain ⟨got_a, got_b, got_c, got_d⟩ := id got_11
          obtain ⟨want_a, want_b, want_c, want_d⟩ := id want_11
          go_wp2
          go_ret
          exact ⟨rfl, k11⟩
      | true =>
        have hne : T.isEmpty = false := by rw [← HT.out, fs_yes HVV.out]; simp
        have hne2 : (T == []) = false := by rw [← HT.out, fs_yes HVV.out]; simp
        have hne3 : ¬ T = [] := by rw [← HT.out, fs_yes HVV.out]; simp
        have hTT : (T == T) = true := beq_self_eq_true _
        have HP := Lib.hid fun w => ParseSet_any T w (by omega)
        rw [show paR T = ((h, l), true) by rw [← HT.out]; exact pa_fs HVV.out] at HP
        have hn1 := nel_same h l
        obtain ⟨s_a, s_b, s_c, s_d⟩ := id s_4
        go_wp2_with fail
        refine (HV.out _).mono ?_
        rintro e w5 ⟨rfl, hb⟩
        clear s_a s_b s_c s_d
        have k5 := below_on k4 hb
        have s_5 := s2_on s_4 hb
        clear k4 s_4
        clear hb
        obtain ⟨s_a, s_b, s_c, s_d⟩ := id s_5
        go_wp2_with fail
        refine (HP.out _).mono ?_
        rintro e w6 ⟨rfl, hb⟩
        clear s_a s_b s_c s_d
        have k6 := below_on k5 hb
        have s_6 := s2_on s_5 hb
        clear k5 s_5
        clear hb
        go_upto_region 9 with fail
        generalize hW : World.alloc w6 _ = w7
        obtain ⟨hx, hsx, hb⟩ := s2_new hW
        clear hW
        have k7 := below_on k6 hb
        have s_7 := s2_on s_6 hb
        clear k6 s_6
        have back_7 := hx
        clear hx hb
        obtain ⟨s_a, s_b, s_c, s_d⟩ := id s_7
        obtain ⟨back_a, back_b, back_c, back_d⟩ := id back_7
        go_upto_region 11 with fail
        clear HP hn1
        clear s_a s_b s_c s_d back_a back_b back_c back_d
        clear s_7
        clear back_7
        go_wp2_with fail
        refine (DrawParseSet_t sp2 n2 cap2 _ (code_on HC2.out k7)).mono ?_
        rintro e w8 ⟨t, rfl, htl, hb⟩
        have k8 := below_on k7 hb
        clear k7
        clear hb
        have HP := Lib.hid fun w => ParseSet_any t w (by omega)
        have HQ := Lib.hid fun w => specParseSet_any t w (by omega)
        have hpl := pa_len t
        obtain ⟨RR, er⟩ : ∃ RR, paR t = RR := ⟨_, rfl⟩
        obtain ⟨⟨X, Y⟩, b⟩ := RR
        rw [er] at HP HQ hpl
        have he1 := eql_same X Y
        go_wp2_with fail
        refine (HP.out _).mono ?_
        rintro e w9 ⟨rfl, hb⟩
        have k9 := below_on k8 hb
        clear k8
        clear hb
        go_upto_region 13 with fail
        generalize hW : World.alloc w9 _ = w10
        obtain ⟨hx, hsx, hb⟩ := s2_new hW
        clear hW
        have k10 := below_on k9 hb
        clear k9
        have got_10 := hx
        clear hx hb
        obtain ⟨got_a, got_b, got_c, got_d⟩ := id got_10
        go_wp2_with fail
        refine (HQ.out _).mono ?_
        rintro e w11 ⟨rfl, hb⟩
        clear got_a got_b got_c got_d
        have k11 := below_on k10 hb
        have got_11 := s2_on got_10 hb
        clear k10 got_10
        clear hb
        go_upto_region 14 with fail
        generalize hW : World.alloc w11 _ = w12
        obtain ⟨hx, hsx, hb⟩ := s2_new hW
        clear hW
        have k12 := below_on k11 hb
        have got_12 := s2_on got_11 hb
        clear k11 got_11
        have want_12 := hx
        clear hx hb
        cases b with
        | false =>
          clear er
          obtain ⟨got_a, got_b, got_c, got_d⟩ := id got_12
          obtain ⟨want_a, want_b, want_c, want_d⟩ := id want_12
          go_wp2
          go_ret
          exact ⟨rfl, k12⟩
        | true =>
          have ef := (fs_pa er).1
          have HF := Lib.hid fun w => FormatSet_any X Y w (by have := hpl.1; (try dsimp only at this); omega) (by have := hpl.2; (try dsimp only at this); omega)
          rw [ef] at HF
          have htt : (t == t) = true := beq_self_eq_true _
          clear er ef hpl
          obtain ⟨got_a, got_b, got_c, got_d⟩ := id got_12
          obtain ⟨want_a, want_b, want_c, want_d⟩ := id want_12
          go_wp2_with fail
          refine (HF.out _).mono ?_
          rintro e w13 ⟨rfl, hb⟩
          clear got_a got_b got_c got_d want_a want_b want_c want_d
          have k13 := below_on k12 hb
          have got_13 := s2_on got_12 hb
          have want_13 := s2_on want_12 hb
          clear k12 got_12 want_12
          clear hb
          obtain ⟨got_a, got_b, got_c, got_d⟩ := id got_13
          obtain ⟨want_a, want_b, want_c, want_d⟩ := id want_13
          go_wp2
          go_ret
          exact ⟨rfl, k13⟩
    · have hm' : (1048576 : Int) < (n2 : Int) := by omega
      go_enter Tryd.func3, Tryd.ntmps3
      go_wp2
      go_ret
      exact ⟨rfl, by go_grown⟩
  · have hn' : (1048576 : Int) < (n : Int) := by omega
    go_enter Tryd.func3, Tryd.ntmps3
    go_wp2
    go_ret
    exact ⟨rfl, by go_grown⟩

end Go.Proofs.YtbfjppliploloaaDoor
