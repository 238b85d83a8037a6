/- The walk of the law FnCount. -/
import Derived.Test.YtknocndfjnjjfaaDoorLwK
import Derived.Test.YtknocndfjnjjfaaDoorSfP
import Derived.Test.YtknocndfjnjjfaaDoorSfS
import Derived.BigQuiet
import Derived.Deep.RegionHeld3
import Derived.BigGuardPart
import Derived.Deep.DeepCutAuto
namespace Go.Proofs.YtknocndfjnjjfaaDoor
open Go.RowKit

set_option maxRecDepth 10000 in
set_option maxHeartbeats 4000000 in
theorem fnCount_walk (sp : Option Addr) (n cap : Nat) (w : World) (h : Code w sp n cap) :
    Calls Tryd.prog 5 #[.slice sp n cap] w fun e w' => e = .returned (.bool true) ∧ Below w.heap.size w w' := by
  have HC := Lib.hid h
  clear h
  by_cases hn : n ≤ 1048576
  · have hn' : ¬ (1048576 : Int) < (n : Int) := by omega
    go_enter Tryd.func5, Tryd.ntmps5
    go_wp2_with fail
    refine (DrawCountBelow_t sp n cap w HC.out).mono ?_
    rintro e w1 ⟨h, l, n', rfl, ⟨s0, s1⟩, ⟨i0, i1⟩, k0⟩
    go_upto_region 4 with fail
    generalize hW : World.alloc w1 _ = w2
    obtain ⟨hx, hsx, hb⟩ := s2_new hW
    clear hW
    have k2 := below_on k0 hb
    clear k0
    have s_2 := hx
    clear hx hb
    obtain ⟨z0, z1⟩ : h.length ≤ 1000000000 ∧ l.length ≤ 1000000000 := ⟨by omega, by omega⟩
    have HI := Lib.hid fun w => CountBelow_any h l n' w z0 z1 i0 i1
    have HS := Lib.hid fun w => specCountBelow_any h l n' w z0 z1 i0 i1
    obtain ⟨r, hr⟩ : ∃ r, cbR h l n' = r := ⟨_, rfl⟩
    have HR := Lib.hid hr
    rw [hr] at HI HS
    clear hr s0 s1
    obtain ⟨s_a, s_b, s_c, s_d⟩ := id s_2
    go_wp2_with fail
    refine (HI.out _).mono ?_
    rintro e w3 ⟨rfl, hb⟩
    clear s_a s_b s_c s_d
    have k3 := below_on k2 hb
    have s_3 := s2_on s_2 hb
    clear k2 s_2
    clear hb
    obtain ⟨s_a, s_b, s_c, s_d⟩ := id s_3
    go_wp2_with fail
    refine (HS.out _).mono ?_
    rintro e w4 ⟨rfl, hb⟩
    clear s_a s_b s_c s_d
    have k4 := below_on k3 hb
    have s_4 := s2_on s_3 hb
    clear k3 s_3
    clear hb
    by_cases h0 : r < 0
    · have hd0 : decide (r < 0) = true := decide_eq_true h0
      obtain ⟨s_a, s_b, s_c, s_d⟩ := id s_4
      go_wp2_with fail
      refine (HS.out _).mono ?_
      rintro e w5 ⟨rfl, hb⟩
      clear s_a s_b s_c s_d
      have k5 := below_on k4 hb
      have s_5 := s2_on s_4 hb
      clear k4 s_4
      clear hb
      obtain ⟨s_a, s_b, s_c, s_d⟩ := id s_5
      go_wp2
      go_ret
      exact ⟨rfl, k5⟩
    · have hd0 : decide (r < 0) = false := decide_eq_false h0
      by_cases hm : n' = 1000000
      · have hd1 : (n' == 1000000) = true := by rw [beq_iff_eq]; exact hm
        clear hm i0 i1 HI
        obtain ⟨s_a, s_b, s_c, s_d⟩ := id s_4
        go_wp2_with fail
        refine (HS.out _).mono ?_
        rintro e w5 ⟨rfl, hb⟩
        clear s_a s_b s_c s_d
        have k5 := below_on k4 hb
        have s_5 := s2_on s_4 hb
        clear k4 s_4
        clear hb
        obtain ⟨s_a, s_b, s_c, s_d⟩ := id s_5
        go_wp2
        go_ret
        exact ⟨rfl, k5⟩
      · have hd1 : (n' == 1000000) = false := by rw [beq_eq_false_iff_ne]; exact hm
        obtain ⟨k, rfl, hk, v1, c, hc, hck, hc1, hot⟩ := co_law (by rw [HR.out]; exact h0) hm
        obtain rfl : r = (c : Int) := by rw [← HR.out, hc]
        have U1 := Lib.hid fun w => CountBelow_any h l ((k + 1 : Nat) : Int) w z0 z1 (by omega) (by omega)
        rw [hc1] at U1
        have hw1 : IntKind.i64.wrap ((k : Int) + 1) = ((k + 1 : Nat) : Int) := by rw [IntKind.wrap_i64]; omega
        obtain ⟨p, hp⟩ : ∃ p, hnB h l k = p := ⟨_, rfl⟩
        rw [hp] at U1
        have U2 := Lib.hid fun w => OtherSet_any h l w z0 z1
        obtain ⟨RR, er⟩ : ∃ RR, combR (fun x _ => !x) h l h l = RR := ⟨_, rfl⟩
        obtain ⟨⟨A, B⟩, b⟩ := RR
        rw [er] at U2
        have ER := Lib.hid er
        have HOT := Lib.hid hot
        clear er hot h0 hm hc hc1 HI HS HR i0 i1
        cases p
        · skip
          have P1 := Lib.hid fun w => pbIn_is h l k false w z0 z1 (by omega) (by omega) (hp)
          have hT : c + Bool.toNat false = c := rfl
          rw [hT] at U1
          have hw2 : IntKind.i64.wrap (c : Int) = (c : Int) := by rw [IntKind.wrap_i64]; omega
          have hte : ((c : Int) == (c : Int)) = true := beq_self_eq_true _
          clear hT hp
          obtain ⟨s_a, s_b, s_c, s_d⟩ := id s_4
          go_wp2_with fail
          refine (U1.out _).mono ?_
          rintro e w5 ⟨rfl, hb⟩
          clear s_a s_b s_c s_d
          have k5 := below_on k4 hb
          have s_5 := s2_on s_4 hb
          clear k4 s_4
          clear hb
          obtain ⟨s_a, s_b, s_c, s_d⟩ := id s_5
          go_wp2_with fail
          refine (P1.out _).mono ?_
          rintro e w6 ⟨rfl, hb⟩
          clear s_a s_b s_c s_d
          have k6 := below_on k5 hb
          have s_6 := s2_on s_5 hb
          clear k5 s_5
          clear hb
          obtain ⟨s_a, s_b, s_c, s_d⟩ := id s_6
          go_wp2_with fail
          refine (U2.out _).mono ?_
          rintro e w7 ⟨rfl, hb⟩
          clear s_a s_b s_c s_d
          have k7 := below_on k6 hb
          have s_7 := s2_on s_6 hb
          clear k6 s_6
          clear hb
          go_upto_region 12 with fail
          generalize hW : World.alloc w7 _ = w8
          obtain ⟨hx, hsx, hb⟩ := s2_new hW
          clear hW
          have k8 := below_on k7 hb
          have s_8 := s2_on s_7 hb
          clear k7 s_7
          have o_8 := hx
          clear hx hb
          cases b with
          | false =>
            obtain ⟨s_a, s_b, s_c, s_d⟩ := id s_8
            obtain ⟨o_a, o_b, o_c, o_d⟩ := id o_8
            go_wp2
            go_ret
            exact ⟨rfl, k8⟩
          | true =>
            obtain ⟨v2, dd, hd, hcd⟩ := HOT.out A B ER.out
            have hk2 : k ≤ 1000000 := by omega
            have hzA : A.length ≤ 1000000000 := by have := (svS_parts v2).2.2.1; omega
            have hzB : B.length ≤ 1000000000 := by have := (svS_parts v2).2.2.2.2.1; omega
            have U3 := Lib.hid fun w => CountBelow_any A B k w hzA hzB (by omega) (by omega)
            rw [hd] at U3
            have hw3 : IntKind.i64.wrap ((c : Int) + (dd : Int)) = (k : Int) := by rw [IntKind.wrap_i64]; omega
            have hke : ((k : Int) == (k : Int)) = true := beq_self_eq_true _
            clear hcd hd
            obtain ⟨s_a, s_b, s_c, s_d⟩ := id s_8
            obtain ⟨o_a, o_b, o_c, o_d⟩ := id o_8
            go_wp2_with fail
            refine (U3.out _).mono ?_
            rintro e w9 ⟨rfl, hb⟩
            clear s_a s_b s_c s_d o_a o_b o_c o_d
            have k9 := below_on k8 hb
            have s_9 := s2_on s_8 hb
            have o_9 := s2_on o_8 hb
            clear k8 s_8 o_8
            clear hb
            obtain ⟨s_a, s_b, s_c, s_d⟩ := id s_9
            obtain ⟨o_a, o_b, o_c, o_d⟩ := id o_9
            go_wp2
            go_ret
            exact ⟨rfl, k9⟩
        · skip
          have P1 := Lib.hid fun w => pbIn_is h l k true w z0 z1 (by omega) (by omega) (hp)
          have hT : c + Bool.toNat true = c + 1 := rfl
          rw [hT] at U1
          obtain ⟨T, hTT⟩ : ∃ T, c + 1 = T := ⟨_, rfl⟩
          rw [hTT] at U1
          have hw2 : IntKind.i64.wrap ((c : Int) + 1) = (T : Int) := by rw [IntKind.wrap_i64]; omega
          have hte : ((T : Int) == (T : Int)) = true := beq_self_eq_true _
          clear hT hTT hp
          obtain ⟨s_a, s_b, s_c, s_d⟩ := id s_4
          go_wp2_with fail
          refine (U1.out _).mono ?_
          rintro e w5 ⟨rfl, hb⟩
          clear s_a s_b s_c s_d
          have k5 := below_on k4 hb
          have s_5 := s2_on s_4 hb
          clear k4 s_4
          clear hb
          obtain ⟨s_a, s_b, s_c, s_d⟩ := id s_5
          go_wp2_with fail
          refine (P1.out _).mono ?_
          rintro e w6 ⟨rfl, hb⟩
          clear s_a s_b s_c s_d
          have k6 := below_on k5 hb
          have s_6 := s2_on s_5 hb
          clear k5 s_5
          clear hb
          obtain ⟨s_a, s_b, s_c, s_d⟩ := id s_6
          go_wp2_with fail
          refine (U2.out _).mono ?_
          rintro e w7 ⟨rfl, hb⟩
          clear s_a s_b s_c s_d
          have k7 := below_on k6 hb
          have s_7 := s2_on s_6 hb
          clear k6 s_6
          clear hb
          go_upto_region 12 with fail
          generalize hW : World.alloc w7 _ = w8
          obtain ⟨hx, hsx, hb⟩ := s2_new hW
          clear hW
          have k8 := below_on k7 hb
          have s_8 := s2_on s_7 hb
          clear k7 s_7
          have o_8 := hx
          clear hx hb
          cases b with
          | false =>
            obtain ⟨s_a, s_b, s_c, s_d⟩ := id s_8
            obtain ⟨o_a, o_b, o_c, o_d⟩ := id o_8
            go_wp2
            go_ret
            exact ⟨rfl, k8⟩
          | true =>
            obtain ⟨v2, dd, hd, hcd⟩ := HOT.out A B ER.out
            have hk2 : k ≤ 1000000 := by omega
            have hzA : A.length ≤ 1000000000 := by have := (svS_parts v2).2.2.1; omega
            have hzB : B.length ≤ 1000000000 := by have := (svS_parts v2).2.2.2.2.1; omega
            have U3 := Lib.hid fun w => CountBelow_any A B k w hzA hzB (by omega) (by omega)
            rw [hd] at U3
            have hw3 : IntKind.i64.wrap ((c : Int) + (dd : Int)) = (k : Int) := by rw [IntKind.wrap_i64]; omega
            have hke : ((k : Int) == (k : Int)) = true := beq_self_eq_true _
            clear hcd hd
            obtain ⟨s_a, s_b, s_c, s_d⟩ := id s_8
            obtain ⟨o_a, o_b, o_c, o_d⟩ := id o_8
            go_wp2_with fail
            refine (U3.out _).mono ?_
            rintro e w9 ⟨rfl, hb⟩
            clear s_a s_b s_c s_d o_a o_b o_c o_d
            have k9 := below_on k8 hb
            have s_9 := s2_on s_8 hb
            have o_9 := s2_on o_8 hb
            clear k8 s_8 o_8
            clear hb
            obtain ⟨s_a, s_b, s_c, s_d⟩ := id s_9
            obtain ⟨o_a, o_b, o_c, o_d⟩ := id o_9
            go_wp2
            go_ret
            exact ⟨rfl, k9⟩
  · have hn' : (1048576 : Int) < (n : Int) := by omega
    go_enter Tryd.func5, Tryd.ntmps5
    go_wp2
    go_ret
    exact ⟨rfl, by go_grown⟩

end Go.Proofs.YtknocndfjnjjfaaDoor
