/- The walk of the law FnSameSet. -/
import Derived.Test.YtbckigekedpdgaaDoorLwK
import Derived.Test.YtbckigekedpdgaaDoorPbE
import Derived.BigQuiet
import Derived.Deep.RegionHeld3
import Derived.BigGuardPart
import Derived.Deep.DeepCutAuto
namespace Go.Proofs.YtbckigekedpdgaaDoor
open Go.RowKit

set_option maxRecDepth 10000 in
set_option maxHeartbeats 4000000 in
theorem fnSameSet_walk (sp : Option Addr) (n cap : Nat) (w : World) (h : Code w sp n cap) :
    Calls Tryd.prog 5 #[.slice sp n cap] w fun e w' => e = .returned (.bool true) ∧ Below w.heap.size w w' := by
  have HC := Lib.hid h
  clear h
  by_cases hn : n ≤ 1048576
  · have hn' : ¬ (1048576 : Int) < (n : Int) := by omega
    go_enter Tryd.func5, Tryd.ntmps5
    go_wp2_with fail
    refine (DrawSameSet_t sp n cap w HC.out).mono ?_
    rintro e w1 ⟨h, l, h', l', rfl, ⟨s0, s1⟩, ⟨s2, s3⟩, k0⟩
    go_upto_region 4 with fail
    generalize hW : World.alloc w1 _ = w2
    obtain ⟨hx, hsx, hb⟩ := s2_new hW
    clear hW
    have k2 := below_on k0 hb
    clear k0
    have s_2 := hx
    clear hx hb
    have hsx1 := hsx
    clear hsx
    generalize hW : World.alloc w2 _ = w3
    obtain ⟨hx, hsx, hb⟩ := s2_new hW
    clear hW
    have k3 := below_on k2 hb
    have s_3 := s2_on s_2 hb
    clear k2 s_2
    have t_3 := hx
    clear hx hb
    rw [hsx1] at t_3
    clear hsx hsx1
    obtain ⟨z0, z1, z2, z3⟩ : h.length ≤ 1000000000 ∧ l.length ≤ 1000000000 ∧ h'.length ≤ 1000000000 ∧ l'.length ≤ 1000000000 := ⟨by omega, by omega, by omega, by omega⟩
    have HI := Lib.hid fun w => SameSet_any h l h' l' w z0 z1 z2 z3
    have HS := Lib.hid fun w => specSameSet_any h l h' l' w z0 z1 z2 z3
    have HR := Lib.hid fun w => SameSet_any h' l' h l w z2 z3 z0 z1
    have V1 := Lib.hid fun w => SetValid_any h l w z0 z1
    have V2 := Lib.hid fun w => SetValid_any h' l' w z2 z3
    rw [ss_sym] at HR
    obtain ⟨b, hb⟩ : ∃ b, ssB h l h' l' = b := ⟨_, rfl⟩
    obtain ⟨v, hv⟩ : ∃ v, svS h l = v := ⟨_, rfl⟩
    obtain ⟨u, hu⟩ : ∃ u, svS h' l' = u := ⟨_, rfl⟩
    rw [hb] at HI HS HR
    rw [hv] at V1
    rw [hu] at V2
    have HB := Lib.hid hb
    have HVV := Lib.hid hv
    have HU := Lib.hid hu
    have hbb : (b != b) = false := by cases b <;> rfl
    have hbe : (b == b) = true := by cases b <;> rfl
    clear hb hv hu s0 s1 s2 s3
    obtain ⟨s_a, s_b, s_c, s_d⟩ := id s_3
    obtain ⟨t_a, t_b, t_c, t_d⟩ := id t_3
    go_wp2_with fail
    refine (HI.out _).mono ?_
    rintro e w4 ⟨rfl, hb⟩
    clear s_a s_b s_c s_d t_a t_b t_c t_d
    have k4 := below_on k3 hb
    have s_4 := s2_on s_3 hb
    have t_4 := s2_on t_3 hb
    clear k3 s_3 t_3
    clear hb
    obtain ⟨s_a, s_b, s_c, s_d⟩ := id s_4
    obtain ⟨t_a, t_b, t_c, t_d⟩ := id t_4
    go_wp2_with fail
    refine (HS.out _).mono ?_
    rintro e w5 ⟨rfl, hb⟩
    clear s_a s_b s_c s_d t_a t_b t_c t_d
    have k5 := below_on k4 hb
    have s_5 := s2_on s_4 hb
    have t_5 := s2_on t_4 hb
    clear k4 s_4 t_4
    clear hb
    obtain ⟨s_a, s_b, s_c, s_d⟩ := id s_5
    obtain ⟨t_a, t_b, t_c, t_d⟩ := id t_5
    go_wp2_with fail
    refine (V1.out _).mono ?_
    rintro e w6 ⟨rfl, hb⟩
    clear s_a s_b s_c s_d t_a t_b t_c t_d
    have k6 := below_on k5 hb
    have s_6 := s2_on s_5 hb
    have t_6 := s2_on t_5 hb
    clear k5 s_5 t_5
    clear hb
    cases v with
    | false =>
      obtain rfl : b = false := by rw [← HB.out]; unfold ssB; rw [HVV.out]; rfl
      obtain ⟨s_a, s_b, s_c, s_d⟩ := id s_6
      obtain ⟨t_a, t_b, t_c, t_d⟩ := id t_6
      go_wp2_with fail
      refine (HS.out _).mono ?_
      rintro e w7 ⟨rfl, hb⟩
      clear s_a s_b s_c s_d t_a t_b t_c t_d
      have k7 := below_on k6 hb
      have s_7 := s2_on s_6 hb
      have t_7 := s2_on t_6 hb
      clear k6 s_6 t_6
      clear hb
      obtain ⟨s_a, s_b, s_c, s_d⟩ := id s_7
      obtain ⟨t_a, t_b, t_c, t_d⟩ := id t_7
      go_wp2_with fail
      refine (V1.out _).mono ?_
      rintro e w8 ⟨rfl, hb⟩
      clear s_a s_b s_c s_d t_a t_b t_c t_d
      have k8 := below_on k7 hb
      have s_8 := s2_on s_7 hb
      have t_8 := s2_on t_7 hb
      clear k7 s_7 t_7
      clear hb
      obtain ⟨s_a, s_b, s_c, s_d⟩ := id s_8
      obtain ⟨t_a, t_b, t_c, t_d⟩ := id t_8
      go_wp2
      go_ret
      exact ⟨rfl, k8⟩
    | true =>
      obtain ⟨s_a, s_b, s_c, s_d⟩ := id s_6
      obtain ⟨t_a, t_b, t_c, t_d⟩ := id t_6
      go_wp2_with fail
      refine (V2.out _).mono ?_
      rintro e w7 ⟨rfl, hb⟩
      clear s_a s_b s_c s_d t_a t_b t_c t_d
      have k7 := below_on k6 hb
      have s_7 := s2_on s_6 hb
      have t_7 := s2_on t_6 hb
      clear k6 s_6 t_6
      clear hb
      cases u with
      | false =>
        obtain rfl : b = false := by rw [← HB.out]; unfold ssB; rw [HU.out, Bool.and_false]; rfl
        obtain ⟨s_a, s_b, s_c, s_d⟩ := id s_7
        obtain ⟨t_a, t_b, t_c, t_d⟩ := id t_7
        go_wp2_with fail
        refine (HS.out _).mono ?_
        rintro e w8 ⟨rfl, hb⟩
        clear s_a s_b s_c s_d t_a t_b t_c t_d
        have k8 := below_on k7 hb
        have s_8 := s2_on s_7 hb
        have t_8 := s2_on t_7 hb
        clear k7 s_7 t_7
        clear hb
        obtain ⟨s_a, s_b, s_c, s_d⟩ := id s_8
        obtain ⟨t_a, t_b, t_c, t_d⟩ := id t_8
        go_wp2_with fail
        refine (V1.out _).mono ?_
        rintro e w9 ⟨rfl, hb⟩
        clear s_a s_b s_c s_d t_a t_b t_c t_d
        have k9 := below_on k8 hb
        have s_9 := s2_on s_8 hb
        have t_9 := s2_on t_8 hb
        clear k8 s_8 t_8
        clear hb
        obtain ⟨s_a, s_b, s_c, s_d⟩ := id s_9
        obtain ⟨t_a, t_b, t_c, t_d⟩ := id t_9
        go_wp2_with fail
        refine (V2.out _).mono ?_
        rintro e w10 ⟨rfl, hb⟩
        clear s_a s_b s_c s_d t_a t_b t_c t_d
        have k10 := below_on k9 hb
        have s_10 := s2_on s_9 hb
        have t_10 := s2_on t_9 hb
        clear k9 s_9 t_9
        clear hb
        obtain ⟨s_a, s_b, s_c, s_d⟩ := id s_10
        obtain ⟨t_a, t_b, t_c, t_d⟩ := id t_10
        go_wp2
        go_ret
        exact ⟨rfl, k10⟩
      | true =>
        obtain ⟨X, Y, P, Q, e1, e2, v3, v4, eb, hall, hback⟩ := ss_law HVV.out HU.out
        rw [HB.out] at eb hall hback
        have N1 := Lib.hid fun w => NormalSet_any h l w z0 z1
        rw [e1] at N1
        have N2 := Lib.hid fun w => NormalSet_any h' l' w z2 z3
        rw [e2] at N2
        have heq := eql_set X Y P Q
        rw [← eb] at heq
        have hz1 := bs_size h
        have hz2 := bs_size l
        have hz3 := bs_size h'
        have hz4 := bs_size l'
        obtain ⟨_, _, q1, _, q2, _⟩ := svS_parts HVV.out
        obtain ⟨_, _, q3, _, q4, _⟩ := svS_parts HU.out
        obtain ⟨a1, ha1⟩ : ∃ x, h.length = x := ⟨_, rfl⟩
        obtain ⟨a2, ha2⟩ : ∃ x, l.length = x := ⟨_, rfl⟩
        obtain ⟨a3, ha3⟩ : ∃ x, h'.length = x := ⟨_, rfl⟩
        obtain ⟨a4, ha4⟩ : ∃ x, l'.length = x := ⟨_, rfl⟩
        rw [ha1] at hz1 q1
        rw [ha2] at hz2 q2
        rw [ha3] at hz3 q3
        rw [ha4] at hz4 q4
        rw [ha1, ha2, ha3, ha4] at hback
        have hdb : 2 * a2 * a4 ≤ 480 * 240 := Nat.mul_le_mul (by omega) q4
        obtain ⟨D, hD⟩ : ∃ D, 2 * a2 = D := ⟨_, rfl⟩
        have hwD : IntKind.i64.wrap (2 * (a2 : Int)) = (D : Int) := by rw [IntKind.wrap_i64]; omega
        rw [hD] at hdb hback
        obtain ⟨E, hE⟩ : ∃ E, D * a4 = E := ⟨_, rfl⟩
        rw [hE] at hdb hback
        have hwE : IntKind.i64.wrap ((D : Int) * (a4 : Int)) = (E : Int) := by rw [← Int.natCast_mul, hE, IntKind.wrap_i64]; omega
        obtain ⟨F, hF⟩ : ∃ F, a1 + a3 = F := ⟨_, rfl⟩
        have hwF : IntKind.i64.wrap ((a1 : Int) + (a3 : Int)) = (F : Int) := by rw [IntKind.wrap_i64]; omega
        rw [hF] at hback
        obtain ⟨G, hG⟩ : ∃ G, F + E = G := ⟨_, rfl⟩
        have hwG : IntKind.i64.wrap ((F : Int) + (E : Int)) = (G : Int) := by rw [IntKind.wrap_i64]; omega
        rw [hG] at hback
        have hGb : G ≤ 1000000 := by omega
        have PE := Lib.hid fun w => pbEqual_is h l h' l' G b w z0 z1 z2 z3 (by omega) ⟨fun g n _ => hall g n, hback⟩
        clear hall hback hD hE hF hG hdb q1 q2 q3 q4 e1 e2 eb ha1 ha2 ha3 ha4 v3 v4 HI HS V1 V2
        obtain ⟨s_a, s_b, s_c, s_d⟩ := id s_7
        obtain ⟨t_a, t_b, t_c, t_d⟩ := id t_7
        go_wp2_with fail
        refine (N1.out _).mono ?_
        rintro e w8 ⟨rfl, hb⟩
        clear s_a s_b s_c s_d t_a t_b t_c t_d
        have k8 := below_on k7 hb
        have s_8 := s2_on s_7 hb
        have t_8 := s2_on t_7 hb
        clear k7 s_7 t_7
        clear hb
        go_upto_region 8 with fail
        generalize hW : World.alloc w8 _ = w9
        obtain ⟨hx, hsx, hb⟩ := s2_new hW
        clear hW
        have k9 := below_on k8 hb
        have s_9 := s2_on s_8 hb
        have t_9 := s2_on t_8 hb
        clear k8 s_8 t_8
        have x_9 := hx
        clear hx hb
        obtain ⟨s_a, s_b, s_c, s_d⟩ := id s_9
        obtain ⟨t_a, t_b, t_c, t_d⟩ := id t_9
        obtain ⟨x_a, x_b, x_c, x_d⟩ := id x_9
        go_wp2_with fail
        refine (N2.out _).mono ?_
        rintro e w10 ⟨rfl, hb⟩
        clear s_a s_b s_c s_d t_a t_b t_c t_d x_a x_b x_c x_d
        have k10 := below_on k9 hb
        have s_10 := s2_on s_9 hb
        have t_10 := s2_on t_9 hb
        have x_10 := s2_on x_9 hb
        clear k9 s_9 t_9 x_9
        clear hb
        go_upto_region 9 with fail
        generalize hW : World.alloc w10 _ = w11
        obtain ⟨hx, hsx, hb⟩ := s2_new hW
        clear hW
        have k11 := below_on k10 hb
        have s_11 := s2_on s_10 hb
        have t_11 := s2_on t_10 hb
        have x_11 := s2_on x_10 hb
        clear k10 s_10 t_10 x_10
        have y_11 := hx
        clear hx hb
        by_cases hg : 3000 < G
        · have hgd : decide ((3000 : Int) < (G : Int)) = true := decide_eq_true (by omega)
          have hgd2 : decide (3000 < G) = true := decide_eq_true hg
          clear hg
          obtain ⟨s_a, s_b, s_c, s_d⟩ := id s_11
          obtain ⟨t_a, t_b, t_c, t_d⟩ := id t_11
          obtain ⟨x_a, x_b, x_c, x_d⟩ := id x_11
          obtain ⟨y_a, y_b, y_c, y_d⟩ := id y_11
          go_wp2_with fail
          refine (HR.out _).mono ?_
          rintro e w12 ⟨rfl, hb⟩
          clear s_a s_b s_c s_d t_a t_b t_c t_d x_a x_b x_c x_d y_a y_b y_c y_d
          have k12 := below_on k11 hb
          have s_12 := s2_on s_11 hb
          have t_12 := s2_on t_11 hb
          have x_12 := s2_on x_11 hb
          have y_12 := s2_on y_11 hb
          clear k11 s_11 t_11 x_11 y_11
          clear hb
          obtain ⟨s_a, s_b, s_c, s_d⟩ := id s_12
          obtain ⟨t_a, t_b, t_c, t_d⟩ := id t_12
          obtain ⟨x_a, x_b, x_c, x_d⟩ := id x_12
          obtain ⟨y_a, y_b, y_c, y_d⟩ := id y_12
          go_wp2
          go_ret
          exact ⟨rfl, k12⟩
        · have hgd : decide ((3000 : Int) < (G : Int)) = false := decide_eq_false (by omega)
          have hgd2 : decide (3000 < G) = false := decide_eq_false hg
          clear hg
          obtain ⟨s_a, s_b, s_c, s_d⟩ := id s_11
          obtain ⟨t_a, t_b, t_c, t_d⟩ := id t_11
          obtain ⟨x_a, x_b, x_c, x_d⟩ := id x_11
          obtain ⟨y_a, y_b, y_c, y_d⟩ := id y_11
          go_wp2_with fail
          refine (PE.out _).mono ?_
          rintro e w12 ⟨rfl, hb⟩
          clear s_a s_b s_c s_d t_a t_b t_c t_d x_a x_b x_c x_d y_a y_b y_c y_d
          have k12 := below_on k11 hb
          have s_12 := s2_on s_11 hb
          have t_12 := s2_on t_11 hb
          have x_12 := s2_on x_11 hb
          have y_12 := s2_on y_11 hb
          clear k11 s_11 t_11 x_11 y_11
          clear hb
          obtain ⟨s_a, s_b, s_c, s_d⟩ := id s_12
          obtain ⟨t_a, t_b, t_c, t_d⟩ := id t_12
          obtain ⟨x_a, x_b, x_c, x_d⟩ := id x_12
          obtain ⟨y_a, y_b, y_c, y_d⟩ := id y_12
          go_wp2_with fail
          refine (HR.out _).mono ?_
          rintro e w13 ⟨rfl, hb⟩
          clear s_a s_b s_c s_d t_a t_b t_c t_d x_a x_b x_c x_d y_a y_b y_c y_d
          have k13 := below_on k12 hb
          have s_13 := s2_on s_12 hb
          have t_13 := s2_on t_12 hb
          have x_13 := s2_on x_12 hb
          have y_13 := s2_on y_12 hb
          clear k12 s_12 t_12 x_12 y_12
          clear hb
          obtain ⟨s_a, s_b, s_c, s_d⟩ := id s_13
          obtain ⟨t_a, t_b, t_c, t_d⟩ := id t_13
          obtain ⟨x_a, x_b, x_c, x_d⟩ := id x_13
          obtain ⟨y_a, y_b, y_c, y_d⟩ := id y_13
          go_wp2
          go_ret
          exact ⟨rfl, k13⟩
  · have hn' : (1048576 : Int) < (n : Int) := by omega
    go_enter Tryd.func5, Tryd.ntmps5
    go_wp2
    go_ret
    exact ⟨rfl, by go_grown⟩

end Go.Proofs.YtbckigekedpdgaaDoor
