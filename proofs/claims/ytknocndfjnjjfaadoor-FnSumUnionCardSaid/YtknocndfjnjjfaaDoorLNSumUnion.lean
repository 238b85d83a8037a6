/- The walk of the law FnSumUnion. -/
import Derived.Test.YtknocndfjnjjfaaDoorLwK
import Derived.BigQuiet
import Derived.Deep.RegionHeld3
import Derived.BigGuardPart
import Derived.Deep.DeepCutAuto
namespace Go.Proofs.YtknocndfjnjjfaaDoor
open Go.RowKit

set_option maxRecDepth 10000 in
set_option maxHeartbeats 4000000 in
theorem fnSumUnion_walk (sp : Option Addr) (n cap : Nat) (sp2 : Option Addr) (n2 cap2 : Nat) (w : World) (h : Code w sp n cap) (h2 : Code w sp2 n2 cap2) :
    Calls Tryd.prog 10 #[.slice sp n cap, .slice sp2 n2 cap2] w fun e w' => e = .returned (.bool true) ∧ Below w.heap.size w w' := by
  have HC := Lib.hid h
  have HC2 := Lib.hid h2
  clear h h2
  by_cases hn : n ≤ 1048576
  · have hn' : ¬ (1048576 : Int) < (n : Int) := by omega
    by_cases hm : n2 ≤ 1048576
    · have hm' : ¬ (1048576 : Int) < (n2 : Int) := by omega
      go_enter Tryd.func10, Tryd.ntmps10
      go_wp2_with fail
      refine (DrawSumSets_t sp n cap w HC.out).mono ?_
      rintro e w1 ⟨h, l, h', l', rfl, ⟨s0, s1⟩, ⟨s2, s3⟩, k0⟩
      go_upto_region 4 with fail
      generalize hW : World.alloc w1 _ = w2
      obtain ⟨hx, hsx, hb⟩ := s2_new hW
      clear hW
      have k2 := below_on k0 hb
      clear k0
      have s_2 := hx
      clear hx hb
      have hsx1 := hsx
      clear hsx
      generalize hW : World.alloc w2 _ = w3
      obtain ⟨hx, hsx, hb⟩ := s2_new hW
      clear hW
      have k3 := below_on k2 hb
      have s_3 := s2_on s_2 hb
      clear k2 s_2
      have t_3 := hx
      clear hx hb
      rw [hsx1] at t_3
      clear hsx hsx1
      obtain ⟨s_a, s_b, s_c, s_d⟩ := id s_3
      obtain ⟨t_a, t_b, t_c, t_d⟩ := id t_3
      go_wp2_with fail
      refine (DrawSumSets_t sp2 n2 cap2 w3 (code_on HC2.out k3)).mono ?_
      rintro e w4 ⟨g, m, g2, m2, rfl, ⟨t0, t1⟩, ⟨t2, t3⟩, hb⟩
      clear s_a s_b s_c s_d t_a t_b t_c t_d
      have k4 := below_on k3 hb
      have s_4 := s2_on s_3 hb
      have t_4 := s2_on t_3 hb
      clear k3 s_3 t_3
      clear hb
      go_upto_region 5 with fail
      generalize hW : World.alloc w4 _ = w5
      obtain ⟨hx, hsx, hb⟩ := s2_new hW
      clear hW
      have k5 := below_on k4 hb
      have s_5 := s2_on s_4 hb
      have t_5 := s2_on t_4 hb
      clear k4 s_4 t_4
      have u_5 := hx
      clear hx hb
      have hsx1 := hsx
      clear hsx
      generalize hW : World.alloc w5 _ = w6
      obtain ⟨hx, hsx, hb⟩ := s2_new hW
      clear hW
      have k6 := below_on k5 hb
      have s_6 := s2_on s_5 hb
      have t_6 := s2_on t_5 hb
      have u_6 := s2_on u_5 hb
      clear k5 s_5 t_5 u_5
      have uu_6 := hx
      clear hx hb
      rw [hsx1] at uu_6
      clear hsx hsx1
      clear uu_6
      obtain ⟨z0, z1, z2, z3, z4, z5⟩ : h.length ≤ 1000000000 ∧ l.length ≤ 1000000000 ∧ h'.length ≤ 1000000000 ∧ l'.length ≤ 1000000000 ∧ g.length ≤ 1000000000 ∧ m.length ≤ 1000000000 := ⟨by omega, by omega, by omega, by omega, by omega, by omega⟩
      have HI := Lib.hid fun w => SumSets_any h l h' l' w z0 z1 z2 z3
      have HS := Lib.hid fun w => specSumSets_any h l h' l' w z0 z1 z2 z3
      have HY := Lib.hid fun w => SumSets_any h l g m w z0 z1 z4 z5
      have HU := Lib.hid fun w => UnionSets_any h' l' g m w z2 z3 z4 z5
      have k1 := sm_small h l h' l'
      have k2 := sm_small h l g m
      have k3 := comb_small (fun x y => x || y) h' l' g m
      obtain ⟨RR, e1⟩ : ∃ RR, smR h l h' l' = RR := ⟨_, rfl⟩
      obtain ⟨⟨X, U⟩, b1⟩ := RR
      rw [e1] at HI HS k1
      obtain ⟨RR, e2⟩ : ∃ RR, smR h l g m = RR := ⟨_, rfl⟩
      obtain ⟨⟨Y, V⟩, b2⟩ := RR
      rw [e2] at HY k2
      obtain ⟨RR, e3⟩ : ∃ RR, combR (fun x y => x || y) h' l' g m = RR := ⟨_, rfl⟩
      obtain ⟨⟨P, Q⟩, b3⟩ := RR
      rw [e3] at HU k3
      have HZ := Lib.hid fun w => SumSets_any h l P Q w z0 z1 (by have := k3.1; dsimp only at this; omega) (by have := k3.2; dsimp only at this; omega)
      have HW := Lib.hid fun w => UnionSets_any X U Y V w (by have := k1.1; dsimp only at this; omega) (by have := k1.2; dsimp only at this; omega) (by have := k2.1; dsimp only at this; omega) (by have := k2.2; dsimp only at this; omega)
      obtain ⟨RR, e4⟩ : ∃ RR, smR h l P Q = RR := ⟨_, rfl⟩
      obtain ⟨⟨A, B⟩, b4⟩ := RR
      rw [e4] at HZ
      obtain ⟨RR, e5⟩ : ∃ RR, combR (fun x y => x || y) X U Y V = RR := ⟨_, rfl⟩
      obtain ⟨⟨C, D⟩, b5⟩ := RR
      rw [e5] at HW
      have HL : Hid (b1 = true → b2 = true → b3 = true → b4 = true → b5 = true → A = C ∧ B = D) := Lib.hid fun g1 g2 g3 g4 g5 => by rw [g1] at e1; rw [g2] at e2; rw [g3] at e3; rw [g4] at e4; rw [g5] at e5; exact Prod.mk.inj (sn_law e1 e2 e3 A B C D e4 e5)
      have hn1 := nel_same X U
      have he1 := eql_same X U
      clear e1 e2 e3 e4 e5 k1 k2 k3 s0 s1 s2 s3 t0 t1 t2 t3
      obtain ⟨s_a, s_b, s_c, s_d⟩ := id s_6
      obtain ⟨t_a, t_b, t_c, t_d⟩ := id t_6
      obtain ⟨u_a, u_b, u_c, u_d⟩ := id u_6
      go_wp2_with fail
      refine (HI.out _).mono ?_
      rintro e w7 ⟨rfl, hb⟩
      clear s_a s_b s_c s_d t_a t_b t_c t_d u_a u_b u_c u_d
      have k7 := below_on k6 hb
      have s_7 := s2_on s_6 hb
      have t_7 := s2_on t_6 hb
      have u_7 := s2_on u_6 hb
      clear k6 s_6 t_6 u_6
      clear hb
      go_upto_region 6 with fail
      generalize hW : World.alloc w7 _ = w8
      obtain ⟨hx, hsx, hb⟩ := s2_new hW
      clear hW
      have k8 := below_on k7 hb
      have s_8 := s2_on s_7 hb
      have t_8 := s2_on t_7 hb
      have u_8 := s2_on u_7 hb
      clear k7 s_7 t_7 u_7
      have x_8 := hx
      clear hx hb
      obtain ⟨s_a, s_b, s_c, s_d⟩ := id s_8
      obtain ⟨t_a, t_b, t_c, t_d⟩ := id t_8
      obtain ⟨u_a, u_b, u_c, u_d⟩ := id u_8
      obtain ⟨x_a, x_b, x_c, x_d⟩ := id x_8
      go_wp2_with fail
      refine (HS.out _).mono ?_
      rintro e w9 ⟨rfl, hb⟩
      clear s_a s_b s_c s_d t_a t_b t_c t_d u_a u_b u_c u_d x_a x_b x_c x_d
      have k9 := below_on k8 hb
      have s_9 := s2_on s_8 hb
      have t_9 := s2_on t_8 hb
      have u_9 := s2_on u_8 hb
      have x_9 := s2_on x_8 hb
      clear k8 s_8 t_8 u_8 x_8
      clear hb
      go_upto_region 7 with fail
      generalize hW : World.alloc w9 _ = w10
      obtain ⟨hx, hsx, hb⟩ := s2_new hW
      clear hW
      have k10 := below_on k9 hb
      have s_10 := s2_on s_9 hb
      have t_10 := s2_on t_9 hb
      have u_10 := s2_on u_9 hb
      have x_10 := s2_on x_9 hb
      clear k9 s_9 t_9 u_9 x_9
      have want_10 := hx
      clear hx hb
      obtain ⟨s_a, s_b, s_c, s_d⟩ := id s_10
      obtain ⟨t_a, t_b, t_c, t_d⟩ := id t_10
      obtain ⟨u_a, u_b, u_c, u_d⟩ := id u_10
      obtain ⟨x_a, x_b, x_c, x_d⟩ := id x_10
      obtain ⟨want_a, want_b, want_c, want_d⟩ := id want_10
      go_wp2_with fail
      refine (HY.out _).mono ?_
      rintro e w11 ⟨rfl, hb⟩
      clear s_a s_b s_c s_d t_a t_b t_c t_d u_a u_b u_c u_d x_a x_b x_c x_d want_a want_b want_c want_d
      have k11 := below_on k10 hb
      have s_11 := s2_on s_10 hb
      have t_11 := s2_on t_10 hb
      have u_11 := s2_on u_10 hb
      have x_11 := s2_on x_10 hb
      have want_11 := s2_on want_10 hb
      clear k10 s_10 t_10 u_10 x_10 want_10
      clear hb
      go_upto_region 8 with fail
      generalize hW : World.alloc w11 _ = w12
      obtain ⟨hx, hsx, hb⟩ := s2_new hW
      clear hW
      have k12 := below_on k11 hb
      have s_12 := s2_on s_11 hb
      have t_12 := s2_on t_11 hb
      have u_12 := s2_on u_11 hb
      have x_12 := s2_on x_11 hb
      have want_12 := s2_on want_11 hb
      clear k11 s_11 t_11 u_11 x_11 want_11
      have y_12 := hx
      clear hx hb
      obtain ⟨s_a, s_b, s_c, s_d⟩ := id s_12
      obtain ⟨t_a, t_b, t_c, t_d⟩ := id t_12
      obtain ⟨u_a, u_b, u_c, u_d⟩ := id u_12
      obtain ⟨x_a, x_b, x_c, x_d⟩ := id x_12
      obtain ⟨want_a, want_b, want_c, want_d⟩ := id want_12
      obtain ⟨y_a, y_b, y_c, y_d⟩ := id y_12
      go_wp2_with fail
      refine (HU.out _).mono ?_
      rintro e w13 ⟨rfl, hb⟩
      clear s_a s_b s_c s_d t_a t_b t_c t_d u_a u_b u_c u_d x_a x_b x_c x_d want_a want_b want_c want_d y_a y_b y_c y_d
      have k13 := below_on k12 hb
      have s_13 := s2_on s_12 hb
      have t_13 := s2_on t_12 hb
      have u_13 := s2_on u_12 hb
      have x_13 := s2_on x_12 hb
      have want_13 := s2_on want_12 hb
      have y_13 := s2_on y_12 hb
      clear k12 s_12 t_12 u_12 x_12 want_12 y_12
      clear hb
      go_upto_region 9 with fail
      generalize hW : World.alloc w13 _ = w14
      obtain ⟨hx, hsx, hb⟩ := s2_new hW
      clear hW
      have k14 := below_on k13 hb
      have s_14 := s2_on s_13 hb
      have t_14 := s2_on t_13 hb
      have u_14 := s2_on u_13 hb
      have x_14 := s2_on x_13 hb
      have want_14 := s2_on want_13 hb
      have y_14 := s2_on y_13 hb
      clear k13 s_13 t_13 u_13 x_13 want_13 y_13
      have p_14 := hx
      clear hx hb
      obtain ⟨s_a, s_b, s_c, s_d⟩ := id s_14
      obtain ⟨t_a, t_b, t_c, t_d⟩ := id t_14
      obtain ⟨u_a, u_b, u_c, u_d⟩ := id u_14
      obtain ⟨x_a, x_b, x_c, x_d⟩ := id x_14
      obtain ⟨want_a, want_b, want_c, want_d⟩ := id want_14
      obtain ⟨y_a, y_b, y_c, y_d⟩ := id y_14
      obtain ⟨p_a, p_b, p_c, p_d⟩ := id p_14
      cases b1 with
      | false =>
        go_wp2
        go_ret
        exact ⟨rfl, k14⟩
      | true =>
        cases b2 with
        | false =>
          go_wp2
          go_ret
          exact ⟨rfl, k14⟩
        | true =>
          cases b3 with
          | false =>
            go_wp2
            go_ret
            exact ⟨rfl, k14⟩
          | true =>
            go_upto_region 11 with fail
            clear s_a s_b s_c s_d t_a t_b t_c t_d u_a u_b u_c u_d x_a x_b x_c x_d want_a want_b want_c want_d y_a y_b y_c y_d p_a p_b p_c p_d
            clear want_14
            obtain ⟨s_a, s_b, s_c, s_d⟩ := id s_14
            obtain ⟨t_a, t_b, t_c, t_d⟩ := id t_14
            obtain ⟨u_a, u_b, u_c, u_d⟩ := id u_14
            obtain ⟨x_a, x_b, x_c, x_d⟩ := id x_14
            obtain ⟨y_a, y_b, y_c, y_d⟩ := id y_14
            obtain ⟨p_a, p_b, p_c, p_d⟩ := id p_14
            go_wp2_with fail
            refine (HZ.out _).mono ?_
            rintro e w15 ⟨rfl, hb⟩
            clear s_a s_b s_c s_d t_a t_b t_c t_d u_a u_b u_c u_d x_a x_b x_c x_d y_a y_b y_c y_d p_a p_b p_c p_d
            have k15 := below_on k14 hb
            have s_15 := s2_on s_14 hb
            have t_15 := s2_on t_14 hb
            have u_15 := s2_on u_14 hb
            have x_15 := s2_on x_14 hb
            have y_15 := s2_on y_14 hb
            have p_15 := s2_on p_14 hb
            clear k14 s_14 t_14 u_14 x_14 y_14 p_14
            clear hb
            go_upto_region 12 with fail
            generalize hW : World.alloc w15 _ = w16
            obtain ⟨hx, hsx, hb⟩ := s2_new hW
            clear hW
            have k16 := below_on k15 hb
            have s_16 := s2_on s_15 hb
            have t_16 := s2_on t_15 hb
            have u_16 := s2_on u_15 hb
            have x_16 := s2_on x_15 hb
            have y_16 := s2_on y_15 hb
            have p_16 := s2_on p_15 hb
            clear k15 s_15 t_15 u_15 x_15 y_15 p_15
            have z_16 := hx
            clear hx hb
            obtain ⟨s_a, s_b, s_c, s_d⟩ := id s_16
            obtain ⟨t_a, t_b, t_c, t_d⟩ := id t_16
            obtain ⟨u_a, u_b, u_c, u_d⟩ := id u_16
            obtain ⟨x_a, x_b, x_c, x_d⟩ := id x_16
            obtain ⟨y_a, y_b, y_c, y_d⟩ := id y_16
            obtain ⟨p_a, p_b, p_c, p_d⟩ := id p_16
            obtain ⟨z_a, z_b, z_c, z_d⟩ := id z_16
            go_wp2_with fail
            refine (HW.out _).mono ?_
            rintro e w17 ⟨rfl, hb⟩
            clear s_a s_b s_c s_d t_a t_b t_c t_d u_a u_b u_c u_d x_a x_b x_c x_d y_a y_b y_c y_d p_a p_b p_c p_d z_a z_b z_c z_d
            have k17 := below_on k16 hb
            have s_17 := s2_on s_16 hb
            have t_17 := s2_on t_16 hb
            have u_17 := s2_on u_16 hb
            have x_17 := s2_on x_16 hb
            have y_17 := s2_on y_16 hb
            have p_17 := s2_on p_16 hb
            have z_17 := s2_on z_16 hb
            clear k16 s_16 t_16 u_16 x_16 y_16 p_16 z_16
            clear hb
            go_upto_region 13 with fail
            generalize hW : World.alloc w17 _ = w18
            obtain ⟨hx, hsx, hb⟩ := s2_new hW
            clear hW
            have k18 := below_on k17 hb
            have s_18 := s2_on s_17 hb
            have t_18 := s2_on t_17 hb
            have u_18 := s2_on u_17 hb
            have x_18 := s2_on x_17 hb
            have y_18 := s2_on y_17 hb
            have p_18 := s2_on p_17 hb
            have z_18 := s2_on z_17 hb
            clear k17 s_17 t_17 u_17 x_17 y_17 p_17 z_17
            have v_18 := hx
            clear hx hb
            obtain ⟨s_a, s_b, s_c, s_d⟩ := id s_18
            obtain ⟨t_a, t_b, t_c, t_d⟩ := id t_18
            obtain ⟨u_a, u_b, u_c, u_d⟩ := id u_18
            obtain ⟨x_a, x_b, x_c, x_d⟩ := id x_18
            obtain ⟨y_a, y_b, y_c, y_d⟩ := id y_18
            obtain ⟨p_a, p_b, p_c, p_d⟩ := id p_18
            obtain ⟨z_a, z_b, z_c, z_d⟩ := id z_18
            obtain ⟨v_a, v_b, v_c, v_d⟩ := id v_18
            cases b4 with
            | false =>
              go_wp2
              go_ret
              exact ⟨rfl, k18⟩
            | true =>
              cases b5 with
              | false =>
                go_wp2
                go_ret
                exact ⟨rfl, k18⟩
              | true =>
                clear s_a s_b s_c s_d t_a t_b t_c t_d u_a u_b u_c u_d x_a x_b x_c x_d y_a y_b y_c y_d p_a p_b p_c p_d z_a z_b z_c z_d v_a v_b v_c v_d
                obtain ⟨rfl, rfl⟩ := HL.out (by first | rfl | trivial) (by first | rfl | trivial) (by first | rfl | trivial) (by first | rfl | trivial) (by first | rfl | trivial)
                have he2 := eql_same A B
                obtain ⟨s_a, s_b, s_c, s_d⟩ := id s_18
                obtain ⟨t_a, t_b, t_c, t_d⟩ := id t_18
                obtain ⟨u_a, u_b, u_c, u_d⟩ := id u_18
                obtain ⟨x_a, x_b, x_c, x_d⟩ := id x_18
                obtain ⟨y_a, y_b, y_c, y_d⟩ := id y_18
                obtain ⟨p_a, p_b, p_c, p_d⟩ := id p_18
                obtain ⟨z_a, z_b, z_c, z_d⟩ := id z_18
                obtain ⟨v_a, v_b, v_c, v_d⟩ := id v_18
                go_wp2
                go_ret
                exact ⟨rfl, k18⟩
    · have hm' : (1048576 : Int) < (n2 : Int) := by omega
      go_enter Tryd.func10, Tryd.ntmps10
      go_wp2
      go_ret
      exact ⟨rfl, by go_grown⟩
  · have hn' : (1048576 : Int) < (n : Int) := by omega
    go_enter Tryd.func10, Tryd.ntmps10
    go_wp2
    go_ret
    exact ⟨rfl, by go_grown⟩

end Go.Proofs.YtknocndfjnjjfaaDoor
