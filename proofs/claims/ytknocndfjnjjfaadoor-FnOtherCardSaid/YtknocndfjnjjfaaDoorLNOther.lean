/- The walk of the law FnOther. -/
import Derived.Test.YtknocndfjnjjfaaDoorLwK
import Derived.BigQuiet
import Derived.Deep.RegionHeld3
import Derived.BigGuardPart
import Derived.Deep.DeepCutAuto
namespace Go.Proofs.YtknocndfjnjjfaaDoor
open Go.RowKit

set_option maxRecDepth 10000 in
set_option maxHeartbeats 4000000 in
theorem fnOther_walk (sp : Option Addr) (n cap : Nat) (w : World) (h : Code w sp n cap) :
    Calls Tryd.prog 4 #[.slice sp n cap] w fun e w' => e = .returned (.bool true) ∧ Below w.heap.size w w' := by
  have HC := Lib.hid h
  clear h
  by_cases hn : n ≤ 1048576
  · have hn' : ¬ (1048576 : Int) < (n : Int) := by omega
    go_enter Tryd.func4, Tryd.ntmps4
    go_wp2_with fail
    refine (DrawMeetSets_t sp n cap w HC.out).mono ?_
    rintro e w1 ⟨h, l, h', l', rfl, ⟨s0, s1⟩, ⟨s2, s3⟩, k0⟩
    go_upto_region 4 with fail
    generalize hW : World.alloc w1 _ = w2
    obtain ⟨hx, hsx, hb⟩ := s2_new hW
    clear hW
    have k2 := below_on k0 hb
    clear k0
    have s_2 := hx
    clear hx hb
    have hsx1 := hsx
    clear hsx
    generalize hW : World.alloc w2 _ = w3
    obtain ⟨hx, hsx, hb⟩ := s2_new hW
    clear hW
    have k3 := below_on k2 hb
    have s_3 := s2_on s_2 hb
    clear k2 s_2
    have t_3 := hx
    clear hx hb
    rw [hsx1] at t_3
    clear hsx hsx1
    obtain ⟨z0, z1, z2, z3⟩ : h.length ≤ 1000000000 ∧ l.length ≤ 1000000000 ∧ h'.length ≤ 1000000000 ∧ l'.length ≤ 1000000000 := ⟨by omega, by omega, by omega, by omega⟩
    have HA := Lib.hid fun w => OtherSet_any h l w z0 z1
    have HS := Lib.hid fun w => specOtherSet_any h l w z0 z1
    have HB := Lib.hid fun w => OtherSet_any h' l' w z2 z3
    have HU := Lib.hid fun w => UnionSets_any h l h' l' w z0 z1 z2 z3
    obtain ⟨R, er1⟩ : ∃ R, combR (fun x _ => !x) h l h l = R := ⟨_, rfl⟩
    obtain ⟨⟨A, B⟩, ba⟩ := R
    rw [er1] at HA HS
    obtain ⟨R, er2⟩ : ∃ R, combR (fun x _ => !x) h' l' h' l' = R := ⟨_, rfl⟩
    obtain ⟨⟨C, D⟩, bc⟩ := R
    rw [er2] at HB
    obtain ⟨R, er3⟩ : ∃ R, combR (fun x y => x || y) h l h' l' = R := ⟨_, rfl⟩
    obtain ⟨⟨X, U⟩, bx⟩ := R
    rw [er3] at HU
    have ER1 := Lib.hid er1
    have ER2 := Lib.hid er2
    have ER3 := Lib.hid er3
    have hn1 := nel_same A B
    have he1 := eql_same A B
    clear er1 er2 er3 s0 s1 s2 s3
    obtain ⟨s_a, s_b, s_c, s_d⟩ := id s_3
    obtain ⟨t_a, t_b, t_c, t_d⟩ := id t_3
    go_wp2_with fail
    refine (HA.out _).mono ?_
    rintro e w4 ⟨rfl, hb⟩
    clear s_a s_b s_c s_d t_a t_b t_c t_d
    have k4 := below_on k3 hb
    have s_4 := s2_on s_3 hb
    have t_4 := s2_on t_3 hb
    clear k3 s_3 t_3
    clear hb
    go_upto_region 5 with fail
    generalize hW : World.alloc w4 _ = w5
    obtain ⟨hx, hsx, hb⟩ := s2_new hW
    clear hW
    have k5 := below_on k4 hb
    have s_5 := s2_on s_4 hb
    have t_5 := s2_on t_4 hb
    clear k4 s_4 t_4
    have a_5 := hx
    clear hx hb
    obtain ⟨s_a, s_b, s_c, s_d⟩ := id s_5
    obtain ⟨t_a, t_b, t_c, t_d⟩ := id t_5
    obtain ⟨a_a, a_b, a_c, a_d⟩ := id a_5
    go_wp2_with fail
    refine (HS.out _).mono ?_
    rintro e w6 ⟨rfl, hb⟩
    clear s_a s_b s_c s_d t_a t_b t_c t_d a_a a_b a_c a_d
    have k6 := below_on k5 hb
    have s_6 := s2_on s_5 hb
    have t_6 := s2_on t_5 hb
    have a_6 := s2_on a_5 hb
    clear k5 s_5 t_5 a_5
    clear hb
    go_upto_region 6 with fail
    generalize hW : World.alloc w6 _ = w7
    obtain ⟨hx, hsx, hb⟩ := s2_new hW
    clear hW
    have k7 := below_on k6 hb
    have s_7 := s2_on s_6 hb
    have t_7 := s2_on t_6 hb
    have a_7 := s2_on a_6 hb
    clear k6 s_6 t_6 a_6
    have want_7 := hx
    clear hx hb
    obtain ⟨s_a, s_b, s_c, s_d⟩ := id s_7
    obtain ⟨t_a, t_b, t_c, t_d⟩ := id t_7
    obtain ⟨a_a, a_b, a_c, a_d⟩ := id a_7
    obtain ⟨want_a, want_b, want_c, want_d⟩ := id want_7
    go_wp2_with fail
    refine (HB.out _).mono ?_
    rintro e w8 ⟨rfl, hb⟩
    clear s_a s_b s_c s_d t_a t_b t_c t_d a_a a_b a_c a_d want_a want_b want_c want_d
    have k8 := below_on k7 hb
    have s_8 := s2_on s_7 hb
    have t_8 := s2_on t_7 hb
    have a_8 := s2_on a_7 hb
    have want_8 := s2_on want_7 hb
    clear k7 s_7 t_7 a_7 want_7
    clear hb
    go_upto_region 7 with fail
    generalize hW : World.alloc w8 _ = w9
    obtain ⟨hx, hsx, hb⟩ := s2_new hW
    clear hW
    have k9 := below_on k8 hb
    have s_9 := s2_on s_8 hb
    have t_9 := s2_on t_8 hb
    have a_9 := s2_on a_8 hb
    have want_9 := s2_on want_8 hb
    clear k8 s_8 t_8 a_8 want_8
    have b_9 := hx
    clear hx hb
    obtain ⟨s_a, s_b, s_c, s_d⟩ := id s_9
    obtain ⟨t_a, t_b, t_c, t_d⟩ := id t_9
    obtain ⟨a_a, a_b, a_c, a_d⟩ := id a_9
    obtain ⟨want_a, want_b, want_c, want_d⟩ := id want_9
    obtain ⟨b_a, b_b, b_c, b_d⟩ := id b_9
    go_wp2_with fail
    refine (HU.out _).mono ?_
    rintro e w10 ⟨rfl, hb⟩
    clear s_a s_b s_c s_d t_a t_b t_c t_d a_a a_b a_c a_d want_a want_b want_c want_d b_a b_b b_c b_d
    have k10 := below_on k9 hb
    have s_10 := s2_on s_9 hb
    have t_10 := s2_on t_9 hb
    have a_10 := s2_on a_9 hb
    have want_10 := s2_on want_9 hb
    have b_10 := s2_on b_9 hb
    clear k9 s_9 t_9 a_9 want_9 b_9
    clear hb
    go_upto_region 8 with fail
    generalize hW : World.alloc w10 _ = w11
    obtain ⟨hx, hsx, hb⟩ := s2_new hW
    clear hW
    have k11 := below_on k10 hb
    have s_11 := s2_on s_10 hb
    have t_11 := s2_on t_10 hb
    have a_11 := s2_on a_10 hb
    have want_11 := s2_on want_10 hb
    have b_11 := s2_on b_10 hb
    clear k10 s_10 t_10 a_10 want_10 b_10
    have x_11 := hx
    clear hx hb
    obtain ⟨s_a, s_b, s_c, s_d⟩ := id s_11
    obtain ⟨t_a, t_b, t_c, t_d⟩ := id t_11
    obtain ⟨a_a, a_b, a_c, a_d⟩ := id a_11
    obtain ⟨want_a, want_b, want_c, want_d⟩ := id want_11
    obtain ⟨b_a, b_b, b_c, b_d⟩ := id b_11
    obtain ⟨x_a, x_b, x_c, x_d⟩ := id x_11
    cases ba with
    | false =>
      go_wp2
      go_ret
      exact ⟨rfl, k11⟩
    | true =>
      cases bc with
      | false =>
        go_wp2
        go_ret
        exact ⟨rfl, k11⟩
      | true =>
        cases bx with
        | false =>
          go_wp2
          go_ret
          exact ⟨rfl, k11⟩
        | true =>
          obtain ⟨N, M, P, Q, c1, c2, c3, c4, nA, v1, v2, v3, v4, v5⟩ := ot_law ER1.out ER2.out ER3.out
          have z4 : A.length ≤ 1000000000 := by have := (svS_parts v3).2.2.1; omega
          have z5 : B.length ≤ 1000000000 := by have := (svS_parts v3).2.2.2.2.1; omega
          have z6 : C.length ≤ 1000000000 := by have := (svS_parts v4).2.2.1; omega
          have z7 : D.length ≤ 1000000000 := by have := (svS_parts v4).2.2.2.2.1; omega
          have z8 : X.length ≤ 1000000000 := by have := (svS_parts v5).2.2.1; omega
          have z9 : U.length ≤ 1000000000 := by have := (svS_parts v5).2.2.2.2.1; omega
          have U1 := Lib.hid fun w => OtherSet_any A B w z4 z5
          rw [c1] at U1
          have U2 := Lib.hid fun w => NormalSet_any h l w z0 z1
          rw [c2] at U2
          have U3 := Lib.hid fun w => OtherSet_any X U w z8 z9
          rw [c3] at U3
          have U4 := Lib.hid fun w => MeetSets_any A B C D w z4 z5 z6 z7
          rw [c4] at U4
          have NA := Lib.hid nA
          have he2 := eql_same N M
          have he3 := eql_same P Q
          clear nA c1 c2 c3 c4 v1 v2 v3 v4 v5 ER1 ER2 ER3 HA HS HB HU
          go_upto_region 10 with fail
          clear s_a s_b s_c s_d t_a t_b t_c t_d a_a a_b a_c a_d want_a want_b want_c want_d b_a b_b b_c b_d x_a x_b x_c x_d
          clear want_11
          obtain ⟨s_a, s_b, s_c, s_d⟩ := id s_11
          obtain ⟨t_a, t_b, t_c, t_d⟩ := id t_11
          obtain ⟨a_a, a_b, a_c, a_d⟩ := id a_11
          obtain ⟨b_a, b_b, b_c, b_d⟩ := id b_11
          obtain ⟨x_a, x_b, x_c, x_d⟩ := id x_11
          go_wp2_with fail
          refine (U1.out _).mono ?_
          rintro e w12 ⟨rfl, hb⟩
          clear s_a s_b s_c s_d t_a t_b t_c t_d a_a a_b a_c a_d b_a b_b b_c b_d x_a x_b x_c x_d
          have k12 := below_on k11 hb
          have s_12 := s2_on s_11 hb
          have t_12 := s2_on t_11 hb
          have a_12 := s2_on a_11 hb
          have b_12 := s2_on b_11 hb
          have x_12 := s2_on x_11 hb
          clear k11 s_11 t_11 a_11 b_11 x_11
          clear hb
          go_upto_region 11 with fail
          generalize hW : World.alloc w12 _ = w13
          obtain ⟨hx, hsx, hb⟩ := s2_new hW
          clear hW
          have k13 := below_on k12 hb
          have s_13 := s2_on s_12 hb
          have t_13 := s2_on t_12 hb
          have a_13 := s2_on a_12 hb
          have b_13 := s2_on b_12 hb
          have x_13 := s2_on x_12 hb
          clear k12 s_12 t_12 a_12 b_12 x_12
          have back_13 := hx
          clear hx hb
          obtain ⟨s_a, s_b, s_c, s_d⟩ := id s_13
          obtain ⟨t_a, t_b, t_c, t_d⟩ := id t_13
          obtain ⟨a_a, a_b, a_c, a_d⟩ := id a_13
          obtain ⟨b_a, b_b, b_c, b_d⟩ := id b_13
          obtain ⟨x_a, x_b, x_c, x_d⟩ := id x_13
          obtain ⟨back_a, back_b, back_c, back_d⟩ := id back_13
          go_wp2_with fail
          refine (U2.out _).mono ?_
          rintro e w14 ⟨rfl, hb⟩
          clear s_a s_b s_c s_d t_a t_b t_c t_d a_a a_b a_c a_d b_a b_b b_c b_d x_a x_b x_c x_d back_a back_b back_c back_d
          have k14 := below_on k13 hb
          have s_14 := s2_on s_13 hb
          have t_14 := s2_on t_13 hb
          have a_14 := s2_on a_13 hb
          have b_14 := s2_on b_13 hb
          have x_14 := s2_on x_13 hb
          have back_14 := s2_on back_13 hb
          clear k13 s_13 t_13 a_13 b_13 x_13 back_13
          clear hb
          go_upto_region 12 with fail
          generalize hW : World.alloc w14 _ = w15
          obtain ⟨hx, hsx, hb⟩ := s2_new hW
          clear hW
          have k15 := below_on k14 hb
          have s_15 := s2_on s_14 hb
          have t_15 := s2_on t_14 hb
          have a_15 := s2_on a_14 hb
          have b_15 := s2_on b_14 hb
          have x_15 := s2_on x_14 hb
          have back_15 := s2_on back_14 hb
          clear k14 s_14 t_14 a_14 b_14 x_14 back_14
          have normal_15 := hx
          clear hx hb
          obtain ⟨s_a, s_b, s_c, s_d⟩ := id s_15
          obtain ⟨t_a, t_b, t_c, t_d⟩ := id t_15
          obtain ⟨a_a, a_b, a_c, a_d⟩ := id a_15
          obtain ⟨b_a, b_b, b_c, b_d⟩ := id b_15
          obtain ⟨x_a, x_b, x_c, x_d⟩ := id x_15
          obtain ⟨back_a, back_b, back_c, back_d⟩ := id back_15
          obtain ⟨normal_a, normal_b, normal_c, normal_d⟩ := id normal_15
          go_wp2_with fail
          refine (U3.out _).mono ?_
          rintro e w16 ⟨rfl, hb⟩
          clear s_a s_b s_c s_d t_a t_b t_c t_d a_a a_b a_c a_d b_a b_b b_c b_d x_a x_b x_c x_d back_a back_b back_c back_d normal_a normal_b normal_c normal_d
          have k16 := below_on k15 hb
          have s_16 := s2_on s_15 hb
          have t_16 := s2_on t_15 hb
          have a_16 := s2_on a_15 hb
          have b_16 := s2_on b_15 hb
          have x_16 := s2_on x_15 hb
          have back_16 := s2_on back_15 hb
          have normal_16 := s2_on normal_15 hb
          clear k15 s_15 t_15 a_15 b_15 x_15 back_15 normal_15
          clear hb
          go_upto_region 13 with fail
          generalize hW : World.alloc w16 _ = w17
          obtain ⟨hx, hsx, hb⟩ := s2_new hW
          clear hW
          have k17 := below_on k16 hb
          have s_17 := s2_on s_16 hb
          have t_17 := s2_on t_16 hb
          have a_17 := s2_on a_16 hb
          have b_17 := s2_on b_16 hb
          have x_17 := s2_on x_16 hb
          have back_17 := s2_on back_16 hb
          have normal_17 := s2_on normal_16 hb
          clear k16 s_16 t_16 a_16 b_16 x_16 back_16 normal_16
          have y_17 := hx
          clear hx hb
          obtain ⟨s_a, s_b, s_c, s_d⟩ := id s_17
          obtain ⟨t_a, t_b, t_c, t_d⟩ := id t_17
          obtain ⟨a_a, a_b, a_c, a_d⟩ := id a_17
          obtain ⟨b_a, b_b, b_c, b_d⟩ := id b_17
          obtain ⟨x_a, x_b, x_c, x_d⟩ := id x_17
          obtain ⟨back_a, back_b, back_c, back_d⟩ := id back_17
          obtain ⟨normal_a, normal_b, normal_c, normal_d⟩ := id normal_17
          obtain ⟨y_a, y_b, y_c, y_d⟩ := id y_17
          go_wp2_with fail
          refine (U4.out _).mono ?_
          rintro e w18 ⟨rfl, hb⟩
          clear s_a s_b s_c s_d t_a t_b t_c t_d a_a a_b a_c a_d b_a b_b b_c b_d x_a x_b x_c x_d back_a back_b back_c back_d normal_a normal_b normal_c normal_d y_a y_b y_c y_d
          have k18 := below_on k17 hb
          have s_18 := s2_on s_17 hb
          have t_18 := s2_on t_17 hb
          have a_18 := s2_on a_17 hb
          have b_18 := s2_on b_17 hb
          have x_18 := s2_on x_17 hb
          have back_18 := s2_on back_17 hb
          have normal_18 := s2_on normal_17 hb
          have y_18 := s2_on y_17 hb
          clear k17 s_17 t_17 a_17 b_17 x_17 back_17 normal_17 y_17
          clear hb
          go_upto_region 14 with fail
          generalize hW : World.alloc w18 _ = w19
          obtain ⟨hx, hsx, hb⟩ := s2_new hW
          clear hW
          have k19 := below_on k18 hb
          have s_19 := s2_on s_18 hb
          have t_19 := s2_on t_18 hb
          have a_19 := s2_on a_18 hb
          have b_19 := s2_on b_18 hb
          have x_19 := s2_on x_18 hb
          have back_19 := s2_on back_18 hb
          have normal_19 := s2_on normal_18 hb
          have y_19 := s2_on y_18 hb
          clear k18 s_18 t_18 a_18 b_18 x_18 back_18 normal_18 y_18
          have z_19 := hx
          clear hx hb
          clear b_19
          clear x_19
          clear t_19
          go_wp2_with fail
          go_loopw [21] (fun i wr => ∃ k : Nat, i = .int .i64 k ∧ k ≤ 50 ∧ S2 wr (w1.heap.size) (bs h) (bs l) ∧ S2 wr (w4.heap.size) (bs A) (bs B) ∧ S2 wr (w12.heap.size) (bs N) (bs M) ∧ S2 wr (w14.heap.size) (bs N) (bs M) ∧ S2 wr (w16.heap.size) (bs P) (bs Q) ∧ S2 wr (w18.heap.size) (bs P) (bs Q) ∧ Below w.heap.size w wr) (fun i _ => 50 - (intOf i).toNat)
          case atStart => exact ⟨0, rfl, Nat.zero_le _, s_19, a_19, back_19, normal_19, y_19, z_19, k19⟩
          case round =>
            clear s_19 a_19 back_19 normal_19 y_19 z_19 k19
            obtain ⟨k, rfl, hk, s_20, a_20, back_20, normal_20, y_20, z_20, k20⟩ := hrel
            by_cases hlt : k < 50
            · have hk' : (k : Int) < 50 := by omega
              have hwk : IntKind.i64.wrap ((k : Int) + 1) = ((k + 1 : Nat) : Int) := by rw [IntKind.wrap_i64]; omega
              obtain ⟨p, hp⟩ : ∃ p, hnB h l k = p := ⟨_, rfl⟩
              have hA := NA.out k
              rw [hp] at hA
              cases p
              · skip
                have P1 := Lib.hid fun w => pbIn_is A B k true w z4 z5 (by omega) (by omega) (hA)
                have P2 := Lib.hid fun w => pbIn_is h l k false w z0 z1 (by omega) (by omega) (hp)
                clear hA hp
                go_upto_region 17 with fail
                refine wp_region_held_drew (S := (fun w' => Below wr.heap.size wr w' ∧ (w'.cell? ⟨w1.heap.size, 0, none⟩ = some (.string (bs h)) ∧ w'.cell? ⟨w1.heap.size, 1, none⟩ = some (.string (bs l))) ∧ (w'.cell? ⟨w4.heap.size, 0, none⟩ = some (.string (bs A)) ∧ w'.cell? ⟨w4.heap.size, 1, none⟩ = some (.string (bs B))) ∧ (w'.cell? ⟨w12.heap.size, 0, none⟩ = some (.string (bs N)) ∧ w'.cell? ⟨w12.heap.size, 1, none⟩ = some (.string (bs M))) ∧ (w'.cell? ⟨w14.heap.size, 0, none⟩ = some (.string (bs N)) ∧ w'.cell? ⟨w14.heap.size, 1, none⟩ = some (.string (bs M))) ∧ (w'.cell? ⟨w16.heap.size, 0, none⟩ = some (.string (bs P)) ∧ w'.cell? ⟨w16.heap.size, 1, none⟩ = some (.string (bs Q))) ∧ (w'.cell? ⟨w18.heap.size, 0, none⟩ = some (.string (bs P)) ∧ w'.cell? ⟨w18.heap.size, 1, none⟩ = some (.string (bs Q))))) (by kernel_rfl) ?_ (fun hHeld => ?_)
                · try dsimp only
                  refine kp6 s_20 a_20 back_20 normal_20 y_20 z_20 ?_; go_grown
                refine wpAnyH_take (i := 0) (oi := { dst := some 104, op := Go.Op.load 24 (Go.Operand.tmp 5), type := 24, pos := "laws.go:1707", after := #[], guard := none }) (v := ?_) rfl (by kernel_rfl) (by kernel_rfl) (by kernel_rfl) (fun _ _ _ h => h) (Or.inl ⟨by rfl, ?_⟩) (by assumption) ?_
                rotate_left
                · (intro w hSw; (try dsimp only at hSw); first | (go_simp; done) | (go_simp; with_reducible rfl))
                try simp only [Act.put, List.setIfInBounds_toArray, List.set_cons_zero, List.set_cons_succ]
                refine wpAnyH_take (i := 1) (oi := { dst := some 105, op := Go.Op.move (Go.Operand.tmp 21), type := 3, pos := "laws.go:1707", after := #[], guard := none }) (v := ?_) rfl (by kernel_rfl) (by kernel_rfl) (by kernel_rfl) (fun _ _ _ h => h) (Or.inl ⟨by rfl, ?_⟩) (by assumption) ?_
                rotate_left
                · (intro w hSw; (try dsimp only at hSw); first | (go_simp; done) | (go_simp; with_reducible rfl))
                try simp only [Act.put, List.setIfInBounds_toArray, List.set_cons_zero, List.set_cons_succ]
                refine wpAnyH_take (i := 3) (oi := { dst := some 107, op := Go.Op.load 24 (Go.Operand.tmp 3), type := 24, pos := "laws.go:1707", after := #[], guard := none }) (v := ?_) rfl (by kernel_rfl) (by kernel_rfl) (by kernel_rfl) (fun _ _ _ h => h) (Or.inl ⟨by rfl, ?_⟩) (by assumption) ?_
                rotate_left
                · (intro w hSw; (try dsimp only at hSw); first | (go_simp; done) | (go_simp; with_reducible rfl))
                try simp only [Act.put, List.setIfInBounds_toArray, List.set_cons_zero, List.set_cons_succ]
                refine wpAnyH_take (i := 4) (oi := { dst := some 108, op := Go.Op.move (Go.Operand.tmp 21), type := 3, pos := "laws.go:1707", after := #[], guard := none }) (v := ?_) rfl (by kernel_rfl) (by kernel_rfl) (by kernel_rfl) (fun _ _ _ h => h) (Or.inl ⟨by rfl, ?_⟩) (by assumption) ?_
                rotate_left
                · (intro w hSw; (try dsimp only at hSw); first | (go_simp; done) | (go_simp; with_reducible rfl))
                try simp only [Act.put, List.setIfInBounds_toArray, List.set_cons_zero, List.set_cons_succ]
                refine wpAnyH_ready (rs := [2]) (by kernel_rfl) (by simp) ?_
                refine AllReadyH.cons (o := { dst := some 106, op := Go.Op.call { callee := Go.Callee.value (Go.Operand.func 16), args := #[Go.Operand.tmp 104, Go.Operand.tmp 105], argTypes := #[24, 3] }, type := 4, pos := "laws.go:1707", after := #[{ on := 0, ground := Go.Ground.data }, { on := 1, ground := Go.Ground.data }], guard := none }) rfl (fun K hK => ?_) AllReadyH.nil
                go_simp
                (go_at_call 16; (first | (with_reducible refine (P1.out _).mono ?_) | (with_reducible refine (P2.out _).mono ?_)); rintro e w21 ⟨rfl, hb4⟩; have hbb4 := below_on (w := wr) (by go_grown) hb4)
                (try go_wp2_with fail)
                refine hK.out _ _ ?_ (fun hHeld => ?_)
                · try dsimp only
                  refine kp6 s_20 a_20 back_20 normal_20 y_20 z_20 ?_; go_grown
                clear hK K
                try simp only [Act.put, List.setIfInBounds_toArray, List.set_cons_zero, List.set_cons_succ]
                refine wpAnyH_ready (rs := [5]) (by kernel_rfl) (by simp) ?_
                refine AllReadyH.cons (o := { dst := some 109, op := Go.Op.call { callee := Go.Callee.value (Go.Operand.func 16), args := #[Go.Operand.tmp 107, Go.Operand.tmp 108], argTypes := #[24, 3] }, type := 4, pos := "laws.go:1707", after := #[{ on := 3, ground := Go.Ground.data }, { on := 4, ground := Go.Ground.data }, { on := 2, ground := Go.Ground.chain }], guard := none }) rfl (fun K hK => ?_) AllReadyH.nil
                go_simp
                (go_at_call 16; (first | (with_reducible refine (P1.out _).mono ?_) | (with_reducible refine (P2.out _).mono ?_)); rintro e w21 ⟨rfl, hb4⟩; have hbb4 := below_on (w := wr) (by go_grown) hb4)
                (try go_wp2_with fail)
                refine hK.out _ _ ?_ (fun hHeld => ?_)
                · try dsimp only
                  refine kp6 s_20 a_20 back_20 normal_20 y_20 z_20 ?_; go_grown
                clear hK K
                try simp only [Act.put, List.setIfInBounds_toArray, List.set_cons_zero, List.set_cons_succ]
                refine wpAnyH_take (i := 6) (oi := { dst := some 110, op := Go.Op.binOp Go.BinOp.eql 4 (Go.Operand.tmp 106) (Go.Operand.tmp 109) 4, type := 4, pos := "laws.go:1707", after := #[{ on := 2, ground := Go.Ground.data }, { on := 5, ground := Go.Ground.data }], guard := none }) (v := ?_) rfl (by kernel_rfl) (by kernel_rfl) (by kernel_rfl) (fun _ _ _ h => h) (Or.inl ⟨by rfl, ?_⟩) (by assumption) ?_
                rotate_left
                · (intro w hSw; (try dsimp only at hSw); first | (go_simp; done) | (go_simp; with_reducible rfl))
                try simp only [Act.put, List.setIfInBounds_toArray, List.set_cons_zero, List.set_cons_succ]
                refine wpAnyH_done (by kernel_rfl) ?_ _
                have hk := hHeld.1
                clear hHeld
                have k22 := below_on k20 hk
                have s_22 := s2_on s_20 hk
                have a_22 := s2_on a_20 hk
                have back_22 := s2_on back_20 hk
                have normal_22 := s2_on normal_20 hk
                have y_22 := s2_on y_20 hk
                have z_22 := s2_on z_20 hk
                clear k20 s_20 a_20 back_20 normal_20 y_20 z_20
                clear hk
                go_wp2
                go_roundw
                case rel => exact ⟨k + 1, rfl, by omega, s_22, a_22, back_22, normal_22, y_22, z_22, k22⟩
                case measure => simp [intOf]; omega
              · skip
                have P1 := Lib.hid fun w => pbIn_is A B k false w z4 z5 (by omega) (by omega) (hA)
                have P2 := Lib.hid fun w => pbIn_is h l k true w z0 z1 (by omega) (by omega) (hp)
                clear hA hp
                go_upto_region 17 with fail
                refine wp_region_held_drew (S := (fun w' => Below wr.heap.size wr w' ∧ (w'.cell? ⟨w1.heap.size, 0, none⟩ = some (.string (bs h)) ∧ w'.cell? ⟨w1.heap.size, 1, none⟩ = some (.string (bs l))) ∧ (w'.cell? ⟨w4.heap.size, 0, none⟩ = some (.string (bs A)) ∧ w'.cell? ⟨w4.heap.size, 1, none⟩ = some (.string (bs B))) ∧ (w'.cell? ⟨w12.heap.size, 0, none⟩ = some (.string (bs N)) ∧ w'.cell? ⟨w12.heap.size, 1, none⟩ = some (.string (bs M))) ∧ (w'.cell? ⟨w14.heap.size, 0, none⟩ = some (.string (bs N)) ∧ w'.cell? ⟨w14.heap.size, 1, none⟩ = some (.string (bs M))) ∧ (w'.cell? ⟨w16.heap.size, 0, none⟩ = some (.string (bs P)) ∧ w'.cell? ⟨w16.heap.size, 1, none⟩ = some (.string (bs Q))) ∧ (w'.cell? ⟨w18.heap.size, 0, none⟩ = some (.string (bs P)) ∧ w'.cell? ⟨w18.heap.size, 1, none⟩ = some (.string (bs Q))))) (by kernel_rfl) ?_ (fun hHeld => ?_)
                · try dsimp only
                  refine kp6 s_20 a_20 back_20 normal_20 y_20 z_20 ?_; go_grown
                refine wpAnyH_take (i := 0) (oi := { dst := some 104, op := Go.Op.load 24 (Go.Operand.tmp 5), type := 24, pos := "laws.go:1707", after := #[], guard := none }) (v := ?_) rfl (by kernel_rfl) (by kernel_rfl) (by kernel_rfl) (fun _ _ _ h => h) (Or.inl ⟨by rfl, ?_⟩) (by assumption) ?_
                rotate_left
                · (intro w hSw; (try dsimp only at hSw); first | (go_simp; done) | (go_simp; with_reducible rfl))
                try simp only [Act.put, List.setIfInBounds_toArray, List.set_cons_zero, List.set_cons_succ]
                refine wpAnyH_take (i := 1) (oi := { dst := some 105, op := Go.Op.move (Go.Operand.tmp 21), type := 3, pos := "laws.go:1707", after := #[], guard := none }) (v := ?_) rfl (by kernel_rfl) (by kernel_rfl) (by kernel_rfl) (fun _ _ _ h => h) (Or.inl ⟨by rfl, ?_⟩) (by assumption) ?_
                rotate_left
                · (intro w hSw; (try dsimp only at hSw); first | (go_simp; done) | (go_simp; with_reducible rfl))
                try simp only [Act.put, List.setIfInBounds_toArray, List.set_cons_zero, List.set_cons_succ]
                refine wpAnyH_take (i := 3) (oi := { dst := some 107, op := Go.Op.load 24 (Go.Operand.tmp 3), type := 24, pos := "laws.go:1707", after := #[], guard := none }) (v := ?_) rfl (by kernel_rfl) (by kernel_rfl) (by kernel_rfl) (fun _ _ _ h => h) (Or.inl ⟨by rfl, ?_⟩) (by assumption) ?_
                rotate_left
                · (intro w hSw; (try dsimp only at hSw); first | (go_simp; done) | (go_simp; with_reducible rfl))
                try simp only [Act.put, List.setIfInBounds_toArray, List.set_cons_zero, List.set_cons_succ]
                refine wpAnyH_take (i := 4) (oi := { dst := some 108, op := Go.Op.move (Go.Operand.tmp 21), type := 3, pos := "laws.go:1707", after := #[], guard := none }) (v := ?_) rfl (by kernel_rfl) (by kernel_rfl) (by kernel_rfl) (fun _ _ _ h => h) (Or.inl ⟨by rfl, ?_⟩) (by assumption) ?_
                rotate_left
                · (intro w hSw; (try dsimp only at hSw); first | (go_simp; done) | (go_simp; with_reducible rfl))
                try simp only [Act.put, List.setIfInBounds_toArray, List.set_cons_zero, List.set_cons_succ]
                refine wpAnyH_ready (rs := [2]) (by kernel_rfl) (by simp) ?_
                refine AllReadyH.cons (o := { dst := some 106, op := Go.Op.call { callee := Go.Callee.value (Go.Operand.func 16), args := #[Go.Operand.tmp 104, Go.Operand.tmp 105], argTypes := #[24, 3] }, type := 4, pos := "laws.go:1707", after := #[{ on := 0, ground := Go.Ground.data }, { on := 1, ground := Go.Ground.data }], guard := none }) rfl (fun K hK => ?_) AllReadyH.nil
                go_simp
                (go_at_call 16; (first | (with_reducible refine (P1.out _).mono ?_) | (with_reducible refine (P2.out _).mono ?_)); rintro e w21 ⟨rfl, hb4⟩; have hbb4 := below_on (w := wr) (by go_grown) hb4)
                (try go_wp2_with fail)
                refine hK.out _ _ ?_ (fun hHeld => ?_)
                · try dsimp only
                  refine kp6 s_20 a_20 back_20 normal_20 y_20 z_20 ?_; go_grown
                clear hK K
                try simp only [Act.put, List.setIfInBounds_toArray, List.set_cons_zero, List.set_cons_succ]
                refine wpAnyH_ready (rs := [5]) (by kernel_rfl) (by simp) ?_
                refine AllReadyH.cons (o := { dst := some 109, op := Go.Op.call { callee := Go.Callee.value (Go.Operand.func 16), args := #[Go.Operand.tmp 107, Go.Operand.tmp 108], argTypes := #[24, 3] }, type := 4, pos := "laws.go:1707", after := #[{ on := 3, ground := Go.Ground.data }, { on := 4, ground := Go.Ground.data }, { on := 2, ground := Go.Ground.chain }], guard := none }) rfl (fun K hK => ?_) AllReadyH.nil
                go_simp
                (go_at_call 16; (first | (with_reducible refine (P1.out _).mono ?_) | (with_reducible refine (P2.out _).mono ?_)); rintro e w21 ⟨rfl, hb4⟩; have hbb4 := below_on (w := wr) (by go_grown) hb4)
                (try go_wp2_with fail)
                refine hK.out _ _ ?_ (fun hHeld => ?_)
                · try dsimp only
                  refine kp6 s_20 a_20 back_20 normal_20 y_20 z_20 ?_; go_grown
                clear hK K
                try simp only [Act.put, List.setIfInBounds_toArray, List.set_cons_zero, List.set_cons_succ]
                refine wpAnyH_take (i := 6) (oi := { dst := some 110, op := Go.Op.binOp Go.BinOp.eql 4 (Go.Operand.tmp 106) (Go.Operand.tmp 109) 4, type := 4, pos := "laws.go:1707", after := #[{ on := 2, ground := Go.Ground.data }, { on := 5, ground := Go.Ground.data }], guard := none }) (v := ?_) rfl (by kernel_rfl) (by kernel_rfl) (by kernel_rfl) (fun _ _ _ h => h) (Or.inl ⟨by rfl, ?_⟩) (by assumption) ?_
                rotate_left
                · (intro w hSw; (try dsimp only at hSw); first | (go_simp; done) | (go_simp; with_reducible rfl))
                try simp only [Act.put, List.setIfInBounds_toArray, List.set_cons_zero, List.set_cons_succ]
                refine wpAnyH_done (by kernel_rfl) ?_ _
                have hk := hHeld.1
                clear hHeld
                have k22 := below_on k20 hk
                have s_22 := s2_on s_20 hk
                have a_22 := s2_on a_20 hk
                have back_22 := s2_on back_20 hk
                have normal_22 := s2_on normal_20 hk
                have y_22 := s2_on y_20 hk
                have z_22 := s2_on z_20 hk
                clear k20 s_20 a_20 back_20 normal_20 y_20 z_20
                clear hk
                go_wp2
                go_roundw
                case rel => exact ⟨k + 1, rfl, by omega, s_22, a_22, back_22, normal_22, y_22, z_22, k22⟩
                case measure => simp [intOf]; omega
            · have hk' : ¬ (k : Int) < 50 := by omega
              clear hlt hk
              obtain ⟨s_a, s_b, s_c, s_d⟩ := id s_20
              obtain ⟨a_a, a_b, a_c, a_d⟩ := id a_20
              obtain ⟨back_a, back_b, back_c, back_d⟩ := id back_20
              obtain ⟨normal_a, normal_b, normal_c, normal_d⟩ := id normal_20
              obtain ⟨y_a, y_b, y_c, y_d⟩ := id y_20
              obtain ⟨z_a, z_b, z_c, z_d⟩ := id z_20
              go_wp2
              go_ret
              exact ⟨rfl, k20⟩
  · have hn' : (1048576 : Int) < (n : Int) := by omega
    go_enter Tryd.func4, Tryd.ntmps4
    go_wp2
    go_ret
    exact ⟨rfl, by go_grown⟩

end Go.Proofs.YtknocndfjnjjfaaDoor
