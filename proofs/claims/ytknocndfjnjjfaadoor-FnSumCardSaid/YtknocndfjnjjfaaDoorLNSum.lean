/- The walk of the law FnSum. -/
import Derived.Test.YtknocndfjnjjfaaDoorLwK
import Derived.BigQuiet
import Derived.Deep.RegionHeld3
import Derived.BigGuardPart
import Derived.Deep.DeepCutAuto
namespace Go.Proofs.YtknocndfjnjjfaaDoor
open Go.RowKit

set_option maxRecDepth 10000 in
set_option maxHeartbeats 4000000 in
theorem fnSum_walk (sp : Option Addr) (n cap : Nat) (w : World) (h : Code w sp n cap) :
    Calls Tryd.prog 9 #[.slice sp n cap] w fun e w' => e = .returned (.bool true) ∧ Below w.heap.size w w' := by
  have HC := Lib.hid h
  clear h
  by_cases hn : n ≤ 1048576
  · have hn' : ¬ (1048576 : Int) < (n : Int) := by omega
    go_enter Tryd.func9, Tryd.ntmps9
    go_wp2_with fail
    refine (DrawSumSets_t sp n cap w HC.out).mono ?_
    rintro e w1 ⟨h, l, h', l', rfl, ⟨s0, s1⟩, ⟨s2, s3⟩, k0⟩
    go_upto_region 4 with fail
    generalize hW : World.alloc w1 _ = w2
    obtain ⟨hx, hsx, hb⟩ := s2_new hW
    clear hW
    have k2 := below_on k0 hb
    clear k0
    have s_2 := hx
    clear hx hb
    have hsx1 := hsx
    clear hsx
    generalize hW : World.alloc w2 _ = w3
    obtain ⟨hx, hsx, hb⟩ := s2_new hW
    clear hW
    have k3 := below_on k2 hb
    have s_3 := s2_on s_2 hb
    clear k2 s_2
    have t_3 := hx
    clear hx hb
    rw [hsx1] at t_3
    clear hsx hsx1
    obtain ⟨z0, z1, z2, z3⟩ : h.length ≤ 1000000000 ∧ l.length ≤ 1000000000 ∧ h'.length ≤ 1000000000 ∧ l'.length ≤ 1000000000 := ⟨by omega, by omega, by omega, by omega⟩
    have HI := Lib.hid fun w => SumSets_any h l h' l' w z0 z1 z2 z3
    have HS := Lib.hid fun w => specSumSets_any h l h' l' w z0 z1 z2 z3
    obtain ⟨RR, er⟩ : ∃ RR, smR h l h' l' = RR := ⟨_, rfl⟩
    obtain ⟨⟨X, U⟩, b⟩ := RR
    rw [er] at HI HS
    have ER := Lib.hid er
    have hn1 := nel_same X U
    have he1 := eql_same X U
    clear er s0 s1 s2 s3
    obtain ⟨s_a, s_b, s_c, s_d⟩ := id s_3
    obtain ⟨t_a, t_b, t_c, t_d⟩ := id t_3
    go_wp2_with fail
    refine (HI.out _).mono ?_
    rintro e w4 ⟨rfl, hb⟩
    clear s_a s_b s_c s_d t_a t_b t_c t_d
    have k4 := below_on k3 hb
    have s_4 := s2_on s_3 hb
    have t_4 := s2_on t_3 hb
    clear k3 s_3 t_3
    clear hb
    go_upto_region 5 with fail
    generalize hW : World.alloc w4 _ = w5
    obtain ⟨hx, hsx, hb⟩ := s2_new hW
    clear hW
    have k5 := below_on k4 hb
    have s_5 := s2_on s_4 hb
    have t_5 := s2_on t_4 hb
    clear k4 s_4 t_4
    have x_5 := hx
    clear hx hb
    obtain ⟨s_a, s_b, s_c, s_d⟩ := id s_5
    obtain ⟨t_a, t_b, t_c, t_d⟩ := id t_5
    obtain ⟨x_a, x_b, x_c, x_d⟩ := id x_5
    go_wp2_with fail
    refine (HS.out _).mono ?_
    rintro e w6 ⟨rfl, hb⟩
    clear s_a s_b s_c s_d t_a t_b t_c t_d x_a x_b x_c x_d
    have k6 := below_on k5 hb
    have s_6 := s2_on s_5 hb
    have t_6 := s2_on t_5 hb
    have x_6 := s2_on x_5 hb
    clear k5 s_5 t_5 x_5
    clear hb
    go_upto_region 6 with fail
    generalize hW : World.alloc w6 _ = w7
    obtain ⟨hx, hsx, hb⟩ := s2_new hW
    clear hW
    have k7 := below_on k6 hb
    have s_7 := s2_on s_6 hb
    have t_7 := s2_on t_6 hb
    have x_7 := s2_on x_6 hb
    clear k6 s_6 t_6 x_6
    have want_7 := hx
    clear hx hb
    obtain ⟨s_a, s_b, s_c, s_d⟩ := id s_7
    obtain ⟨t_a, t_b, t_c, t_d⟩ := id t_7
    obtain ⟨x_a, x_b, x_c, x_d⟩ := id x_7
    obtain ⟨want_a, want_b, want_c, want_d⟩ := id want_7
    cases b with
    | false =>
      go_wp2
      go_ret
      exact ⟨rfl, k7⟩
    | true =>
      obtain ⟨v1, v2, v3, nX, c1, N, M, c2, c3⟩ := su_law ER.out
      have z4 : X.length ≤ 1000000000 := by have := (svS_parts v3).2.2.1; omega
      have z5 : U.length ≤ 1000000000 := by have := (svS_parts v3).2.2.2.2.1; omega
      have U1 := Lib.hid fun w => SumSets_any h' l' h l w z2 z3 z0 z1
      rw [c1] at U1
      have U2 := Lib.hid fun w => ProgressionSet_any 0 0 w (by omega) (by omega) (by omega) (by omega)
      rw [pr_zero] at U2
      have U3 := Lib.hid fun w => SumSets_any h l [49] [48] w z0 z1 (by simp) (by simp)
      rw [c2] at U3
      have U4 := Lib.hid fun w => NormalSet_any h l w z0 z1
      rw [c3] at U4
      have NX : Hid (∀ n : Nat, hnB X U n = anyP h l h' l' (n + 1) n) := Lib.hid fun n => by rw [nX n, sum_any v1 v2]
      have he2 := eql_same N M
      clear nX c1 c2 c3 v1 v2 v3 ER HI HS
      go_upto_region 8 with fail
      clear s_a s_b s_c s_d t_a t_b t_c t_d x_a x_b x_c x_d want_a want_b want_c want_d
      clear want_7
      go_wp2_with fail
      go_loopw [9] (fun i wr => ∃ k : Nat, i = .int .i64 k ∧ k ≤ 61 ∧ S2 wr (w1.heap.size) (bs h) (bs l) ∧ S2 wr (w1.heap.size + 1) (bs h') (bs l') ∧ S2 wr (w4.heap.size) (bs X) (bs U) ∧ Below w.heap.size w wr) (fun i _ => 61 - (intOf i).toNat)
      case atStart => exact ⟨0, rfl, Nat.zero_le _, s_7, t_7, x_7, k7⟩
      case round =>
        clear s_7 t_7 x_7 k7
        obtain ⟨k, rfl, hk, s_8, t_8, x_8, k8⟩ := hrel
        by_cases hlt : k ≤ 60
        · have hk' : (k : Int) ≤ 60 := by omega
          have hwk : IntKind.i64.wrap ((k : Int) + 1) = ((k + 1 : Nat) : Int) := by rw [IntKind.wrap_i64]; omega
          have HK := Lib.hid hlt
          go_wp2_with fail
          go_loopw [10, 11] (fun is i wq => ∃ a : Nat, is = .bool (anyP h l h' l' a k) ∧ i = .int .i64 a ∧ a ≤ k + 1 ∧ S2 wq (w1.heap.size) (bs h) (bs l) ∧ S2 wq (w1.heap.size + 1) (bs h') (bs l') ∧ S2 wq (w4.heap.size) (bs X) (bs U) ∧ Below w.heap.size w wq) (fun _ i _ => k + 1 - (intOf i).toNat)
          case atStart => exact ⟨0, rfl, rfl, Nat.zero_le _, s_8, t_8, x_8, k8⟩
          case round =>
            clear s_8 t_8 x_8 k8
            rename World => wr
            obtain ⟨a, rfl, rfl, ha, s_9, t_9, x_9, k9⟩ := hrel
            by_cases hak : a ≤ k
            · have hak' : (a : Int) ≤ (k : Int) := by omega
              have hwa : IntKind.i64.wrap ((a : Int) + 1) = ((a + 1 : Nat) : Int) := by rw [IntKind.wrap_i64]; omega
              have hk60 := HK.out
              obtain ⟨j, hj⟩ : ∃ j, k - a = j := ⟨_, rfl⟩
              have hj61 : j ≤ 61 := by omega
              have hwj : IntKind.i64.wrap ((k : Int) - (a : Int)) = (j : Int) := by rw [IntKind.wrap_i64]; omega
              have hnx := any_next h l h' l' a k
              rw [hj] at hnx
              obtain ⟨t, ht⟩ : ∃ t, anyP h l h' l' a k = t := ⟨_, rfl⟩
              rw [ht] at hnx
              obtain ⟨p, hp⟩ : ∃ p, hnB h l a = p := ⟨_, rfl⟩
              obtain ⟨q, hq⟩ : ∃ q, hnB h' l' j = q := ⟨_, rfl⟩
              rw [hp, hq] at hnx
              rw [ht]
              have HNX := Lib.hid hnx
              clear hj hnx ht
              cases t
              · skip
                cases p
                · skip
                  have P1 := Lib.hid fun w => pbIn_is h l a false w z0 z1 (by omega) (by omega) (hp)
                  clear hp hq
                  obtain ⟨s_a, s_b, s_c, s_d⟩ := id s_9
                  obtain ⟨t_a, t_b, t_c, t_d⟩ := id t_9
                  obtain ⟨x_a, x_b, x_c, x_d⟩ := id x_9
                  go_wp2_with fail
                  refine (P1.out _).mono ?_
                  rintro e w10 ⟨rfl, hb⟩
                  clear s_a s_b s_c s_d t_a t_b t_c t_d x_a x_b x_c x_d
                  have k10 := below_on k9 hb
                  have s_10 := s2_on s_9 hb
                  have t_10 := s2_on t_9 hb
                  have x_10 := s2_on x_9 hb
                  clear k9 s_9 t_9 x_9
                  clear hb
                  go_wp2
                  go_roundw
                  case rel => exact ⟨a + 1, by rw [HNX.out]; rfl, rfl, by omega, s_10, t_10, x_10, k10⟩
                  case measure => simp [intOf]; omega
                · skip
                  have P1 := Lib.hid fun w => pbIn_is h l a true w z0 z1 (by omega) (by omega) (hp)
                  cases q
                  · skip
                    have P2 := Lib.hid fun w => pbIn_is h' l' j false w z2 z3 (by omega) (by omega) (hq)
                    clear hp hq
                    obtain ⟨s_a, s_b, s_c, s_d⟩ := id s_9
                    obtain ⟨t_a, t_b, t_c, t_d⟩ := id t_9
                    obtain ⟨x_a, x_b, x_c, x_d⟩ := id x_9
                    go_wp2_with fail
                    refine (P1.out _).mono ?_
                    rintro e w10 ⟨rfl, hb⟩
                    clear s_a s_b s_c s_d t_a t_b t_c t_d x_a x_b x_c x_d
                    have k10 := below_on k9 hb
                    have s_10 := s2_on s_9 hb
                    have t_10 := s2_on t_9 hb
                    have x_10 := s2_on x_9 hb
                    clear k9 s_9 t_9 x_9
                    clear hb
                    obtain ⟨s_a, s_b, s_c, s_d⟩ := id s_10
                    obtain ⟨t_a, t_b, t_c, t_d⟩ := id t_10
                    obtain ⟨x_a, x_b, x_c, x_d⟩ := id x_10
                    go_wp2_with fail
                    refine (P2.out _).mono ?_
                    rintro e w11 ⟨rfl, hb⟩
                    clear s_a s_b s_c s_d t_a t_b t_c t_d x_a x_b x_c x_d
                    have k11 := below_on k10 hb
                    have s_11 := s2_on s_10 hb
                    have t_11 := s2_on t_10 hb
                    have x_11 := s2_on x_10 hb
                    clear k10 s_10 t_10 x_10
                    clear hb
                    go_wp2
                    go_roundw
                    case rel => exact ⟨a + 1, by rw [HNX.out]; rfl, rfl, by omega, s_11, t_11, x_11, k11⟩
                    case measure => simp [intOf]; omega
                  · skip
                    have P2 := Lib.hid fun w => pbIn_is h' l' j true w z2 z3 (by omega) (by omega) (hq)
                    clear hp hq
                    obtain ⟨s_a, s_b, s_c, s_d⟩ := id s_9
                    obtain ⟨t_a, t_b, t_c, t_d⟩ := id t_9
                    obtain ⟨x_a, x_b, x_c, x_d⟩ := id x_9
                    go_wp2_with fail
                    refine (P1.out _).mono ?_
                    rintro e w10 ⟨rfl, hb⟩
                    clear s_a s_b s_c s_d t_a t_b t_c t_d x_a x_b x_c x_d
                    have k10 := below_on k9 hb
                    have s_10 := s2_on s_9 hb
                    have t_10 := s2_on t_9 hb
                    have x_10 := s2_on x_9 hb
                    clear k9 s_9 t_9 x_9
                    clear hb
                    obtain ⟨s_a, s_b, s_c, s_d⟩ := id s_10
                    obtain ⟨t_a, t_b, t_c, t_d⟩ := id t_10
                    obtain ⟨x_a, x_b, x_c, x_d⟩ := id x_10
                    go_wp2_with fail
                    refine (P2.out _).mono ?_
                    rintro e w11 ⟨rfl, hb⟩
                    clear s_a s_b s_c s_d t_a t_b t_c t_d x_a x_b x_c x_d
                    have k11 := below_on k10 hb
                    have s_11 := s2_on s_10 hb
                    have t_11 := s2_on t_10 hb
                    have x_11 := s2_on x_10 hb
                    clear k10 s_10 t_10 x_10
                    clear hb
                    go_wp2
                    go_roundw
                    case rel => exact ⟨a + 1, by rw [HNX.out]; rfl, rfl, by omega, s_11, t_11, x_11, k11⟩
                    case measure => simp [intOf]; omega
              · skip
                clear hp hq
                obtain ⟨s_a, s_b, s_c, s_d⟩ := id s_9
                obtain ⟨t_a, t_b, t_c, t_d⟩ := id t_9
                obtain ⟨x_a, x_b, x_c, x_d⟩ := id x_9
                go_wp2
                go_roundw
                case rel => exact ⟨a + 1, by rw [HNX.out]; rfl, rfl, by omega, s_9, t_9, x_9, k9⟩
                case measure => simp [intOf]; omega
            · have hak' : ¬ (a : Int) ≤ (k : Int) := by omega
              obtain rfl : a = k + 1 := by omega
              have hX := NX.out k
              obtain ⟨t, ht⟩ : ∃ t, anyP h l h' l' (k + 1) k = t := ⟨_, rfl⟩
              rw [ht] at hX ⊢
              clear ht hak ha
              cases t
              · skip
                have P1 := Lib.hid fun w => pbIn_is X U k false w z4 z5 (by omega) (by omega) (hX)
                clear hX hak'
                obtain ⟨s_a, s_b, s_c, s_d⟩ := id s_9
                obtain ⟨t_a, t_b, t_c, t_d⟩ := id t_9
                obtain ⟨x_a, x_b, x_c, x_d⟩ := id x_9
                go_wp2_with fail
                refine (P1.out _).mono ?_
                rintro e w15 ⟨rfl, hb⟩
                clear s_a s_b s_c s_d t_a t_b t_c t_d x_a x_b x_c x_d
                have k15 := below_on k9 hb
                have s_15 := s2_on s_9 hb
                have t_15 := s2_on t_9 hb
                have x_15 := s2_on x_9 hb
                clear k9 s_9 t_9 x_9
                clear hb
                have hlt := HK.out
                go_wp2
                go_roundw
                case rel => exact ⟨k + 1, rfl, by omega, s_15, t_15, x_15, k15⟩
                case measure => simp [intOf]; omega
              · skip
                have P1 := Lib.hid fun w => pbIn_is X U k true w z4 z5 (by omega) (by omega) (hX)
                clear hX hak'
                obtain ⟨s_a, s_b, s_c, s_d⟩ := id s_9
                obtain ⟨t_a, t_b, t_c, t_d⟩ := id t_9
                obtain ⟨x_a, x_b, x_c, x_d⟩ := id x_9
                go_wp2_with fail
                refine (P1.out _).mono ?_
                rintro e w15 ⟨rfl, hb⟩
                clear s_a s_b s_c s_d t_a t_b t_c t_d x_a x_b x_c x_d
                have k15 := below_on k9 hb
                have s_15 := s2_on s_9 hb
                have t_15 := s2_on t_9 hb
                have x_15 := s2_on x_9 hb
                clear k9 s_9 t_9 x_9
                clear hb
                have hlt := HK.out
                go_wp2
                go_roundw
                case rel => exact ⟨k + 1, rfl, by omega, s_15, t_15, x_15, k15⟩
                case measure => simp [intOf]; omega
        · have hk' : ¬ (k : Int) ≤ 60 := by omega
          clear hlt hk
          obtain ⟨s_a, s_b, s_c, s_d⟩ := id s_8
          obtain ⟨t_a, t_b, t_c, t_d⟩ := id t_8
          obtain ⟨x_a, x_b, x_c, x_d⟩ := id x_8
          go_wp2_with fail
          refine (U1.out _).mono ?_
          rintro e w14 ⟨rfl, hb⟩
          clear s_a s_b s_c s_d t_a t_b t_c t_d x_a x_b x_c x_d
          have k14 := below_on k8 hb
          have s_14 := s2_on s_8 hb
          have t_14 := s2_on t_8 hb
          have x_14 := s2_on x_8 hb
          clear k8 s_8 t_8 x_8
          clear hb
          go_upto_region 19 with fail
          generalize hW : World.alloc w14 _ = w15
          obtain ⟨hx, hsx, hb⟩ := s2_new hW
          clear hW
          have k15 := below_on k14 hb
          have s_15 := s2_on s_14 hb
          have t_15 := s2_on t_14 hb
          have x_15 := s2_on x_14 hb
          clear k14 s_14 t_14 x_14
          have y_15 := hx
          clear hx hb
          obtain ⟨s_a, s_b, s_c, s_d⟩ := id s_15
          obtain ⟨t_a, t_b, t_c, t_d⟩ := id t_15
          obtain ⟨x_a, x_b, x_c, x_d⟩ := id x_15
          obtain ⟨y_a, y_b, y_c, y_d⟩ := id y_15
          go_wp2_with fail
          refine (U2.out _).mono ?_
          rintro e w16 ⟨rfl, hb⟩
          clear s_a s_b s_c s_d t_a t_b t_c t_d x_a x_b x_c x_d y_a y_b y_c y_d
          have k16 := below_on k15 hb
          have s_16 := s2_on s_15 hb
          have t_16 := s2_on t_15 hb
          have x_16 := s2_on x_15 hb
          have y_16 := s2_on y_15 hb
          clear k15 s_15 t_15 x_15 y_15
          clear hb
          go_upto_region 20 with fail
          generalize hW : World.alloc w16 _ = w17
          obtain ⟨hx, hsx, hb⟩ := s2_new hW
          clear hW
          have k17 := below_on k16 hb
          have s_17 := s2_on s_16 hb
          have t_17 := s2_on t_16 hb
          have x_17 := s2_on x_16 hb
          have y_17 := s2_on y_16 hb
          clear k16 s_16 t_16 x_16 y_16
          have zero_17 := hx
          clear hx hb
          obtain ⟨s_a, s_b, s_c, s_d⟩ := id s_17
          obtain ⟨t_a, t_b, t_c, t_d⟩ := id t_17
          obtain ⟨x_a, x_b, x_c, x_d⟩ := id x_17
          obtain ⟨y_a, y_b, y_c, y_d⟩ := id y_17
          obtain ⟨zero_a, zero_b, zero_c, zero_d⟩ := id zero_17
          go_wp2_with fail
          refine (U3.out _).mono ?_
          rintro e w18 ⟨rfl, hb⟩
          clear s_a s_b s_c s_d t_a t_b t_c t_d x_a x_b x_c x_d y_a y_b y_c y_d zero_a zero_b zero_c zero_d
          have k18 := below_on k17 hb
          have s_18 := s2_on s_17 hb
          have t_18 := s2_on t_17 hb
          have x_18 := s2_on x_17 hb
          have y_18 := s2_on y_17 hb
          have zero_18 := s2_on zero_17 hb
          clear k17 s_17 t_17 x_17 y_17 zero_17
          clear hb
          go_upto_region 21 with fail
          generalize hW : World.alloc w18 _ = w19
          obtain ⟨hx, hsx, hb⟩ := s2_new hW
          clear hW
          have k19 := below_on k18 hb
          have s_19 := s2_on s_18 hb
          have t_19 := s2_on t_18 hb
          have x_19 := s2_on x_18 hb
          have y_19 := s2_on y_18 hb
          have zero_19 := s2_on zero_18 hb
          clear k18 s_18 t_18 x_18 y_18 zero_18
          have same_19 := hx
          clear hx hb
          obtain ⟨s_a, s_b, s_c, s_d⟩ := id s_19
          obtain ⟨t_a, t_b, t_c, t_d⟩ := id t_19
          obtain ⟨x_a, x_b, x_c, x_d⟩ := id x_19
          obtain ⟨y_a, y_b, y_c, y_d⟩ := id y_19
          obtain ⟨zero_a, zero_b, zero_c, zero_d⟩ := id zero_19
          obtain ⟨same_a, same_b, same_c, same_d⟩ := id same_19
          go_wp2_with fail
          refine (U4.out _).mono ?_
          rintro e w20 ⟨rfl, hb⟩
          clear s_a s_b s_c s_d t_a t_b t_c t_d x_a x_b x_c x_d y_a y_b y_c y_d zero_a zero_b zero_c zero_d same_a same_b same_c same_d
          have k20 := below_on k19 hb
          have s_20 := s2_on s_19 hb
          have t_20 := s2_on t_19 hb
          have x_20 := s2_on x_19 hb
          have y_20 := s2_on y_19 hb
          have zero_20 := s2_on zero_19 hb
          have same_20 := s2_on same_19 hb
          clear k19 s_19 t_19 x_19 y_19 zero_19 same_19
          clear hb
          go_upto_region 22 with fail
          generalize hW : World.alloc w20 _ = w21
          obtain ⟨hx, hsx, hb⟩ := s2_new hW
          clear hW
          have k21 := below_on k20 hb
          have s_21 := s2_on s_20 hb
          have t_21 := s2_on t_20 hb
          have x_21 := s2_on x_20 hb
          have y_21 := s2_on y_20 hb
          have zero_21 := s2_on zero_20 hb
          have same_21 := s2_on same_20 hb
          clear k20 s_20 t_20 x_20 y_20 zero_20 same_20
          have normal_21 := hx
          clear hx hb
          obtain ⟨s_a, s_b, s_c, s_d⟩ := id s_21
          obtain ⟨t_a, t_b, t_c, t_d⟩ := id t_21
          obtain ⟨x_a, x_b, x_c, x_d⟩ := id x_21
          obtain ⟨y_a, y_b, y_c, y_d⟩ := id y_21
          obtain ⟨zero_a, zero_b, zero_c, zero_d⟩ := id zero_21
          obtain ⟨same_a, same_b, same_c, same_d⟩ := id same_21
          obtain ⟨normal_a, normal_b, normal_c, normal_d⟩ := id normal_21
          go_wp2
          go_ret
          exact ⟨rfl, k21⟩
  · have hn' : (1048576 : Int) < (n : Int) := by omega
    go_enter Tryd.func9, Tryd.ntmps9
    go_wp2
    go_ret
    exact ⟨rfl, by go_grown⟩

end Go.Proofs.YtknocndfjnjjfaaDoor
