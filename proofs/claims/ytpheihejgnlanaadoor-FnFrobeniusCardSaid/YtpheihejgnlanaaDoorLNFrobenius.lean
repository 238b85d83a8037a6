/- The walk of the law FnFrobenius. -/
import Derived.Test.YtpheihejgnlanaaDoorLwK
import Derived.Test.YtpheihejgnlanaaDoorFrM
import Derived.Test.YtpheihejgnlanaaDoorSfP
import Derived.Test.YtpheihejgnlanaaDoorNbT
import Derived.Test.YtpheihejgnlanaaDoorDrO
import Derived.BigQuiet
import Derived.Deep.RegionHeld3
import Derived.BigGuardPart
import Derived.Deep.DeepCutAuto
namespace Go.Proofs.YtpheihejgnlanaaDoor
open Go.RowKit

set_option maxRecDepth 10000 in
set_option maxHeartbeats 4000000 in
theorem fnFrobenius_walk (sp : Option Addr) (n cap : Nat) (w : World) (h : Code w sp n cap) :
    Calls Tryd.prog 12 #[.slice sp n cap] w fun e w' => e = .returned (.bool true) ∧ Below w.heap.size w w' := by
  have HC := Lib.hid h
  clear h
  by_cases hn : n ≤ 1048576
  · have hn' : ¬ (1048576 : Int) < (n : Int) := by omega
    go_enter Tryd.func12, Tryd.ntmps12
    go_wp2_with fail
    refine (DrawGap_t sp n cap w HC.out).mono ?_
    rintro e w1 ⟨a, b, rfl, ⟨a0, a1⟩, ⟨b0, b1⟩, k0⟩
    have HI := Lib.hid fun w => GreatestGap_any a b w
    have HS := Lib.hid fun w => specGap_any a b w
    go_wp2_with fail
    refine (HI.out _).mono ?_
    rintro e w2 ⟨rfl, hb⟩
    have k2 := below_on k0 hb
    clear k0
    clear hb
    go_wp2_with fail
    refine (HS.out _).mono ?_
    rintro e w' ⟨rfl, rfl⟩
    rcases gap_is (a := a) (b := b) with eg | ⟨A, B, rfl, rfl, hA, hB, hA1, hB1, hg, p1, p2, eg⟩
    · rw [eg] at HS ⊢
      go_wp2_with fail
      refine (HS.out _).mono ?_
      rintro e w' ⟨rfl, rfl⟩
      go_wp2
      go_ret
      exact ⟨rfl, k2⟩
    · obtain ⟨P, hP⟩ : ∃ P, A * B = P := ⟨_, rfl⟩
      have hPb : P ≤ 100 * 100 := by rw [← hP]; exact Nat.mul_le_mul hA1 hB1
      have hPI : (A : Int) * (B : Int) = (P : Int) := by rw [← Int.natCast_mul, hP]
      have hwP : IntKind.i64.wrap ((A : Int) * (B : Int)) = (P : Int) := by rw [hPI, IntKind.wrap_i64]; omega
      obtain ⟨g, hgg⟩ : ∃ g, gapT (A : Int) (B : Int) = g := ⟨_, rfl⟩
      rw [hgg] at HI HS ⊢
      have hgv : g = (P : Int) - A - B := by rw [← hgg, eg, hPI]
      by_cases hbig : 400 < P
      · have hd0 : decide ((400 : Int) < (P : Int)) = true := decide_eq_true (by omega)
        have hd1 : decide (400 < P) = true := decide_eq_true hbig
        by_cases hg1 : g < -1
        · have hd2 : decide (g < -1) = true := decide_eq_true hg1
          clear hP hgg hgv eg hg1 hbig
          go_wp2_with fail
          refine (HS.out _).mono ?_
          rintro e w' ⟨rfl, rfl⟩
          go_wp2
          go_ret
          exact ⟨rfl, k2⟩
        · have hd2 : decide (g < -1) = false := decide_eq_false hg1
          clear hP hgg hgv eg hg1 hbig
          go_wp2_with fail
          refine (HS.out _).mono ?_
          rintro e w' ⟨rfl, rfl⟩
          go_wp2
          go_ret
          exact ⟨rfl, k2⟩
      · have hd0 : decide ((400 : Int) < (P : Int)) = false := decide_eq_false (by omega)
        have hd1 : decide (400 < P) = false := decide_eq_false hbig
        obtain ⟨SA, SB, TA, TB, X, U, G, H, N, D, e1, e2, e3, e4, v1, v2, v3, v4, hsol, hN, hN4, hmost, hcb, h2D⟩ := fr_law hA hB hA1 hB1 hg (by omega)
        obtain rfl : g = (N : Int) - 1 := by rw [hPI] at hN; omega
        have hd2 : decide ((N : Int) - 1 < -1) = false := decide_eq_false (by omega)
        have y0 : SA.length ≤ 1000000000 := by have := (svS_parts v1).2.2.1; omega
        have y1 : SB.length ≤ 1000000000 := by have := (svS_parts v1).2.2.2.2.1; omega
        have y2 : TA.length ≤ 1000000000 := by have := (svS_parts v2).2.2.1; omega
        have y3 : TB.length ≤ 1000000000 := by have := (svS_parts v2).2.2.2.2.1; omega
        have z4 : X.length ≤ 1000000000 := by have := (svS_parts v3).2.2.1; omega
        have z5 : U.length ≤ 1000000000 := by have := (svS_parts v3).2.2.2.2.1; omega
        have z6 : G.length ≤ 1000000000 := by have := (svS_parts v4).2.2.1; omega
        have z7 : H.length ≤ 1000000000 := by have := (svS_parts v4).2.2.2.2.1; omega
        have U1 := Lib.hid fun w => ProgressionSet_any 0 (A : Int) w (by omega) (by omega) (by omega) (by omega)
        rw [e1] at U1
        have U2 := Lib.hid fun w => ProgressionSet_any 0 (B : Int) w (by omega) (by omega) (by omega) (by omega)
        rw [e2] at U2
        have U3 := Lib.hid fun w => SumSets_any SA SB TA TB w y0 y1 y2 y3
        rw [e3] at U3
        have U4 := Lib.hid fun w => OtherSet_any X U w z4 z5
        rw [e4] at U4
        have U5 := Lib.hid fun w => GreatestOf_any G H w z6 z7
        rw [show gtR G H = (N : Int) - 1 by unfold gtR; rw [if_pos v4]; exact most_one (most_is (by have := (svS_parts v4).2.2.2.1; omega)) hmost] at U5
        have U6 := Lib.hid fun w => CountBelow_any G H (N : Int) w z6 z7 (by omega) (by omega)
        rw [hcb] at U6
        have HSOL := Lib.hid hsol
        have hw1 : IntKind.i64.wrap ((N : Int) - 1 + 1) = (N : Int) := by rw [IntKind.wrap_i64]; omega
        have hw2 : IntKind.i64.wrap (2 * (D : Int)) = (N : Int) := by rw [IntKind.wrap_i64]; omega
        obtain ⟨E, hE⟩ : ∃ E, N + 2 = E := ⟨_, rfl⟩
        have hw3 : IntKind.i64.wrap ((N : Int) - 1 + 3) = (E : Int) := by rw [IntKind.wrap_i64]; omega
        have hEb : E ≤ 402 := by omega
        have HP1 := Lib.hid p1
        have HP2 := Lib.hid p2
        obtain ⟨M, hM⟩ : ∃ M : Int, (N : Int) - 1 = M := ⟨_, rfl⟩
        rw [hM] at hw1 hw3 U5 hd2 ⊢
        clear hsol hmost hcb h2D e1 e2 e3 e4 v1 v2 v3 v4 hN hE hM hgg eg HI HS hbig p1 p2 hgv hP hg
        go_wp2_with fail
        refine (U1.out _).mono ?_
        rintro e w3 ⟨rfl, hb⟩
        have k3 := below_on k2 hb
        clear k2
        clear hb
        go_upto_region 8 with fail
        generalize hW : World.alloc w3 _ = w4
        obtain ⟨hx, hsx, hb⟩ := s2_new hW
        clear hW
        have k4 := below_on k3 hb
        clear k3
        have s_4 := hx
        clear hx hb
        obtain ⟨s_a, s_b, s_c, s_d⟩ := id s_4
        go_wp2_with fail
        refine (U2.out _).mono ?_
        rintro e w5 ⟨rfl, hb⟩
        clear s_a s_b s_c s_d
        have k5 := below_on k4 hb
        have s_5 := s2_on s_4 hb
        clear k4 s_4
        clear hb
        go_upto_region 9 with fail
        generalize hW : World.alloc w5 _ = w6
        obtain ⟨hx, hsx, hb⟩ := s2_new hW
        clear hW
        have k6 := below_on k5 hb
        have s_6 := s2_on s_5 hb
        clear k5 s_5
        have t_6 := hx
        clear hx hb
        obtain ⟨s_a, s_b, s_c, s_d⟩ := id s_6
        obtain ⟨t_a, t_b, t_c, t_d⟩ := id t_6
        go_wp2_with fail
        refine (U3.out _).mono ?_
        rintro e w7 ⟨rfl, hb⟩
        clear s_a s_b s_c s_d t_a t_b t_c t_d
        have k7 := below_on k6 hb
        have s_7 := s2_on s_6 hb
        have t_7 := s2_on t_6 hb
        clear k6 s_6 t_6
        clear hb
        go_upto_region 10 with fail
        generalize hW : World.alloc w7 _ = w8
        obtain ⟨hx, hsx, hb⟩ := s2_new hW
        clear hW
        have k8 := below_on k7 hb
        have s_8 := s2_on s_7 hb
        have t_8 := s2_on t_7 hb
        clear k7 s_7 t_7
        have x_8 := hx
        clear hx hb
        obtain ⟨s_a, s_b, s_c, s_d⟩ := id s_8
        obtain ⟨t_a, t_b, t_c, t_d⟩ := id t_8
        obtain ⟨x_a, x_b, x_c, x_d⟩ := id x_8
        go_wp2_with fail
        refine (U4.out _).mono ?_
        rintro e w9 ⟨rfl, hb⟩
        clear s_a s_b s_c s_d t_a t_b t_c t_d x_a x_b x_c x_d
        have k9 := below_on k8 hb
        have s_9 := s2_on s_8 hb
        have t_9 := s2_on t_8 hb
        have x_9 := s2_on x_8 hb
        clear k8 s_8 t_8 x_8
        clear hb
        go_upto_region 11 with fail
        generalize hW : World.alloc w9 _ = w10
        obtain ⟨hx, hsx, hb⟩ := s2_new hW
        clear hW
        have k10 := below_on k9 hb
        have s_10 := s2_on s_9 hb
        have t_10 := s2_on t_9 hb
        have x_10 := s2_on x_9 hb
        clear k9 s_9 t_9 x_9
        have gaps_10 := hx
        clear hx hb
        clear s_10
        clear t_10
        obtain ⟨x_a, x_b, x_c, x_d⟩ := id x_10
        obtain ⟨gaps_a, gaps_b, gaps_c, gaps_d⟩ := id gaps_10
        go_wp2_with fail
        clear x_a x_b x_c x_d gaps_a gaps_b gaps_c gaps_d
        go_loopw [14] (fun i wr => ∃ k : Nat, i = .int .i64 k ∧ k ≤ E + 1 ∧ S2 wr (w7.heap.size) (bs X) (bs U) ∧ S2 wr (w9.heap.size) (bs G) (bs H) ∧ Below w.heap.size w wr) (fun i _ => E + 1 - (intOf i).toNat)
        case atStart => exact ⟨0, rfl, Nat.zero_le _, x_10, gaps_10, k10⟩
        case round =>
          clear x_10 gaps_10 k10
          obtain ⟨k, rfl, hk, x_11, gaps_11, k11⟩ := hrel
          by_cases hlt : k ≤ E
          · have hk' : (k : Int) ≤ (E : Int) := by omega
            have hwk : IntKind.i64.wrap ((k : Int) + 1) = ((k + 1 : Nat) : Int) := by rw [IntKind.wrap_i64]; omega
            obtain ⟨q, hq⟩ : ∃ q, hnB X U k = q := ⟨_, rfl⟩
            have hqs := HSOL.out k
            rw [hq] at hqs
            obtain ⟨m, em, m0, m1, hm⟩ := cnt_pos HP1.out HP2.out (c := (k : Int)) (by omega) (by omega)
            have CS := Lib.hid fun w => CountSolutions_any (A : Int) (B : Int) (k : Int) w
            rw [em] at CS
            cases q
            · skip
              have hmd : decide (0 < m) = false := decide_eq_false fun h => by have := solB_iff.2 (hm.1 h); rw [← hqs] at this; cases this
              have P1 := Lib.hid fun w => pbIn_is X U k false w z4 z5 (by omega) (by omega) (hq)
              clear hq hqs hm em
              obtain ⟨x_a, x_b, x_c, x_d⟩ := id x_11
              obtain ⟨gaps_a, gaps_b, gaps_c, gaps_d⟩ := id gaps_11
              go_wp2_with fail
              refine (P1.out _).mono ?_
              rintro e w12 ⟨rfl, hb⟩
              clear x_a x_b x_c x_d gaps_a gaps_b gaps_c gaps_d
              have k12 := below_on k11 hb
              have x_12 := s2_on x_11 hb
              have gaps_12 := s2_on gaps_11 hb
              clear k11 x_11 gaps_11
              clear hb
              obtain ⟨x_a, x_b, x_c, x_d⟩ := id x_12
              obtain ⟨gaps_a, gaps_b, gaps_c, gaps_d⟩ := id gaps_12
              go_wp2_with fail
              refine (CS.out _).mono ?_
              rintro e w13 ⟨rfl, hb⟩
              clear x_a x_b x_c x_d gaps_a gaps_b gaps_c gaps_d
              have k13 := below_on k12 hb
              have x_13 := s2_on x_12 hb
              have gaps_13 := s2_on gaps_12 hb
              clear k12 x_12 gaps_12
              clear hb
              go_wp2
              go_roundw
              case rel => exact ⟨k + 1, rfl, by omega, x_13, gaps_13, k13⟩
              case measure => simp [intOf]; omega
            · skip
              have hmd : decide (0 < m) = true := decide_eq_true (hm.2 (solB_iff.1 hqs.symm))
              have P1 := Lib.hid fun w => pbIn_is X U k true w z4 z5 (by omega) (by omega) (hq)
              clear hq hqs hm em
              obtain ⟨x_a, x_b, x_c, x_d⟩ := id x_11
              obtain ⟨gaps_a, gaps_b, gaps_c, gaps_d⟩ := id gaps_11
              go_wp2_with fail
              refine (P1.out _).mono ?_
              rintro e w12 ⟨rfl, hb⟩
              clear x_a x_b x_c x_d gaps_a gaps_b gaps_c gaps_d
              have k12 := below_on k11 hb
              have x_12 := s2_on x_11 hb
              have gaps_12 := s2_on gaps_11 hb
              clear k11 x_11 gaps_11
              clear hb
              obtain ⟨x_a, x_b, x_c, x_d⟩ := id x_12
              obtain ⟨gaps_a, gaps_b, gaps_c, gaps_d⟩ := id gaps_12
              go_wp2_with fail
              refine (CS.out _).mono ?_
              rintro e w13 ⟨rfl, hb⟩
              clear x_a x_b x_c x_d gaps_a gaps_b gaps_c gaps_d
              have k13 := below_on k12 hb
              have x_13 := s2_on x_12 hb
              have gaps_13 := s2_on gaps_12 hb
              clear k12 x_12 gaps_12
              clear hb
              go_wp2
              go_roundw
              case rel => exact ⟨k + 1, rfl, by omega, x_13, gaps_13, k13⟩
              case measure => simp [intOf]; omega
          · have hk' : ¬ (k : Int) ≤ (E : Int) := by omega
            clear hlt hk
            obtain ⟨x_a, x_b, x_c, x_d⟩ := id x_11
            obtain ⟨gaps_a, gaps_b, gaps_c, gaps_d⟩ := id gaps_11
            go_wp2_with fail
            refine (U5.out _).mono ?_
            rintro e w17 ⟨rfl, hb⟩
            clear x_a x_b x_c x_d gaps_a gaps_b gaps_c gaps_d
            have k17 := below_on k11 hb
            have x_17 := s2_on x_11 hb
            have gaps_17 := s2_on gaps_11 hb
            clear k11 x_11 gaps_11
            clear hb
            obtain ⟨x_a, x_b, x_c, x_d⟩ := id x_17
            obtain ⟨gaps_a, gaps_b, gaps_c, gaps_d⟩ := id gaps_17
            go_wp2_with fail
            refine (U6.out _).mono ?_
            rintro e w18 ⟨rfl, hb⟩
            clear x_a x_b x_c x_d gaps_a gaps_b gaps_c gaps_d
            have k18 := below_on k17 hb
            have x_18 := s2_on x_17 hb
            have gaps_18 := s2_on gaps_17 hb
            clear k17 x_17 gaps_17
            clear hb
            obtain ⟨x_a, x_b, x_c, x_d⟩ := id x_18
            obtain ⟨gaps_a, gaps_b, gaps_c, gaps_d⟩ := id gaps_18
            go_wp2
            go_ret
            exact ⟨rfl, k18⟩
  · have hn' : (1048576 : Int) < (n : Int) := by omega
    go_enter Tryd.func12, Tryd.ntmps12
    go_wp2
    go_ret
    exact ⟨rfl, by go_grown⟩

end Go.Proofs.YtpheihejgnlanaaDoor
