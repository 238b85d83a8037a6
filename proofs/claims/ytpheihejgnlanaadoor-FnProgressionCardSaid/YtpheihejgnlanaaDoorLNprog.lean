/- The walk of the law on progressions. -/
import Derived.Test.YtpheihejgnlanaaDoorPgM
import Derived.Test.YtpheihejgnlanaaDoorDrPs
import Derived.Test.YtpheihejgnlanaaDoorSe7
import Derived.Test.YtpheihejgnlanaaDoorSfP
import Derived.Test.YtpheihejgnlanaaDoorPbI
namespace Go.Proofs.YtpheihejgnlanaaDoor
open Go.RowKit

set_option maxRecDepth 10000 in
set_option maxHeartbeats 4000000 in
theorem progression_walk (sp : Option Addr) (n cap : Nat) (w : World) (h : Code w sp n cap) :
    Calls Tryd.prog 11 #[.slice sp n cap] w fun e w' => e = .returned (.bool true) ∧ Below w.heap.size w w' := by
  have HC := Lib.hid h
  clear h
  by_cases hn : n ≤ 1048576
  · have hn' : ¬ (1048576 : Int) < (n : Int) := by omega
    go_enter Tryd.func11, Tryd.ntmps11
    go_wp2_with fail
    refine (DrawProgressionSet_t sp n cap w HC.out).mono ?_
    rintro e w1 ⟨f, s, rfl, ⟨f0, f1⟩, ⟨s0, s1⟩, hb1⟩
    have HI := Lib.hid fun w => ProgressionSet_any f s w f0 f1 s0 s1
    have HS := Lib.hid fun w => specProgressionSet_any f s w f0 f1 s0 s1
    have HP := Lib.hid fun X Y => pr_true (f := f) (s := s) (H := X) (L := Y)
    obtain ⟨R, hr⟩ : ∃ r, prR f s = r := ⟨_, rfl⟩
    obtain ⟨⟨X, Y⟩, b⟩ := R
    rw [hr] at HI HS
    have HR := Lib.hid hr
    have hnl := nel_same X Y
    have heq := eql_same X Y
    clear hr f0 f1 s0 s1
    go_wp2_with fail
    refine (HI.out _).mono ?_
    rintro e w2 ⟨rfl, hb2⟩
    have k2 := below_on hb1 hb2
    clear hb1 hb2
    go_upto_region 5 with fail
    generalize hW : World.alloc w2 _ = W3
    obtain ⟨hu, _, hb3⟩ := s2_new hW
    clear hW
    have k3 := below_on k2 hb3
    clear hb3 k2
    go_wp2_with fail
    refine (HS.out _).mono ?_
    rintro e w4 ⟨rfl, hb4⟩
    have k4 := below_on k3 hb4
    have u4 := s2_on hu hb4
    clear hb4 k3 hu
    go_upto_region 6 with fail
    generalize hW : World.alloc w4 _ = W5
    obtain ⟨hv, _, hb5⟩ := s2_new hW
    clear hW
    have k5 := below_on k4 hb5
    have u5 := s2_on u4 hb5
    clear hb5 k4 u4
    obtain ⟨x0, x1, x2, x3⟩ := id u5
    obtain ⟨z0, z1, z2, z3⟩ := id hv
    cases b with
    | false =>
      go_wp2
      go_ret
      exact ⟨rfl, k5⟩
    | true =>
      obtain ⟨F, S, rfl, rfl, hF, hS, hsv, hin⟩ := HP.out X Y HR.out
      obtain ⟨_, _, q3, _, q5, q6⟩ := svS_parts hsv
      have HPB := Lib.hid fun (k : Nat) (hk : k ≤ 9223372036854775807) w => pbIn_any X Y k w (by omega) (by omega) (by omega) (by omega)
      have HPI : Hid (∀ k : Nat, hnB X Y k = isP F S k) := Lib.hid fun k => by
        unfold hnB
        rw [hsv, decide_eq_true (show (0 : Int) ≤ (k : Int) by omega), Int.toNat_natCast, hin]
        rfl
      have HLe := Lib.hid fun w => LeastOf_any X Y w (by omega) (by omega)
      have HGr := Lib.hid fun w => GreatestOf_any X Y w (by omega) (by omega)
      rw [pr_least hsv hin] at HLe
      rw [pr_most hsv hin] at HGr
      obtain ⟨D, hD⟩ : ∃ D, 2 * S = D := ⟨_, rfl⟩
      obtain ⟨E, hE⟩ : ∃ E, F + D = E := ⟨_, rfl⟩
      obtain ⟨B, hB⟩ : ∃ B, E + 3 = B := ⟨_, rfl⟩
      have hw1 : IntKind.i64.wrap (2 * (S : Int)) = (D : Int) := by rw [IntKind.wrap_i64]; omega
      have hw2 : IntKind.i64.wrap ((F : Int) + (D : Int)) = (E : Int) := by rw [IntKind.wrap_i64]; omega
      have hw3 : IntKind.i64.wrap ((E : Int) + 3) = (B : Int) := by rw [IntKind.wrap_i64]; omega
      have hBb : B ≤ 1000 := by omega
      have HU := Lib.hid u5
      have HK := Lib.hid k5
      clear hD hE hB hsv hin q3 q5 q6 u5 k5 hv HI HS HP HR
      go_wp2_with fail
      clear z0 z1 z2 z3
      go_loopw [9] (fun i wr => ∃ k : Nat, i = .int .i64 k ∧ k ≤ B + 1 ∧ S2 wr w2.heap.size (bs X) (bs Y) ∧ Below w.heap.size w wr) (fun i _ => B + 1 - (intOf i).toNat)
      case atStart => exact ⟨0, rfl, Nat.zero_le _, HU.out, HK.out⟩
      case round =>
        obtain ⟨k, rfl, hk, hX, hBb2⟩ := hrel
        have HX := Lib.hid hX
        have HB := Lib.hid hBb2
        clear hX hBb2 x0 x1 x2 x3
        obtain ⟨x0, x1, x2, x3⟩ := HX.out
        by_cases hlt : k ≤ B
        · have hk' : (k : Int) ≤ (B : Int) := by omega
          have hwk : IntKind.i64.wrap ((k : Int) + 1) = ((k + 1 : Nat) : Int) := by rw [IntKind.wrap_i64]; omega
          by_cases hfk : F ≤ k
          · have hfk' : (F : Int) ≤ (k : Int) := by omega
            by_cases hS0 : S = 0
            · have hse : ((S : Int) == 0) = true := by rw [beq_iff_eq]; omega
              have hsg : ¬ (0 : Int) < (S : Int) := by omega
              have hsn : decide (0 < S) = false := decide_eq_false (by omega)
              by_cases hkf : k = F
              · have hke : ((k : Int) == (F : Int)) = true := by rw [beq_iff_eq]; omega
                have hv : isP F S k = true := by unfold isP; rw [decide_eq_true hfk, if_pos hS0, decide_eq_true hkf]; rfl
                clear hS0 hkf hfk
                go_wp2_with fail
                refine (HPB.out k (by omega) _).mono ?_
                rintro e w6 ⟨rfl, hb6⟩
                have HP6 : Hid (hnB X Y k = true) := Lib.hid (by rw [HPI.out]; exact hv)
                rw [HP6.out]
                have X6 := Lib.hid (s2_on HX.out hb6)
                have B6 := Lib.hid (below_on HB.out hb6)
                clear hb6 hv x0 x1 x2 x3
                go_wp2
                go_roundw
                case rel => exact ⟨k + 1, rfl, by omega, X6.out, B6.out⟩
                case measure => simp [intOf]; omega
              · have hke : ((k : Int) == (F : Int)) = false := by rw [beq_eq_false_iff_ne]; omega
                have hv : isP F S k = false := by unfold isP; rw [decide_eq_true hfk, if_pos hS0, decide_eq_false hkf]; rfl
                clear hS0 hkf hfk
                go_wp2_with fail
                refine (HPB.out k (by omega) _).mono ?_
                rintro e w6 ⟨rfl, hb6⟩
                have HP6 : Hid (hnB X Y k = false) := Lib.hid (by rw [HPI.out]; exact hv)
                rw [HP6.out]
                have X6 := Lib.hid (s2_on HX.out hb6)
                have B6 := Lib.hid (below_on HB.out hb6)
                clear hb6 hv x0 x1 x2 x3
                go_wp2
                go_roundw
                case rel => exact ⟨k + 1, rfl, by omega, X6.out, B6.out⟩
                case measure => simp [intOf]; omega
            · have hse : ((S : Int) == 0) = false := by rw [beq_eq_false_iff_ne]; omega
              have hsg : (0 : Int) < (S : Int) := by omega
              have hsn : decide (0 < S) = true := decide_eq_true (by omega)
              have hs0 : (S : Int) ≠ 0 := by omega
              obtain ⟨d, hd⟩ : ∃ d, k - F = d := ⟨_, rfl⟩
              obtain ⟨r, hr⟩ : ∃ r, d % S = r := ⟨_, rfl⟩
              have hwd : IntKind.i64.wrap ((k : Int) - (F : Int)) = (d : Int) := by rw [IntKind.wrap_i64]; omega
              have htm : (d : Int).tmod (S : Int) = (r : Int) := by rw [← hr, Int.tmod_eq_emod_of_nonneg (by omega)]; omega
              by_cases hr0 : r = 0
              · have hre : ((r : Int) == 0) = true := by rw [beq_iff_eq]; omega
                have hv : isP F S k = true := by unfold isP; rw [decide_eq_true hfk, if_neg hS0, hd, hr, decide_eq_true hr0]; rfl
                clear hS0 hr0 hfk hd hr
                go_wp2_with fail
                refine (HPB.out k (by omega) _).mono ?_
                rintro e w6 ⟨rfl, hb6⟩
                have HP6 : Hid (hnB X Y k = true) := Lib.hid (by rw [HPI.out]; exact hv)
                rw [HP6.out]
                have X6 := Lib.hid (s2_on HX.out hb6)
                have B6 := Lib.hid (below_on HB.out hb6)
                clear hb6 hv x0 x1 x2 x3
                go_wp2
                go_roundw
                case rel => exact ⟨k + 1, rfl, by omega, X6.out, B6.out⟩
                case measure => simp [intOf]; omega
              · have hre : ((r : Int) == 0) = false := by rw [beq_eq_false_iff_ne]; omega
                have hv : isP F S k = false := by unfold isP; rw [decide_eq_true hfk, if_neg hS0, hd, hr, decide_eq_false hr0]; rfl
                clear hS0 hr0 hfk hd hr
                go_wp2_with fail
                refine (HPB.out k (by omega) _).mono ?_
                rintro e w6 ⟨rfl, hb6⟩
                have HP6 : Hid (hnB X Y k = false) := Lib.hid (by rw [HPI.out]; exact hv)
                rw [HP6.out]
                have X6 := Lib.hid (s2_on HX.out hb6)
                have B6 := Lib.hid (below_on HB.out hb6)
                clear hb6 hv x0 x1 x2 x3
                go_wp2
                go_roundw
                case rel => exact ⟨k + 1, rfl, by omega, X6.out, B6.out⟩
                case measure => simp [intOf]; omega
          · have hfk' : ¬ (F : Int) ≤ (k : Int) := by omega
            have hv : isP F S k = false := by unfold isP; rw [decide_eq_false hfk]; rfl
            clear hfk
            go_wp2_with fail
            refine (HPB.out k (by omega) _).mono ?_
            rintro e w6 ⟨rfl, hb6⟩
            have HP6 : Hid (hnB X Y k = false) := Lib.hid (by rw [HPI.out]; exact hv)
            rw [HP6.out]
            have X6 := Lib.hid (s2_on HX.out hb6)
            have B6 := Lib.hid (below_on HB.out hb6)
            clear hb6 hv x0 x1 x2 x3
            go_wp2
            go_roundw
            case rel => exact ⟨k + 1, rfl, by omega, X6.out, B6.out⟩
            case measure => simp [intOf]; omega
        · have hk' : ¬ (k : Int) ≤ (B : Int) := by omega
          clear hlt hk
          by_cases hS0 : S = 0
          · have hsg : ¬ (0 : Int) < (S : Int) := by omega
            have hsn : decide (0 < S) = false := decide_eq_false (by omega)
            rw [if_pos hS0] at HGr
            have hne : ((F : Int) == -2) = false := by rw [beq_eq_false_iff_ne]; omega
            clear hS0
            go_wp2_with fail
            refine (HLe.out _).mono ?_
            rintro e w6 ⟨rfl, hb6⟩
            have hX6 := s2_on HX.out hb6
            have B6 := below_on HB.out hb6
            clear hb6 x0 x1 x2 x3
            obtain ⟨x0, x1, x2, x3⟩ := id hX6
            go_wp2_with fail
            refine (HGr.out _).mono ?_
            rintro e w7 ⟨rfl, hb7⟩
            have B7 := below_on B6 hb7
            clear hb7
            go_wp2
            go_ret
            exact ⟨rfl, B7⟩
          · have hsg : (0 : Int) < (S : Int) := by omega
            have hsn : decide (0 < S) = true := decide_eq_true (by omega)
            rw [if_neg hS0] at HGr
            clear hS0
            go_wp2_with fail
            refine (HLe.out _).mono ?_
            rintro e w6 ⟨rfl, hb6⟩
            have hX6 := s2_on HX.out hb6
            have B6 := below_on HB.out hb6
            clear hb6 x0 x1 x2 x3
            obtain ⟨x0, x1, x2, x3⟩ := id hX6
            go_wp2_with fail
            refine (HGr.out _).mono ?_
            rintro e w7 ⟨rfl, hb7⟩
            have B7 := below_on B6 hb7
            clear hb7
            go_wp2
            go_ret
            exact ⟨rfl, B7⟩
  · have hn' : (1048576 : Int) < (n : Int) := by omega
    go_enter Tryd.func11, Tryd.ntmps11
    go_wp2
    go_ret
    exact ⟨rfl, by go_grown⟩
end Go.Proofs.YtpheihejgnlanaaDoor
