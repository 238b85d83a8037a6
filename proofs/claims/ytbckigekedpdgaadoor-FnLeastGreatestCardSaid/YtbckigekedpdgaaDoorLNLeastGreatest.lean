/- The walk of the law FnLeastGreatest. -/
import Derived.Test.YtbckigekedpdgaaDoorLwK
import Derived.Test.YtbckigekedpdgaaDoorSfP
import Derived.Test.YtbckigekedpdgaaDoorSfS
import Derived.BigQuiet
import Derived.Deep.RegionHeld3
import Derived.BigGuardPart
import Derived.Deep.DeepCutAuto
namespace Go.Proofs.YtbckigekedpdgaaDoor
open Go.RowKit

set_option maxRecDepth 10000 in
set_option maxHeartbeats 4000000 in
theorem fnLeastGreatest_walk (sp : Option Addr) (n cap : Nat) (w : World) (h : Code w sp n cap) :
    Calls Tryd.prog 6 #[.slice sp n cap] w fun e w' => e = .returned (.bool true) ∧ Below w.heap.size w w' := by
  have HC := Lib.hid h
  clear h
  by_cases hn : n ≤ 1048576
  · have hn' : ¬ (1048576 : Int) < (n : Int) := by omega
    go_enter Tryd.func6, Tryd.ntmps6
    go_wp2_with fail
    refine (DrawGreatestOf_t sp n cap w HC.out).mono ?_
    rintro e w1 ⟨h, l, rfl, ⟨s0, s1⟩, k0⟩
    go_upto_region 4 with fail
    generalize hW : World.alloc w1 _ = w2
    obtain ⟨hx, hsx, hb⟩ := s2_new hW
    clear hW
    have k2 := below_on k0 hb
    clear k0
    have s_2 := hx
    clear hx hb
    obtain ⟨z0, z1⟩ : h.length ≤ 1000000000 ∧ l.length ≤ 1000000000 := ⟨by omega, by omega⟩
    obtain ⟨hl, hhl⟩ : ∃ x, h.length = x := ⟨_, rfl⟩
    obtain ⟨ll, hll⟩ : ∃ x, l.length = x := ⟨_, rfl⟩
    have hs1 := bs_size h
    have hs2 := bs_size l
    rw [hhl] at hs1
    rw [hll] at hs2
    have HL := Lib.hid fun w => LeastOf_any h l w z0 z1
    have HG := Lib.hid fun w => GreatestOf_any h l w z0 z1
    have SL := Lib.hid fun w => specLeastOf_any h l w z0 z1
    have SG := Lib.hid fun w => specGreatestOf_any h l w z0 z1
    have HV := Lib.hid fun w => SetValid_any h l w z0 z1
    obtain ⟨r, hr⟩ : ∃ r, leR h l = r := ⟨_, rfl⟩
    obtain ⟨g, hg⟩ : ∃ g, gtR h l = g := ⟨_, rfl⟩
    obtain ⟨v, hv⟩ : ∃ v, svS h l = v := ⟨_, rfl⟩
    rw [hr] at HL SL
    rw [hg] at HG SG
    rw [hv] at HV
    have HR := Lib.hid hr
    have HGG := Lib.hid hg
    have HVV := Lib.hid hv
    rw [hhl] at s0
    rw [hll] at s1
    clear hr hg hv
    have Z0 := Lib.hid z0
    have Z1 := Lib.hid z1
    clear hhl hll z0 z1
    obtain ⟨s_a, s_b, s_c, s_d⟩ := id s_2
    go_wp2_with fail
    refine (HL.out _).mono ?_
    rintro e w3 ⟨rfl, hb⟩
    clear s_a s_b s_c s_d
    have k3 := below_on k2 hb
    have s_3 := s2_on s_2 hb
    clear k2 s_2
    clear hb
    obtain ⟨s_a, s_b, s_c, s_d⟩ := id s_3
    go_wp2_with fail
    refine (HG.out _).mono ?_
    rintro e w4 ⟨rfl, hb⟩
    clear s_a s_b s_c s_d
    have k4 := below_on k3 hb
    have s_4 := s2_on s_3 hb
    clear k3 s_3
    clear hb
    obtain ⟨s_a, s_b, s_c, s_d⟩ := id s_4
    go_wp2_with fail
    refine (SL.out _).mono ?_
    rintro e w5 ⟨rfl, hb⟩
    clear s_a s_b s_c s_d
    have k5 := below_on k4 hb
    have s_5 := s2_on s_4 hb
    clear k4 s_4
    clear hb
    obtain ⟨s_a, s_b, s_c, s_d⟩ := id s_5
    go_wp2_with fail
    refine (SG.out _).mono ?_
    rintro e w6 ⟨rfl, hb⟩
    clear s_a s_b s_c s_d
    have k6 := below_on k5 hb
    have s_6 := s2_on s_5 hb
    clear k5 s_5
    clear hb
    obtain ⟨s_a, s_b, s_c, s_d⟩ := id s_6
    go_wp2_with fail
    refine (HV.out _).mono ?_
    rintro e w7 ⟨rfl, hb⟩
    clear s_a s_b s_c s_d
    have k7 := below_on k6 hb
    have s_7 := s2_on s_6 hb
    clear k6 s_6
    clear hb
    cases v with
    | false =>
      obtain rfl : r = -1 := by rw [← HR.out]; unfold leR; rw [HVV.out]; rfl
      obtain rfl : g = -3 := by rw [← HGG.out]; unfold gtR; rw [HVV.out]; rfl
      obtain ⟨s_a, s_b, s_c, s_d⟩ := id s_7
      go_wp2_with fail
      refine (SL.out _).mono ?_
      rintro e w8 ⟨rfl, hb⟩
      clear s_a s_b s_c s_d
      have k8 := below_on k7 hb
      have s_8 := s2_on s_7 hb
      clear k7 s_7
      clear hb
      obtain ⟨s_a, s_b, s_c, s_d⟩ := id s_8
      go_wp2_with fail
      refine (SG.out _).mono ?_
      rintro e w9 ⟨rfl, hb⟩
      clear s_a s_b s_c s_d
      have k9 := below_on k8 hb
      have s_9 := s2_on s_8 hb
      clear k8 s_8
      clear hb
      obtain ⟨s_a, s_b, s_c, s_d⟩ := id s_9
      go_wp2_with fail
      refine (HV.out _).mono ?_
      rintro e w10 ⟨rfl, hb⟩
      clear s_a s_b s_c s_d
      have k10 := below_on k9 hb
      have s_10 := s2_on s_9 hb
      clear k9 s_9
      clear hb
      obtain ⟨s_a, s_b, s_c, s_d⟩ := id s_10
      go_wp2
      go_ret
      exact ⟨rfl, k10⟩
    | true =>
      obtain ⟨B, hB⟩ : ∃ B, hl + 2 * ll = B := ⟨_, rfl⟩
      obtain ⟨D, hD⟩ : ∃ D, 2 * ll = D := ⟨_, rfl⟩
      have hw1 : IntKind.i64.wrap (2 * (ll : Int)) = (D : Int) := by rw [IntKind.wrap_i64]; omega
      have hw2 : IntKind.i64.wrap ((hl : Int) + (D : Int)) = (B : Int) := by rw [IntKind.wrap_i64]; omega
      have hBb : B ≤ 10000 := by omega
      clear hB hD HL HG SL SG HV
      rcases lg_law HVV.out with ⟨e1, e2, hno⟩ | ⟨m, e1, hm, hin, hmin, hmost⟩
      · rw [HR.out] at e1
        rw [HGG.out] at e2
        subst e1 e2
        have HNO := Lib.hid hno
        clear hno
        obtain ⟨s_a, s_b, s_c, s_d⟩ := id s_7
        go_wp2_with fail
        clear s_a s_b s_c s_d
        go_loopw [7] (fun i wr => ∃ k : Nat, i = .int .i64 k ∧ k ≤ B + 1 ∧ S2 wr (w1.heap.size) (bs h) (bs l) ∧ Below w.heap.size w wr) (fun i _ => B + 1 - (intOf i).toNat)
        case atStart => exact ⟨0, rfl, Nat.zero_le _, s_7, k7⟩
        case round =>
          clear s_7 k7
          obtain ⟨k, rfl, hk, s_8, k8⟩ := hrel
          by_cases hlt : k ≤ B
          · have hk' : (k : Int) ≤ (B : Int) := by omega
            have hwk : IntKind.i64.wrap ((k : Int) + 1) = ((k + 1 : Nat) : Int) := by rw [IntKind.wrap_i64]; omega
            have P1 := Lib.hid fun w => pbIn_is h l k false w Z0.out Z1.out (by omega) (by omega) (HNO.out k)
            obtain ⟨s_a, s_b, s_c, s_d⟩ := id s_8
            go_wp2_with fail
            refine (P1.out _).mono ?_
            rintro e w9 ⟨rfl, hb⟩
            clear s_a s_b s_c s_d
            have k9 := below_on k8 hb
            have s_9 := s2_on s_8 hb
            clear k8 s_8
            clear hb
            go_wp2
            go_roundw
            case rel => exact ⟨k + 1, rfl, by omega, s_9, k9⟩
            case measure => simp [intOf]; omega
          · have hk' : ¬ (k : Int) ≤ (B : Int) := by omega
            clear hlt hk
            obtain ⟨s_a, s_b, s_c, s_d⟩ := id s_8
            go_wp2
            go_ret
            exact ⟨rfl, k8⟩
      · rw [HR.out] at e1
        subst e1
        have hm0 : decide ((m : Int) < 0) = false := decide_eq_false (by omega)
        have hm1 : ((m : Int) == -1) = false := by rw [beq_eq_false_iff_ne]; omega
        have HMIN := Lib.hid hmin
        have PM := Lib.hid fun w => pbIn_is h l m true w Z0.out Z1.out (by omega) (by omega) (hin)
        clear hin hmin
        rcases hmost with e2 | ⟨t, e2, ht, hint, hmax⟩
        · rw [HGG.out] at e2
          subst e2
          obtain ⟨s_a, s_b, s_c, s_d⟩ := id s_7
          go_wp2_with fail
          clear s_a s_b s_c s_d
          go_loopw [7] (fun i wr => ∃ k : Nat, i = .int .i64 k ∧ k ≤ B + 1 ∧ S2 wr (w1.heap.size) (bs h) (bs l) ∧ Below w.heap.size w wr) (fun i _ => B + 1 - (intOf i).toNat)
          case atStart => exact ⟨0, rfl, Nat.zero_le _, s_7, k7⟩
          case round =>
            clear s_7 k7
            obtain ⟨k, rfl, hk, s_8, k8⟩ := hrel
            by_cases hlt : k ≤ B
            · have hk' : (k : Int) ≤ (B : Int) := by omega
              have hwk : IntKind.i64.wrap ((k : Int) + 1) = ((k + 1 : Nat) : Int) := by rw [IntKind.wrap_i64]; omega
              obtain ⟨p, hp⟩ : ∃ p, hnB h l k = p := ⟨_, rfl⟩
              cases p
              · skip
                have P1 := Lib.hid fun w => pbIn_is h l k false w Z0.out Z1.out (by omega) (by omega) (hp)
                clear hp
                obtain ⟨s_a, s_b, s_c, s_d⟩ := id s_8
                go_wp2_with fail
                refine (P1.out _).mono ?_
                rintro e w9 ⟨rfl, hb⟩
                clear s_a s_b s_c s_d
                have k9 := below_on k8 hb
                have s_9 := s2_on s_8 hb
                clear k8 s_8
                clear hb
                go_wp2
                go_roundw
                case rel => exact ⟨k + 1, rfl, by omega, s_9, k9⟩
                case measure => simp [intOf]; omega
              · skip
                have hle := HMIN.out k hp
                have hkm : decide ((k : Int) < (m : Int)) = false := decide_eq_false (by omega)
                have hkm2 : decide (k < m) = false := decide_eq_false (by omega)
                have P1 := Lib.hid fun w => pbIn_is h l k true w Z0.out Z1.out (by omega) (by omega) (hp)
                clear hp hle
                obtain ⟨s_a, s_b, s_c, s_d⟩ := id s_8
                go_wp2_with fail
                refine (P1.out _).mono ?_
                rintro e w9 ⟨rfl, hb⟩
                clear s_a s_b s_c s_d
                have k9 := below_on k8 hb
                have s_9 := s2_on s_8 hb
                clear k8 s_8
                clear hb
                go_wp2
                go_roundw
                case rel => exact ⟨k + 1, rfl, by omega, s_9, k9⟩
                case measure => simp [intOf]; omega
            · have hk' : ¬ (k : Int) ≤ (B : Int) := by omega
              clear hlt hk
              obtain ⟨s_a, s_b, s_c, s_d⟩ := id s_8
              go_wp2_with fail
              refine (PM.out _).mono ?_
              rintro e w14 ⟨rfl, hb⟩
              clear s_a s_b s_c s_d
              have k14 := below_on k8 hb
              have s_14 := s2_on s_8 hb
              clear k8 s_8
              clear hb
              obtain ⟨s_a, s_b, s_c, s_d⟩ := id s_14
              go_wp2
              go_ret
              exact ⟨rfl, k14⟩
        · rw [HGG.out] at e2
          subst e2
          have ht0 : decide ((t : Int) < 0) = false := decide_eq_false (by omega)
          have ht1 : ((t : Int) == -1) = false := by rw [beq_eq_false_iff_ne]; omega
          have ht2 : decide ((0 : Int) ≤ (t : Int)) = true := decide_eq_true (by omega)
          have HMAX := Lib.hid hmax
          have PT := Lib.hid fun w => pbIn_is h l t true w Z0.out Z1.out (by omega) (by omega) (hint)
          clear hint hmax
          obtain ⟨s_a, s_b, s_c, s_d⟩ := id s_7
          go_wp2_with fail
          clear s_a s_b s_c s_d
          go_loopw [7] (fun i wr => ∃ k : Nat, i = .int .i64 k ∧ k ≤ B + 1 ∧ S2 wr (w1.heap.size) (bs h) (bs l) ∧ Below w.heap.size w wr) (fun i _ => B + 1 - (intOf i).toNat)
          case atStart => exact ⟨0, rfl, Nat.zero_le _, s_7, k7⟩
          case round =>
            clear s_7 k7
            obtain ⟨k, rfl, hk, s_8, k8⟩ := hrel
            by_cases hlt : k ≤ B
            · have hk' : (k : Int) ≤ (B : Int) := by omega
              have hwk : IntKind.i64.wrap ((k : Int) + 1) = ((k + 1 : Nat) : Int) := by rw [IntKind.wrap_i64]; omega
              obtain ⟨p, hp⟩ : ∃ p, hnB h l k = p := ⟨_, rfl⟩
              cases p
              · skip
                have P1 := Lib.hid fun w => pbIn_is h l k false w Z0.out Z1.out (by omega) (by omega) (hp)
                clear hp
                obtain ⟨s_a, s_b, s_c, s_d⟩ := id s_8
                go_wp2_with fail
                refine (P1.out _).mono ?_
                rintro e w9 ⟨rfl, hb⟩
                clear s_a s_b s_c s_d
                have k9 := below_on k8 hb
                have s_9 := s2_on s_8 hb
                clear k8 s_8
                clear hb
                go_wp2
                go_roundw
                case rel => exact ⟨k + 1, rfl, by omega, s_9, k9⟩
                case measure => simp [intOf]; omega
              · skip
                have hle := HMIN.out k hp
                have hkm : decide ((k : Int) < (m : Int)) = false := decide_eq_false (by omega)
                have hkm2 : decide (k < m) = false := decide_eq_false (by omega)
                have hge := HMAX.out k hp
                have hkt : decide ((t : Int) < (k : Int)) = false := decide_eq_false (by omega)
                have hkt2 : decide (t < k) = false := decide_eq_false (by omega)
                have P1 := Lib.hid fun w => pbIn_is h l k true w Z0.out Z1.out (by omega) (by omega) (hp)
                clear hp hle hge
                obtain ⟨s_a, s_b, s_c, s_d⟩ := id s_8
                go_wp2_with fail
                refine (P1.out _).mono ?_
                rintro e w9 ⟨rfl, hb⟩
                clear s_a s_b s_c s_d
                have k9 := below_on k8 hb
                have s_9 := s2_on s_8 hb
                clear k8 s_8
                clear hb
                go_wp2
                go_roundw
                case rel => exact ⟨k + 1, rfl, by omega, s_9, k9⟩
                case measure => simp [intOf]; omega
            · have hk' : ¬ (k : Int) ≤ (B : Int) := by omega
              clear hlt hk
              obtain ⟨s_a, s_b, s_c, s_d⟩ := id s_8
              go_wp2_with fail
              refine (PM.out _).mono ?_
              rintro e w14 ⟨rfl, hb⟩
              clear s_a s_b s_c s_d
              have k14 := below_on k8 hb
              have s_14 := s2_on s_8 hb
              clear k8 s_8
              clear hb
              obtain ⟨s_a, s_b, s_c, s_d⟩ := id s_14
              go_wp2_with fail
              refine (PT.out _).mono ?_
              rintro e w15 ⟨rfl, hb⟩
              clear s_a s_b s_c s_d
              have k15 := below_on k14 hb
              have s_15 := s2_on s_14 hb
              clear k14 s_14
              clear hb
              obtain ⟨s_a, s_b, s_c, s_d⟩ := id s_15
              go_wp2
              go_ret
              exact ⟨rfl, k15⟩
  · have hn' : (1048576 : Int) < (n : Int) := by omega
    go_enter Tryd.func6, Tryd.ntmps6
    go_wp2
    go_ret
    exact ⟨rfl, by go_grown⟩

end Go.Proofs.YtbckigekedpdgaaDoor
