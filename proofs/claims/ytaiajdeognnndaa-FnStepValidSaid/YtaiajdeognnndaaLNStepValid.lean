/- The walk of the law FnStepValid. -/
import Derived.Test.YtaiajdeognnndaaDrSc
import Derived.Test.YtaiajdeognnndaaSvB
import Derived.BigQuiet
import Derived.BigGuardPart
import Derived.Deep.DeepCutAuto
namespace Go.Proofs.Ytaiajdeognnndaa
open Go.RowKit

theorem svR_more : ∀ (F T : List Int) (l n : Int), svR l n F T = true → svR l (n + 1) F T = true
  | [], _, _, _, _ => rfl
  | x :: F, [], _, _, h => by simp [svR] at h
  | x :: F, t :: T, l, n, h => by
    simp only [svR, Bool.and_eq_true, decide_eq_true_eq] at h ⊢
    exact ⟨⟨⟨⟨h.1.1.1.1, by omega⟩, h.1.1.2⟩, h.1.2⟩, svR_more F T (x + 1) n h.2⟩
theorem svB_more {F T : List Int} {n : Int} (h : svB F T n = true) : svB F T (n + 1) = true := by
  simp only [svB, Bool.and_eq_true] at h ⊢
  exact ⟨h.1, h.2.1, svR_more F T 0 n h.2.2⟩
def GdR (F T : List Int) (A B' : Nat) (N : Int) (w : World) (g i : Value) (wr : World) : Prop :=
  ∃ (k : Nat) (c : Bool), g = .bool c ∧ i = .int .i64 k ∧ k ≤ A ∧ (c = true → A = B' ∧ 0 < A ∧ 0 ≤ lst F k ∧ svR (lst F k) N (F.drop k) (T.drop k) = svB F T N) ∧ (c = false → svB F T N = false) ∧ Below w.heap.size w wr

set_option maxRecDepth 10000 in
set_option maxHeartbeats 4000000 in
theorem fnStepValid_walk (sp : Option Addr) (n cap : Nat) (w : World) (h : Code w sp n cap) :
    Calls Try.prog 4 #[.slice sp n cap] w fun e w' => e = .returned (.bool true) ∧ Below w.heap.size w w' := by
  have HC := Lib.hid h
  clear h
  by_cases hn : n ≤ 1048576
  · have hn' : ¬ (1048576 : Int) < (n : Int) := by omega
    go_enter Try.func4, Try.ntmps4
    go_wp2_with fail
    refine (DrawStepValid_t sp n cap w HC.out).mono ?_
    rintro e w1 ⟨s, t, F, T, N, rfl, hs, ht, hF, hT, hN, hb1⟩
    have HS := Lib.hid hs
    have HT := Lib.hid ht
    obtain ⟨A, hA⟩ : ∃ A, F.length = A := ⟨_, rfl⟩
    obtain ⟨B', hB'⟩ : ∃ B', T.length = B' := ⟨_, rfl⟩
    have HA := Lib.hid hA
    have HB' := Lib.hid hB'
    obtain ⟨sa, sc, rfl, _, hcm, hsl⟩ := hs
    obtain ⟨ta, tc, rfl, _, _, htl⟩ := ht
    rw [hA] at hF hsl ⊢
    rw [hB'] at hT htl ⊢
    rw [hA] at HS
    rw [hB'] at HT
    have HSL := Lib.hid hsl
    have HTL := Lib.hid htl
    clear hA hB' hsl htl
    go_upto_region 4 with fail
    generalize hW : World.alloc w1 _ = w2
    have hb2 : Below w1.heap.size w1 w2 := by subst hW; go_grown
    have hx0 : w2.cell? ⟨w1.heap.size, 0, none⟩ = some (.slice sa A sc) := by subst hW; simp [go_sem]
    have hx1 : w2.cell? ⟨w1.heap.size, 1, none⟩ = some (.slice ta B' tc) := by subst hW; simp [go_sem]
    have hs2 : w1.heap.size < w2.heap.size := by subst hW; simp
    clear hW
    have HB2 := Lib.hid (below_on hb1 hb2)
    have HI := Lib.hid fun m (m1 : m ≤ 9223372036854775807) W hW => StepValid_any _ _ F T m W (rdJ_on (w := w1) HS.out hW) (rdJ_on HT.out hW) m1 (by rw [HA.out]; omega)
    have HM := Lib.hid fun W hW => specStepValid_any _ _ F T (N : Int) W (rdJ_on (w := w1) HS.out hW) (rdJ_on HT.out hW) (by omega) (by omega) (by rw [HA.out]; omega)
    obtain ⟨b, hb⟩ : ∃ b, svB F T N = b := ⟨_, rfl⟩
    have HI1 := Lib.hid fun W hW => HI.out (N : Int) (by omega) W hW
    rw [hb] at HI1 HM
    have HBB := Lib.hid hb
    have hbb : (b != b) = false := by simp
    clear hb hb1
    go_wp2_with fail
    refine (HI1.out w2 hb2).mono ?_
    rintro e w3 ⟨rfl, hb3⟩
    have h13 := below_on hb2 hb3
    have y0 : w3.cell? ⟨w1.heap.size, 0, none⟩ = _ := (hb3.cell (p := ⟨w1.heap.size, 0, none⟩) hs2).trans hx0
    have y1 : w3.cell? ⟨w1.heap.size, 1, none⟩ = _ := (hb3.cell (p := ⟨w1.heap.size, 1, none⟩) hs2).trans hx1
    have hs3 : w1.heap.size < w3.heap.size := Nat.lt_of_lt_of_le hs2 hb3.size
    have HB3 := Lib.hid (below_on HB2.out hb3)
    clear hx0 hx1 hb2 hb3
    go_wp2_with fail
    refine (HM.out w3 h13).mono ?_
    rintro e w4 ⟨rfl, hb4⟩
    have h14 := below_on h13 hb4
    have x0 : w4.cell? ⟨w1.heap.size, 0, none⟩ = _ := (hb4.cell (p := ⟨w1.heap.size, 0, none⟩) hs3).trans y0
    have x1 : w4.cell? ⟨w1.heap.size, 1, none⟩ = _ := (hb4.cell (p := ⟨w1.heap.size, 1, none⟩) hs3).trans y1
    have hs4 : w1.heap.size < w4.heap.size := Nat.lt_of_lt_of_le hs3 hb4.size
    have HB4 := Lib.hid (below_on HB3.out hb4)
    have H14 := Lib.hid h14
    clear y0 y1 h13 hb4 h14
    go_upto_region 7 with fail
    go_cut [6] (fun v V => v = .bool (decide (A = B') && decide (0 < A)) ∧ w4 = V)
    case first =>
      by_cases q1 : A = B'
      · have e1 : ((A : Int) == (B' : Int)) = true := by simp [q1]
        have f1 : decide (A = B') = true := by simp [q1]
        by_cases q2 : 0 < A
        · have e2 : decide ((A : Int) > 0) = true := by simp; omega
          have f2 : decide (0 < A) = true := by simp; omega
          go_wp2_with fail
          go_meet
          exact ⟨by simp [q1], rfl⟩
        · have e2 : decide ((A : Int) > 0) = false := by simp; omega
          have f2 : decide (0 < A) = false := by simp; omega
          go_wp2_with fail
          go_meet
          exact ⟨by simp [q1], rfl⟩
      · have e1 : ((A : Int) == (B' : Int)) = false := by rw [beq_eq_false_iff_ne]; omega
        have f1 : decide (A = B') = false := by simp [q1]
        have q3 : ¬ (A : Int) = (B' : Int) := by omega
        go_wp2_with fail
        go_meet
        exact ⟨by rw [f1]; rfl, rfl⟩
    case rest =>
      obtain ⟨rfl, rfl⟩ := hcut
      have HST := Lib.hid (show GdR F T A B' N w4 (.bool (decide (A = B') && decide (0 < A))) (.int .i64 0) w4 from ⟨0, _, rfl, rfl, Nat.zero_le _, by
        intro q
        simp only [Bool.and_eq_true, decide_eq_true_eq] at q
        refine ⟨q.1, q.2, by simp [lst], ?_⟩
        unfold svB
        rw [HA.out, HB'.out, decide_eq_true q.1, decide_eq_true q.2]
        rfl, by
        intro q
        unfold svB
        rw [HA.out, HB'.out]
        simp only [Bool.and_eq_false_iff, decide_eq_false_iff_not] at q
        rcases q with q | q <;> simp [q], Below.refl _ _⟩)
      go_wp2_with fail
      go_loopw [6, 7] (fun g i wr => GdR F T A B' N w4 g i wr) (fun _ i _ => A - (intOf i).toNat)
      case atStart => exact HST.out
      case round =>
        obtain ⟨k, c, rfl, rfl, hk, hct, hcf, hbw⟩ := hrel
        rename World => w5
        clear HST
        have HB5 := Lib.hid hbw
        have z0 : w5.cell? ⟨w1.heap.size, 0, none⟩ = _ := (hbw.cell (p := ⟨w1.heap.size, 0, none⟩) hs4).trans x0
        have z1 : w5.cell? ⟨w1.heap.size, 1, none⟩ = _ := (hbw.cell (p := ⟨w1.heap.size, 1, none⟩) hs4).trans x1
        cases c with
        | false =>
          obtain rfl : b = false := by rw [← HBB.out]; exact hcf rfl
          clear hct hcf
          go_wp2
          go_ret
          exact ⟨rfl, below_on HB4.out HB5.out⟩
        | true =>
          obtain ⟨hAB, hA0, hl0, hsv⟩ := hct rfl
          subst hAB
          clear hct hcf
          by_cases hlt : k < A
          · have hk' : (k : Int) < (A : Int) := by omega
            have hkd : decide ((k : Int) < (A : Int)) = true := by simp; omega
            have hkd2 : decide (k < A) = true := by simp; omega
            have hk0 : (0 : Int) ≤ (k : Int) := by omega
            obtain ⟨x, hx⟩ : ∃ x, F[k]? = some x := ⟨_, List.getElem?_eq_getElem (by rw [HA.out]; exact hlt)⟩
            obtain ⟨u, hu⟩ : ∃ u, T[k]? = some u := ⟨_, List.getElem?_eq_getElem (by rw [HB'.out]; exact hlt)⟩
            obtain ⟨b1, o1, rfl, hb1, hc1⟩ := HSL.out.resolve_left (by omega)
            obtain ⟨b2, o2, rfl, hb2, hc2⟩ := HTL.out.resolve_left (by omega)
            have h15 := below_on H14.out hbw
            have c0 : w5.cell? ⟨b1, o1 + k, none⟩ = some (.int .i64 x) := (h15.cell (p := ⟨b1, o1 + k, none⟩) hb1).trans (hc1 k x hx)
            have c1 : w5.cell? ⟨b2, o2 + k, none⟩ = some (.int .i64 u) := (h15.cell (p := ⟨b2, o2 + k, none⟩) hb2).trans (hc2 k u hu)
            have HAT := Lib.hid ((svR_at (l := lst F k) (n := (N : Int)) hx hu).symm.trans hsv)
            have HL1 := Lib.hid (show lst F (k + 1) = x + 1 by simp [lst, hx])
            obtain ⟨cv, hcv⟩ : ∃ cv, (decide (lst F k ≤ x) && decide (x < (N : Int)) && decide (1 ≤ u) && decide (u ≤ 1000)) = cv := ⟨_, rfl⟩
            have HCV := Lib.hid hcv
            rw [hcv] at HAT
            clear hcv hsv
            have HCT := Lib.hid (show cv = true → A = A ∧ 0 < A ∧ 0 ≤ lst F (k + 1) ∧ svR (lst F (k + 1)) N (F.drop (k + 1)) (T.drop (k + 1)) = svB F T N by
              intro e
              rw [e] at HAT HCV
              have h1 := HCV.out
              simp only [Bool.and_eq_true, decide_eq_true_eq] at h1
              refine ⟨rfl, hA0, by rw [HL1.out]; omega, ?_⟩
              rw [HL1.out, ← HAT.out]
              rfl)
            have HCF := Lib.hid (show cv = false → svB F T N = false by
              intro e
              rw [e] at HAT
              rw [← HAT.out]
              rfl)
            clear hbw
            by_cases hkz : k = 0
            · have e0 : ((k : Int) == 0) = true := by simp; omega
              have HKZ := Lib.hid hkz
              clear hkz
              have hl : lst F k = 0 := by rw [HKZ.out]; rfl
              by_cases g1 : 0 ≤ x
              · have d1 : decide (x ≥ 0) = true := by simp; omega
                have d1q : decide (0 ≤ x) = true := by simp; omega
                by_cases g2 : x < (N : Int)
                · have d2 : decide (x < (N : Int)) = true := by simp; omega
                  have d2q : decide (x < (N : Int)) = true := by simp; omega
                  by_cases g3 : 1 ≤ u
                  · have d3 : decide (u ≥ 1) = true := by simp; omega
                    have d3q : decide (1 ≤ u) = true := by simp; omega
                    by_cases g4 : u ≤ 1000
                    · have d4 : decide (u ≤ 1000) = true := by simp; omega
                      have d4q : decide (u ≤ 1000) = true := by simp; omega
                      have HV := Lib.hid (show cv = true by rw [← HCV.out, decide_eq_true (show lst F k ≤ x by rw [hl]; omega), decide_eq_true g2, decide_eq_true g3, decide_eq_true g4]; rfl)
                      go_wp2_with fail
                      go_quiet (fail)
                      go_wp2
                      go_roundw
                      case rel => exact ⟨k + 1, true, rfl, by go_num, by omega, fun _ => ⟨rfl, (HCT.out HV.out).2⟩, fun h => absurd h (by decide), below_on HB5.out ⟨rfl, rfl, rfl, Nat.le_refl _, fun _ _ => rfl⟩⟩
                      case measure => simp [intOf]; omega
                    · have d4 : decide (u ≤ 1000) = false := by simp; omega
                      have d4q : decide (u ≤ 1000) = false := by simp; omega
                      have HV := Lib.hid (show cv = false by rw [← HCV.out, decide_eq_false g4]; simp)
                      go_wp2_with fail
                      go_quiet (fail)
                      go_wp2
                      go_roundw
                      case rel => exact ⟨k + 1, false, rfl, by go_num, by omega, fun h => absurd h (by decide), fun _ => HCF.out HV.out, below_on HB5.out ⟨rfl, rfl, rfl, Nat.le_refl _, fun _ _ => rfl⟩⟩
                      case measure => simp [intOf]; omega
                  · have d3 : decide (u ≥ 1) = false := by simp; omega
                    have d3q : decide (1 ≤ u) = false := by simp; omega
                    have HV := Lib.hid (show cv = false by rw [← HCV.out, decide_eq_false g3]; simp)
                    go_wp2_with fail
                    go_quiet (fail)
                    go_wp2
                    go_roundw
                    case rel => exact ⟨k + 1, false, rfl, by go_num, by omega, fun h => absurd h (by decide), fun _ => HCF.out HV.out, below_on HB5.out ⟨rfl, rfl, rfl, Nat.le_refl _, fun _ _ => rfl⟩⟩
                    case measure => simp [intOf]; omega
                · have d2 : decide (x < (N : Int)) = false := by simp; omega
                  have d2q : decide (x < (N : Int)) = false := by simp; omega
                  have HV := Lib.hid (show cv = false by rw [← HCV.out, decide_eq_false g2]; simp)
                  go_wp2_with fail
                  go_quiet (fail)
                  go_wp2
                  go_roundw
                  case rel => exact ⟨k + 1, false, rfl, by go_num, by omega, fun h => absurd h (by decide), fun _ => HCF.out HV.out, below_on HB5.out ⟨rfl, rfl, rfl, Nat.le_refl _, fun _ _ => rfl⟩⟩
                  case measure => simp [intOf]; omega
              · have d1 : decide (x ≥ 0) = false := by simp; omega
                have d1q : decide (0 ≤ x) = false := by simp; omega
                have HV := Lib.hid (show cv = false by rw [← HCV.out, decide_eq_false (show ¬ lst F k ≤ x by rw [hl]; omega)]; simp)
                go_wp2_with fail
                go_quiet (fail)
                go_wp2
                go_roundw
                case rel => exact ⟨k + 1, false, rfl, by go_num, by omega, fun h => absurd h (by decide), fun _ => HCF.out HV.out, below_on HB5.out ⟨rfl, rfl, rfl, Nat.le_refl _, fun _ _ => rfl⟩⟩
                case measure => simp [intOf]; omega
            · have e0 : ((k : Int) == 0) = false := by simp; omega
              obtain ⟨j, hj⟩ : ∃ j, k = j + 1 := ⟨k - 1, by omega⟩
              obtain ⟨y, hy⟩ : ∃ y, F[j]? = some y := ⟨_, List.getElem?_eq_getElem (by rw [HA.out]; omega)⟩
              have c2 : w5.cell? ⟨b1, o1 + j, none⟩ = some (.int .i64 y) := (h15.cell (p := ⟨b1, o1 + j, none⟩) hb1).trans (hc1 j y hy)
              have hl : lst F k = y + 1 := by rw [hj]; simp [lst, hy]
              have hkj : (k : Int) - 1 = (j : Int) := by omega
              have hkw : IntKind.i64.wrap ((k : Int) - 1) = (j : Int) := by rw [IntKind.wrap_i64]; omega
              have hkw2 : IntKind.i64.wrap (j : Int) = (j : Int) := by rw [IntKind.wrap_i64]; omega
              have hj0 : (0 : Int) ≤ (j : Int) := by omega
              have hjA : (j : Int) < (A : Int) := by omega
              have hl0' : 0 ≤ y + 1 := by rw [← hl]; exact hl0
              clear hy
              have HJ := Lib.hid hj
              clear hj
              by_cases g1 : 0 ≤ x
              · have d1 : decide (x ≥ 0) = true := by simp; omega
                have d1q : decide (0 ≤ x) = true := by simp; omega
                by_cases g2 : x < (N : Int)
                · have d2 : decide (x < (N : Int)) = true := by simp; omega
                  have d2q : decide (x < (N : Int)) = true := by simp; omega
                  by_cases g3 : 1 ≤ u
                  · have d3 : decide (u ≥ 1) = true := by simp; omega
                    have d3q : decide (1 ≤ u) = true := by simp; omega
                    by_cases g4 : u ≤ 1000
                    · have d4 : decide (u ≤ 1000) = true := by simp; omega
                      have d4q : decide (u ≤ 1000) = true := by simp; omega
                      by_cases g5 : y < x
                      · have d5 : decide (x > y) = true := by simp; omega
                        have d5q : decide (y < x) = true := by simp; omega
                        have HV := Lib.hid (show cv = true by rw [← HCV.out, decide_eq_true (show lst F k ≤ x by rw [hl]; omega), decide_eq_true g2, decide_eq_true g3, decide_eq_true g4]; rfl)
                        go_wp2_with fail
                        go_quiet (fail)
                        go_wp2
                        go_roundw
                        case rel => exact ⟨k + 1, true, rfl, by go_num, by omega, fun _ => ⟨rfl, (HCT.out HV.out).2⟩, fun h => absurd h (by decide), below_on HB5.out ⟨rfl, rfl, rfl, Nat.le_refl _, fun _ _ => rfl⟩⟩
                        case measure => simp [intOf]; omega
                      · have d5 : decide (x > y) = false := by simp; omega
                        have d5q : decide (y < x) = false := by simp; omega
                        have HV := Lib.hid (show cv = false by rw [← HCV.out, decide_eq_false (show ¬ lst F k ≤ x by rw [hl]; omega)]; simp)
                        go_wp2_with fail
                        go_quiet (fail)
                        go_wp2
                        go_roundw
                        case rel => exact ⟨k + 1, false, rfl, by go_num, by omega, fun h => absurd h (by decide), fun _ => HCF.out HV.out, below_on HB5.out ⟨rfl, rfl, rfl, Nat.le_refl _, fun _ _ => rfl⟩⟩
                        case measure => simp [intOf]; omega
                    · have d4 : decide (u ≤ 1000) = false := by simp; omega
                      have d4q : decide (u ≤ 1000) = false := by simp; omega
                      have HV := Lib.hid (show cv = false by rw [← HCV.out, decide_eq_false g4]; simp)
                      go_wp2_with fail
                      go_quiet (fail)
                      go_wp2
                      go_roundw
                      case rel => exact ⟨k + 1, false, rfl, by go_num, by omega, fun h => absurd h (by decide), fun _ => HCF.out HV.out, below_on HB5.out ⟨rfl, rfl, rfl, Nat.le_refl _, fun _ _ => rfl⟩⟩
                      case measure => simp [intOf]; omega
                  · have d3 : decide (u ≥ 1) = false := by simp; omega
                    have d3q : decide (1 ≤ u) = false := by simp; omega
                    have HV := Lib.hid (show cv = false by rw [← HCV.out, decide_eq_false g3]; simp)
                    go_wp2_with fail
                    go_quiet (fail)
                    go_wp2
                    go_roundw
                    case rel => exact ⟨k + 1, false, rfl, by go_num, by omega, fun h => absurd h (by decide), fun _ => HCF.out HV.out, below_on HB5.out ⟨rfl, rfl, rfl, Nat.le_refl _, fun _ _ => rfl⟩⟩
                    case measure => simp [intOf]; omega
                · have d2 : decide (x < (N : Int)) = false := by simp; omega
                  have d2q : decide (x < (N : Int)) = false := by simp; omega
                  have HV := Lib.hid (show cv = false by rw [← HCV.out, decide_eq_false g2]; simp)
                  go_wp2_with fail
                  go_quiet (fail)
                  go_wp2
                  go_roundw
                  case rel => exact ⟨k + 1, false, rfl, by go_num, by omega, fun h => absurd h (by decide), fun _ => HCF.out HV.out, below_on HB5.out ⟨rfl, rfl, rfl, Nat.le_refl _, fun _ _ => rfl⟩⟩
                  case measure => simp [intOf]; omega
              · have d1 : decide (x ≥ 0) = false := by simp; omega
                have d1q : decide (0 ≤ x) = false := by simp; omega
                have HV := Lib.hid (show cv = false by rw [← HCV.out, decide_eq_false (show ¬ lst F k ≤ x by rw [hl]; omega)]; simp)
                go_wp2_with fail
                go_quiet (fail)
                go_wp2
                go_roundw
                case rel => exact ⟨k + 1, false, rfl, by go_num, by omega, fun h => absurd h (by decide), fun _ => HCF.out HV.out, below_on HB5.out ⟨rfl, rfl, rfl, Nat.le_refl _, fun _ _ => rfl⟩⟩
                case measure => simp [intOf]; omega
          · have hkd : decide ((k : Int) < (A : Int)) = false := by simp; omega
            have hkd2 : decide (k < A) = false := by simp; omega
            have hk' : ¬ (k : Int) < (A : Int) := by omega
            have hbt : svB F T N = true := by rw [← hsv]; exact svR_end (by rw [HA.out]; omega)
            obtain rfl : b = true := by rw [← HBB.out]; exact hbt
            have HN1 := Lib.hid (svB_more hbt)
            have H15 := Lib.hid (below_on H14.out hbw)
            clear hbt hsv hl0 hbw
            go_wp2_with fail
            refine (HI.out ((N : Int) + 1) (by omega) w5 H15.out).mono ?_
            rw [HN1.out]
            rintro e w6 ⟨rfl, hb6⟩
            go_wp2
            go_ret
            exact ⟨rfl, below_on HB4.out (below_on HB5.out hb6)⟩
  · have hn' : (1048576 : Int) < (n : Int) := by omega
    go_enter Try.func4, Try.ntmps4
    go_wp2
    go_ret
    exact ⟨rfl, Below.refl _ _⟩

end Go.Proofs.Ytaiajdeognnndaa
