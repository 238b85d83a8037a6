/- The program's first solutions and counts. -/
import Derived.Test.YtpheihejgnlanaaDoorNbG
namespace Go.Proofs.YtpheihejgnlanaaDoor
open Go.RowKit

theorem wl_yes {n l : Int} (h : wlB n l = true) : -l ≤ n ∧ n ≤ l := by simpa [wlB] using h

/-- Which first numbers solve. -/
def cP (a b c : Int) : Nat → Bool := fun x => decide (b ∣ c - a * (x : Int))
theorem cntV_eq {a b c : Int} (h : 0 ≤ c) : cntV a b c = cntP (cP a b c) ((c / a).toNat + 1) := by unfold cntV; rw [if_pos h]; rfl
theorem cntP_yes {P : Nat → Bool} {n : Nat} (h : P n = true) : cntP P (n + 1) = cntP P n + 1 := by simp [cntP, h]
theorem cntP_no {P : Nat → Bool} {n : Nat} (h : P n = false) : cntP P (n + 1) = cntP P n := by simp [cntP, h]

def CnR (a b c : Int) (N : Nat) (w : World) (x y : Value) (wr : World) : Prop := ∃ k : Nat, x = .int .i64 (cntP (cP a b c) k) ∧ y = .int .i64 k ∧ k ≤ N ∧ w = wr

set_option maxHeartbeats 1000000 in
theorem CountSolutions_any (a b c : Int) (w : World) :
    Calls Tryd.prog 39 #[.int .i64 a, .int .i64 b, .int .i64 c] w fun e w' => e = .returned (.int .i64 (cntT a b c)) ∧ Below w.heap.size w w' := by
  rcases ha : pcB a with _ | _
  · have e : cntT a b c = -1 := by unfold cntT; rw [if_neg (by simp [ha])]
    rw [e]
    go_enter Tryd.func39, Tryd.ntmps39
    go_wp2_with (go_at_call 76; refine (isPositiveCoef_any _ _).mono ?_; rintro e w' ⟨rfl, rfl⟩)
    go_returns
    exact ⟨rfl, Below.refl _ _⟩
  rcases hb : pcB b with _ | _
  · have e : cntT a b c = -1 := by unfold cntT; rw [if_neg (by simp [hb])]
    rw [e]
    go_enter Tryd.func39, Tryd.ntmps39
    go_wp2_with (go_at_call 76; refine (isPositiveCoef_any _ _).mono ?_; rintro e w' ⟨rfl, rfl⟩)
    go_returns
    exact ⟨rfl, Below.refl _ _⟩
  rcases hc : wlB c 10000 with _ | _
  · have e : cntT a b c = -1 := by unfold cntT; rw [if_neg (by simp [hc])]
    rw [e]
    go_enter Tryd.func39, Tryd.ntmps39
    go_wp2_with (first | (go_at_call 76; refine (isPositiveCoef_any _ _).mono ?_; rintro e w' ⟨rfl, rfl⟩) | (go_at_call 78; refine (withinLimit_any _ _ _ (by omega) (by omega)).mono ?_; rintro e w' ⟨rfl, rfl⟩))
    go_returns
    exact ⟨rfl, Below.refl _ _⟩
  have e : cntT a b c = (cntV a b c : Nat) := by unfold cntT; rw [if_pos (by simp [ha, hb, hc])]
  rw [e]
  obtain ⟨a0, a1⟩ := pcB_yes ha
  obtain ⟨b0, b1⟩ := pcB_yes hb
  obtain ⟨c0, c1⟩ := wl_yes hc
  have HD := Lib.hid fun W => divided_any c a W (by omega) (by omega) (by omega) (by omega)
  have hqz := Int.mul_ediv_self_le (x := c) (k := a) (by omega)
  obtain ⟨q, hq⟩ : ∃ q, c / a = q := ⟨_, rfl⟩
  by_cases hcn : 0 ≤ c
  · have hq0 : 0 ≤ q := by rw [← hq]; exact Int.ediv_nonneg hcn (by omega)
    have hq1 : q ≤ 10000 := by rw [← hq]; exact Int.le_trans (Int.ediv_le_self _ hcn) c1
    have HV := Lib.hid (cntV_eq (a := a) (b := b) hcn)
    rw [hq] at HV HD hqz
    obtain ⟨N, hN⟩ : ∃ N : Nat, q = N := ⟨q.toNat, by omega⟩
    subst hN
    simp only [Int.toNat_natCast] at HV
    clear e hq hq0
    go_enter Tryd.func39, Tryd.ntmps39
    go_wp2_with (first | (go_at_call 76; refine (isPositiveCoef_any _ _).mono ?_; rintro e w' ⟨rfl, rfl⟩) | (go_at_call 78; refine (withinLimit_any _ _ _ (by omega) (by omega)).mono ?_; rintro e w' ⟨rfl, rfl⟩) | (go_at_call 79; refine (HD.out _).mono ?_; rintro e w' ⟨rfl, rfl⟩))
    go_loopw [9, 32] (fun x y wr => CnR a b c (N + 1) w x y wr) (fun _ y _ => N + 1 - (intOf y).toNat)
    case atStart => exact ⟨0, rfl, rfl, by omega, rfl⟩
    case round =>
      obtain ⟨k, rfl, rfl, hk, rfl⟩ := hrel
      have hcp := cntP_le (cP a b c) k
      by_cases hkN : k = N + 1
      · subst hkN
        have HF := Lib.hid (show ((cntP (cP a b c) (N + 1) : Nat) : Int) = (cntV a b c : Nat) from by rw [HV.out])
        generalize cntP (cP a b c) (N + 1) = n at *
        go_wp2
        go_returns
        exact ⟨ret_int HF.out, Below.refl _ _⟩
      · have hkq : k ≤ N := by omega
        obtain ⟨p, hp⟩ : ∃ p, a * (k : Int) = p := ⟨_, rfl⟩
        have hpb := mul_bd (a := a) (x := k) (A := 100) (X := 10000) (by omega) (by omega) (by omega) (by omega) (by omega)
        rw [hp] at hpb
        obtain ⟨p0, p1⟩ := hpb
        have hwp : IntKind.i64.wrap p = p := by rw [IntKind.wrap_i64]; omega
        have htb := tmod_small (n := c - p) (d := b) (by omega)
        obtain ⟨t, ht⟩ : ∃ t, (c - p).tmod b = t := ⟨_, rfl⟩
        rw [ht] at htb
        obtain ⟨t0, t1⟩ := htb
        have hbz : ¬ b = 0 := by omega
        by_cases htz : t = 0
        · have hP : cP a b c k = true := by
            simp only [cP, decide_eq_true_eq]
            rw [hp]
            exact Int.dvd_of_tmod_eq_zero (by rw [ht, htz])
          have HN := Lib.hid (cntP_yes hP)
          subst htz
          clear hP HV
          generalize cntP (cP a b c) k = n at *
          go_wp2
          go_roundw
          case rel => exact ⟨k + 1, by rw [HN.out]; go_num, by go_num, by omega, rfl⟩
          case measure => simp [intOf]; omega
        · have hP : cP a b c k = false := by
            simp only [cP, decide_eq_false_iff_not]
            rw [hp]
            exact fun h => htz (by rw [← ht]; exact Int.tmod_eq_zero_of_dvd h)
          have HN := Lib.hid (cntP_no hP)
          clear hP HV
          generalize cntP (cP a b c) k = n at *
          go_wp2
          go_roundw
          case rel => exact ⟨k + 1, by rw [HN.out], by go_num, by omega, rfl⟩
          case measure => simp [intOf]; omega
  · have hqn : q < 0 := by rw [← hq]; exact Int.ediv_neg_of_neg_of_pos (by omega) (by omega)
    have hqm : -10001 ≤ q := by
      have : -10000 ≤ c / a := (Int.le_ediv_iff_mul_le (by omega)).2 (by omega)
      omega
    rw [cntV_neg (by omega)]
    rw [hq] at HD
    clear e hq hqz
    go_enter Tryd.func39, Tryd.ntmps39
    go_wp2_with (first | (go_at_call 76; refine (isPositiveCoef_any _ _).mono ?_; rintro e w' ⟨rfl, rfl⟩) | (go_at_call 78; refine (withinLimit_any _ _ _ (by omega) (by omega)).mono ?_; rintro e w' ⟨rfl, rfl⟩) | (go_at_call 79; refine (HD.out _).mono ?_; rintro e w' ⟨rfl, rfl⟩))
    refine wp_loop_rounds 1 ?_
    rw [rounds_succ]
    go_wp2
    go_returns
    exact ⟨rfl, Below.refl _ _⟩

end Go.Proofs.YtpheihejgnlanaaDoor
