/- The model's functions of chapter 5, the others. -/
import Derived.Test.YtjhfmlbnpdnddaaNbS
namespace Go.Proofs.Ytjhfmlbnpdnddaa
open Go.RowKit

theorem specGap_any (a b : Int) (w : World) :
    Calls Try.prog 56 #[.int .i64 a, .int .i64 b] w fun e w' => e = .returned (.int .i64 (gapT a b)) ∧ w = w' := by
  rcases ha : inB a 1 100 with _ | _
  · have e : gapT a b = -2 := by unfold gapT; rw [if_neg (by simp [pcB, ha])]
    rw [e]
    go_enter Try.func56, Try.ntmps56
    go_wp2_with (go_at_call 65; refine (l1In_any _ _ _ _).mono ?_; rintro e w' ⟨rfl, rfl⟩)
    go_returns
    exact ⟨rfl, rfl⟩
  rcases hb : inB b 1 100 with _ | _
  · have e : gapT a b = -2 := by unfold gapT; rw [if_neg (by simp [pcB, hb])]
    rw [e]
    go_enter Try.func56, Try.ntmps56
    go_wp2_with (go_at_call 65; refine (l1In_any _ _ _ _).mono ?_; rintro e w' ⟨rfl, rfl⟩)
    go_returns
    exact ⟨rfl, rfl⟩
  obtain ⟨a0, a1⟩ := inB_yes ha
  obtain ⟨b0, b1⟩ := inB_yes hb
  have HS := Lib.hid fun W => l1Gcd_any a b W (by omega) (by omega) (by omega) (by omega)
  by_cases hg : Int.gcd a b = 1
  · have e : gapT a b = a * b - a - b := by unfold gapT; rw [if_pos (by simp [pcB, ha, hb, hg])]
    rw [e]
    rw [hg] at HS
    obtain ⟨p, hp⟩ : ∃ p, a * b = p := ⟨_, rfl⟩
    have hpb := mul_bd (a := a) (x := b) (A := 100) (X := 100) (by omega) (by omega) (by omega) (by omega) (by omega)
    rw [hp] at hpb ⊢
    obtain ⟨p0, p1⟩ := hpb
    have hwp : IntKind.i64.wrap p = p := by rw [IntKind.wrap_i64]; omega
    clear e hg
    go_enter Try.func56, Try.ntmps56
    go_wp2_with (first | (go_at_call 65; refine (l1In_any _ _ _ _).mono ?_; rintro e w' ⟨rfl, rfl⟩) | (go_at_call 71; refine (HS.out _).mono ?_; rintro e w' ⟨rfl, rfl⟩))
    go_returns
    exact ⟨rfl, rfl⟩
  · have e : gapT a b = -2 := by unfold gapT; rw [if_neg (by simp [hg])]
    rw [e]
    obtain ⟨g, hgg⟩ : ∃ g : Int, ((Int.gcd a b : Nat) : Int) = g := ⟨_, rfl⟩
    have hg1 : ¬ g = 1 := by omega
    rw [hgg] at HS
    clear e hg hgg
    go_enter Try.func56, Try.ntmps56
    go_wp2_with (first | (go_at_call 65; refine (l1In_any _ _ _ _).mono ?_; rintro e w' ⟨rfl, rfl⟩) | (go_at_call 71; refine (HS.out _).mono ?_; rintro e w' ⟨rfl, rfl⟩))
    go_returns
    exact ⟨rfl, rfl⟩

theorem specCombine_any (r m s n : Int) (w : World) :
    Calls Try.prog 47 #[.int .i64 r, .int .i64 m, .int .i64 s, .int .i64 n] w fun e w' => e = .returned (T3 (comT r m s n)) ∧ w = w' := by
  rcases hr : numB r with _ | _
  · have e : comT r m s n = (0, 0, false) := by unfold comT; rw [if_neg (by simp [hr])]
    rw [e]
    go_enter Try.func47, Try.ntmps47
    go_wp2_with (go_at_call 79; refine (l5Number_any _ _).mono ?_; rintro e w' ⟨rfl, rfl⟩)
    go_returns
    exact ⟨rfl, rfl⟩
  rcases hs : numB s with _ | _
  · have e : comT r m s n = (0, 0, false) := by unfold comT; rw [if_neg (by simp [hs])]
    rw [e]
    go_enter Try.func47, Try.ntmps47
    go_wp2_with (go_at_call 79; refine (l5Number_any _ _).mono ?_; rintro e w' ⟨rfl, rfl⟩)
    go_returns
    exact ⟨rfl, rfl⟩
  rcases hm : modB m with _ | _
  · have e : comT r m s n = (0, 0, false) := by unfold comT; rw [if_neg (by simp [hm])]
    rw [e]
    go_enter Try.func47, Try.ntmps47
    go_wp2_with (first | (go_at_call 79; refine (l5Number_any _ _).mono ?_; rintro e w' ⟨rfl, rfl⟩) | (go_at_call 88; refine (l5Modulus_any _ _).mono ?_; rintro e w' ⟨rfl, rfl⟩))
    go_returns
    exact ⟨rfl, rfl⟩
  rcases hn : modB n with _ | _
  · have e : comT r m s n = (0, 0, false) := by unfold comT; rw [if_neg (by simp [hn])]
    rw [e]
    go_enter Try.func47, Try.ntmps47
    go_wp2_with (first | (go_at_call 79; refine (l5Number_any _ _).mono ?_; rintro e w' ⟨rfl, rfl⟩) | (go_at_call 88; refine (l5Modulus_any _ _).mono ?_; rintro e w' ⟨rfl, rfl⟩))
    go_returns
    exact ⟨rfl, rfl⟩
  have e : comT r m s n = comV r m s n := by unfold comT; rw [if_pos (by simp [hr, hm, hs, hn])]
  rw [e]
  obtain ⟨r0, r1⟩ := numB_yes hr
  obtain ⟨m0, m1⟩ := modB_yes hm
  obtain ⟨s0, s1⟩ := numB_yes hs
  obtain ⟨n0, n1⟩ := modB_yes hn
  have HR := Lib.hid fun W => l2Mod_any r m W (by omega) (by omega)
  have hr0 := Int.emod_nonneg r (show m ≠ 0 by omega)
  have hr1 := Int.emod_lt_of_pos r (show 0 < m by omega)
  have HQ := Lib.hid fun W => l2Mod_any (s - r % m) n W (by omega) (by omega)
  have hq0 := Int.emod_nonneg (s - r % m) (show n ≠ 0 by omega)
  have hq1 := Int.emod_lt_of_pos (s - r % m) (show 0 < n by omega)
  have HS := Lib.hid fun W => specSolve_any m ((s - r % m) % n) n W
  have hnq : numB ((s - r % m) % n) = true := by simp only [numB, wlB, decide_eq_true_eq]; omega
  have hnm : numB m = true := by simp only [numB, wlB, decide_eq_true_eq]; omega
  have hst : solT m ((s - r % m) % n) n = solV m ((s - r % m) % n) n := by unfold solT; rw [if_pos (by simp [hnm, hnq, hn])]
  rw [hst] at HS
  by_cases hd : ((Int.gcd m n : Nat) : Int) ∣ (s - r % m) % n
  · obtain ⟨x, hx⟩ := isSol_exists (a := m) (show 0 < n by omega) hd
    rw [solV_yes (by omega) hx] at HS
    rw [comV_yes (com_spec (by omega) (by omega) hx)]
    have hx0 := hx.2.1
    have hx1 := hx.2.2.1
    have hev : n / ((Int.gcd m n : Nat) : Int) ≤ n := Int.ediv_le_self _ (by omega)
    clear hx hst hnq hnm hd e
    generalize n / ((Int.gcd m n : Nat) : Int) = t at *
    generalize (s - r % m) % n = q at *
    generalize r % m = i at *
    obtain ⟨p, hp⟩ : ∃ p, m * x = p := ⟨_, rfl⟩
    have hpb := mul_bd (a := m) (x := x) (A := 10000) (X := 10000) (by omega) (by omega) hx0 (by omega) (by omega)
    obtain ⟨u, hu⟩ : ∃ u, m * t = u := ⟨_, rfl⟩
    have hub := mul_bd (a := m) (x := t) (A := 10000) (X := 10000) (by omega) (by omega) (by omega) (by omega) (by omega)
    rw [hp] at hpb ⊢
    rw [hu] at hub ⊢
    obtain ⟨p0, p1⟩ := hpb
    obtain ⟨u0, u1⟩ := hub
    have hw1 : IntKind.i64.wrap p = p := by rw [IntKind.wrap_i64]; omega
    have hw2 : IntKind.i64.wrap u = u := by rw [IntKind.wrap_i64]; omega
    unfold T3 at HS
    dsimp only at HS
    go_enter Try.func47, Try.ntmps47
    go_wp2_with (first | (go_at_call 79; refine (l5Number_any _ _).mono ?_; rintro e w' ⟨rfl, rfl⟩) | (go_at_call 88; refine (l5Modulus_any _ _).mono ?_; rintro e w' ⟨rfl, rfl⟩))
    refine (HR.out _).mono ?_
    rintro e w' ⟨rfl, rfl⟩
    go_wp2_with fail
    refine (HQ.out _).mono ?_
    rintro e w' ⟨rfl, rfl⟩
    go_wp2_with (go_at_call 44; refine (HS.out _).mono ?_; rintro e w' ⟨rfl, rfl⟩)
    go_returns
    exact ⟨rfl, rfl⟩
  · rw [solV_no hd] at HS
    rw [comV_no (fun h => hd (com_none.2 h))]
    clear hst hnq hnm hd e
    generalize (s - r % m) % n = q at *
    generalize r % m = i at *
    unfold T3 at HS
    dsimp only at HS
    go_enter Try.func47, Try.ntmps47
    go_wp2_with (first | (go_at_call 79; refine (l5Number_any _ _).mono ?_; rintro e w' ⟨rfl, rfl⟩) | (go_at_call 88; refine (l5Modulus_any _ _).mono ?_; rintro e w' ⟨rfl, rfl⟩))
    refine (HR.out _).mono ?_
    rintro e w' ⟨rfl, rfl⟩
    go_wp2_with fail
    refine (HQ.out _).mono ?_
    rintro e w' ⟨rfl, rfl⟩
    go_wp2_with (go_at_call 44; refine (HS.out _).mono ?_; rintro e w' ⟨rfl, rfl⟩)
    go_returns
    exact ⟨rfl, rfl⟩

set_option maxHeartbeats 1000000 in
theorem specBezoutOf_any (a b : Int) (w : World) :
    Calls Try.prog 27 #[.int .i64 a, .int .i64 b] w fun e w' => e = .returned (T4 (bezT a b)) ∧ Below w.heap.size w w' := by
  rcases ha : numB a with _ | _
  · have e : bezT a b = (0, 0, 0, false) := by unfold bezT; rw [if_neg (by simp [ha])]
    rw [e]
    go_enter Try.func27, Try.ntmps27
    go_wp2_with (go_at_call 79; refine (l5Number_any _ _).mono ?_; rintro e w' ⟨rfl, rfl⟩)
    go_returns
    exact ⟨rfl, Below.refl _ _⟩
  rcases hb : numB b with _ | _
  · have e : bezT a b = (0, 0, 0, false) := by unfold bezT; rw [if_neg (by simp [hb])]
    rw [e]
    go_enter Try.func27, Try.ntmps27
    go_wp2_with (go_at_call 79; refine (l5Number_any _ _).mono ?_; rintro e w' ⟨rfl, rfl⟩)
    go_returns
    exact ⟨rfl, Below.refl _ _⟩
  obtain ⟨a0, a1⟩ := numB_yes ha
  obtain ⟨b0, b1⟩ := numB_yes hb
  by_cases hz : a = 0 ∧ b = 0
  · have e : bezT a b = (0, 0, 0, false) := by unfold bezT; rw [if_neg (by simp [hz])]
    rw [e]
    obtain ⟨rfl, rfl⟩ := hz
    go_enter Try.func27, Try.ntmps27
    go_wp2_with (go_at_call 79; refine (l5Number_any _ _).mono ?_; rintro e w' ⟨rfl, rfl⟩)
    go_returns
    exact ⟨rfl, Below.refl _ _⟩
  have e : bezT a b = ((bezV a b).1, (bezV a b).2.1, (bezV a b).2.2, true) := by unfold bezT; rw [if_pos (by simp only [ha, hb, Bool.true_and, Bool.not_eq_true', Bool.and_eq_false_iff, decide_eq_false_iff_not]; omega)]
  rw [e]
  have HG := Lib.hid fun W => l1Gcd_any a b W (by omega) (by omega) (by omega) (by omega)
  have hab : (a == 0) = true → (b == 0) = false := fun h => by simp at h ⊢; omega
  by_cases hb0 : b = 0
  · subst hb0
    have ha0 : ¬ a = 0 := fun h => hz ⟨h, rfl⟩
    rw [bezV_is hz (bez_none ha0)]
    have hg : ((Int.gcd a 0 : Nat) : Int) = a.natAbs := by simp
    rw [hg] at HG
    obtain ⟨g, hgg⟩ : ∃ g : Int, (a.natAbs : Int) = g := ⟨_, rfl⟩
    rw [hgg] at HG ⊢
    obtain ⟨t, ht⟩ : ∃ t, a.tdiv g = t := ⟨_, rfl⟩
    have htb := tdiv_le a g
    rw [ht] at htb ⊢
    have hwt : IntKind.i64.wrap t = t := by rw [IntKind.wrap_i64]; omega
    have hgz : ¬ g = 0 := by omega
    clear e hz hab hg hgg htb
    go_enter Try.func27, Try.ntmps27
    go_wp2_with (first | (go_at_call 79; refine (l5Number_any _ _).mono ?_; rintro e w' ⟨rfl, rfl⟩) | (go_at_call 71; refine (HG.out _).mono ?_; rintro e w' ⟨rfl, rfl⟩))
    go_quiet (fail)
    go_wp2
    go_returns
    exact ⟨rfl, below_dq _ _⟩
  · obtain ⟨qa, hqa⟩ : ∃ q : Bool, (a == 0) = q := ⟨_, rfl⟩
    have hqb : (b == 0) = false := by simpa using hb0
    obtain ⟨g, hg⟩ : ∃ g : Int, g = (Int.gcd a b : Nat) := ⟨_, rfl⟩
    rw [← hg] at HG
    have hg0 : 0 < g := by have := gcd_pos_r (a := a) hb0; omega
    obtain ⟨B, hB⟩ : ∃ B : Int, (b.natAbs : Int) = B := ⟨_, rfl⟩
    have hmx : max b (-b) = B := by omega
    obtain ⟨k, hk⟩ : ∃ k, (b.natAbs : Int) / g = k := ⟨_, rfl⟩
    obtain ⟨k0, hag, hcop, hone, hinv⟩ := bez_spec hb0 hg hk
    have hkt : B.tdiv g = k := by rw [← hk, ← hB]; exact Int.tdiv_eq_ediv_of_nonneg (by omega)
    have hkb : k ≤ B := by rw [← hk, ← hB]; exact Int.ediv_le_self g (by omega)
    have hagb := tdiv_le a g
    have hgl : g ≤ 100000 := by
      have h2 : Int.gcd a b ∣ b.natAbs := Nat.gcd_dvd_right _ _
      have := Nat.le_of_dvd (by omega) h2
      omega
    rw [hag] at hagb
    generalize a / g = A at *
    have hwA : IntKind.i64.wrap A = A := by rw [IntKind.wrap_i64]; omega
    have hwk : IntKind.i64.wrap k = k := by rw [IntKind.wrap_i64]; omega
    have hgz : ¬ g = 0 := by omega
    have HM := Lib.hid fun W => l2Mod_any A k W k0 (by omega)
    have hi0 := Int.emod_nonneg A (show k ≠ 0 by omega)
    have hi1 := Int.emod_lt_of_pos A k0
    have hsg : (b < 0 ∧ (-b).tdiv g = k ∧ -b / g = k) ∨ (0 < b ∧ b.tdiv g = k ∧ b / g = k) := by
      rcases Int.lt_or_le b 0 with h | h
      · have : B = -b := by omega
        exact .inl ⟨h, by rw [← this]; exact hkt, by rw [← this, hB.symm]; exact hk⟩
      · have : B = b := by omega
        exact .inr ⟨by omega, by rw [← this]; exact hkt, by rw [← this, hB.symm]; exact hk⟩
    rw [← hB] at hkb
    clear hkt hmx hB
    rcases hsg with ⟨hbs, r1, r2⟩ | ⟨hbs, r1, r2⟩
    all_goals
      by_cases hk1 : k = 1
      · obtain ⟨dv, hbz⟩ := hone hk1
        rw [bezV_is hz hbz]
        have hy := Int.tdiv_eq_ediv_of_dvd dv
        have hyb := tdiv_le (g - a * 0) b
        rw [Int.mul_zero, Int.sub_zero] at hy hyb ⊢
        rw [hy] at hyb
        obtain ⟨y, hyy⟩ : ∃ y, g / b = y := ⟨_, rfl⟩
        rw [hyy] at hy hyb ⊢
        have hwy : IntKind.i64.wrap y = y := by rw [IntKind.wrap_i64]; omega
        subst hk1
        clear e hz hab hg hk hcop hone hinv dv hbz hyy hagb
        go_enter Try.func27, Try.ntmps27
        go_wp2_with (first | (go_at_call 79; refine (l5Number_any _ _).mono ?_; rintro e w' ⟨rfl, rfl⟩) | (go_at_call 71; refine (HG.out _).mono ?_; rintro e w' ⟨rfl, rfl⟩))
        all_goals (go_quiet (fail); go_wp2; go_returns; exact ⟨rfl, below_dq _ _⟩)
      · obtain ⟨x, hx⟩ := isInv_exists k0 hcop
        obtain ⟨dv, hbz⟩ := hinv x hx
        rw [bezV_is hz hbz]
        have HI := Lib.hid fun W => l5Inverse_yes (A % k) k x W (by omega) (by omega) hx
        have hx0 := hx.1
        have hx1 := hx.2.1
        have hpb := mul_bd2 (a := a) (k := x) (A := 100000) (K := 100000) (by omega) (by omega) (by omega) (by omega) (by omega)
        obtain ⟨p, hp⟩ : ∃ p, a * x = p := ⟨_, rfl⟩
        rw [hp] at dv hpb ⊢
        obtain ⟨p0, p1⟩ := hpb
        have hy := Int.tdiv_eq_ediv_of_dvd dv
        have hyb := tdiv_le (g - p) b
        rw [hy] at hyb
        obtain ⟨y, hyy⟩ : ∃ y, (g - p) / b = y := ⟨_, rfl⟩
        rw [hyy] at hy hyb ⊢
        have hwy : IntKind.i64.wrap y = y := by rw [IntKind.wrap_i64]; omega
        have hwp : IntKind.i64.wrap p = p := by rw [IntKind.wrap_i64]; omega
        generalize A % k = i at *
        have hk2 : 1 < k := by omega
        clear e hz hab hg hk hcop hone hinv dv hbz hyy hagb hx
        go_enter Try.func27, Try.ntmps27
        go_wp2_with (first | (go_at_call 79; refine (l5Number_any _ _).mono ?_; rintro e w' ⟨rfl, rfl⟩) | (go_at_call 71; refine (HG.out _).mono ?_; rintro e w' ⟨rfl, rfl⟩) | (go_at_call 81; refine (HM.out _).mono ?_; rintro e w' ⟨rfl, rfl⟩) | (go_at_call 80; refine (HI.out _).mono ?_; rintro e w' ⟨rfl, rfl⟩))
        all_goals (go_quiet (fail); go_wp2; go_returns; exact ⟨rfl, below_dq _ _⟩)
end Go.Proofs.Ytjhfmlbnpdnddaa
