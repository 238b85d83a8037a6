/- The model's functions of chapter 5. -/
import Derived.Test.YtjhfmlbnpdnddaaNbK
import Derived.Test.YtjhfmlbnpdnddaaNumF
namespace Go.Proofs.Ytjhfmlbnpdnddaa
open Go.RowKit

def InR (a m : Int) (r n x y : Value) : Prop := ∃ R N X Y u v : Int, r = .int .i64 R ∧ n = .int .i64 N ∧ x = .int .i64 X ∧ y = .int .i64 Y ∧ Eu m a R u X N v Y ∧ 0 ≤ R ∧ 0 ≤ N

set_option maxHeartbeats 1000000 in
theorem l5Inverse_any (a m : Int) (w : World) (ha : 0 ≤ a ∧ a ≤ 1000000) (hm : 0 < m ∧ m ≤ 1000000) :
    Calls Try.prog 80 #[.int .i64 a, .int .i64 m] w fun e w' => (∃ z : Int, e = .returned (.tuple #[.int .i64 z, .bool (decide (Int.gcd a m = 1))]) ∧ (Int.gcd a m = 1 → IsInv a m z)) ∧ w = w' := by
  have HM := Lib.hid hm
  have HA := Lib.hid ha
  have HST := Lib.hid (show InR a m (.int .i64 m) (.int .i64 a) (.int .i64 0) (.int .i64 1) from ⟨m, a, 0, 1, 1, 0, rfl, rfl, rfl, rfl, eu_start (by omega) (by omega), by omega, by omega⟩)
  clear ha hm
  go_enter Try.func80, Try.ntmps80
  go_wp2
  go_loop [6, 7, 8, 9] (fun r n x y => InR a m r n x y) (fun _ n _ _ => (intOf n).natAbs)
  case atStart => exact HST.out
  case round =>
    obtain ⟨R, N, X, Y, u, v, rfl, rfl, rfl, rfl, hEu, hR, hN⟩ := hrel
    clear HST
    by_cases hz : N = 0
    · subst hz
      have HE := Lib.hid (inv_end HM.out.1 hEu hR)
      have HD := Lib.hid fun W => l2Mod_any X m W HM.out.1 (by have := HM.out.2; omega)
      clear hEu hN
      by_cases h1 : R = 1
      · have HB := Lib.hid (show decide (Int.gcd a m = 1) = true from by have := HE.out.1; simp; omega)
        subst h1
        go_wp2_with (go_at_call 81; refine (HD.out _).mono ?_; rintro e w' ⟨rfl, rfl⟩)
        go_returns
        refine ⟨⟨X % m, ?_, HE.out.2⟩, rfl⟩
        rw [HB.out]
        rfl
      · have HB := Lib.hid (show decide (Int.gcd a m = 1) = false from by have := HE.out.1; simp; omega)
        go_wp2_with (go_at_call 81; refine (HD.out _).mono ?_; rintro e w' ⟨rfl, rfl⟩)
        go_returns
        exact ⟨⟨_, by rw [HB.out]; simp [h1], HE.out.2⟩, rfl⟩
    · obtain ⟨s0, s1, s2, s3, s4, s5⟩ := eu_step (by have := HM.out; omega) (by have := HA.out; omega) hEu hz
      have hn0 := eu_nonneg (d := N) hR
      obtain ⟨bx0, bx1⟩ := hEu.2.2.2.2.2.2.2.2.1
      obtain ⟨bR0, bR1⟩ := hEu.2.2.2.2.2.1
      obtain ⟨q, hq⟩ : ∃ q, R.tdiv N = q := ⟨_, rfl⟩
      rw [hq] at s0 s1 s3 s4 s5 hn0
      obtain ⟨p, hp⟩ : ∃ p, q * N = p := ⟨_, rfl⟩
      obtain ⟨p', hp'⟩ : ∃ p, q * Y = p := ⟨_, rfl⟩
      rw [hp] at s1 s4 s5 hn0
      rw [hp'] at s3 s5
      have HS := Lib.hid s5
      have HN0 := Lib.hid hn0
      have HM4 := Lib.hid s4
      obtain ⟨s00, s01⟩ := s0
      obtain ⟨s10, s11⟩ := s1
      obtain ⟨s30, s31⟩ := s3
      have hwq : IntKind.i64.wrap q = q := by rw [IntKind.wrap_i64]; omega
      have hwp : IntKind.i64.wrap p = p := by rw [IntKind.wrap_i64]; omega
      have hwp' : IntKind.i64.wrap p' = p' := by rw [IntKind.wrap_i64]; omega
      clear s2 s4 s5 hEu hn0
      go_wp2
      go_round
      case rel => exact ⟨N, R - p, Y, X - p', _, _, rfl, rfl, rfl, rfl, HS.out, hN, HN0.out⟩
      case measure => exact HM4.out

/-- With an inverse. -/
theorem l5Inverse_yes (a m x : Int) (w : World) (ha : 0 ≤ a ∧ a ≤ 1000000) (hm : 0 < m ∧ m ≤ 1000000) (h : IsInv a m x) :
    Calls Try.prog 80 #[.int .i64 a, .int .i64 m] w fun e w' => e = .returned (.tuple #[.int .i64 x, .bool true]) ∧ w = w' :=
  (l5Inverse_any a m w ha hm).mono fun _ _ ⟨⟨z, he, hz⟩, hw⟩ => by
    have hg := isInv_gcd h
    have := isInv_unique (hz hg) h
    subst this
    exact ⟨by rw [he]; simp [hg], hw⟩

theorem specGcdOf_any (a b : Int) (w : World) :
    Calls Try.prog 29 #[.int .i64 a, .int .i64 b] w fun e w' => e = .returned (.int .i64 (gcdT a b)) ∧ w = w' := by
  rcases ha : numB a with _ | _
  · have e : gcdT a b = -1 := by unfold gcdT; rw [if_neg (by simp [ha])]
    rw [e]
    go_enter Try.func29, Try.ntmps29
    go_wp2_with (go_at_call 79; refine (l5Number_any _ _).mono ?_; rintro e w' ⟨rfl, rfl⟩)
    go_returns
    exact ⟨rfl, rfl⟩
  rcases hb : numB b with _ | _
  · have e : gcdT a b = -1 := by unfold gcdT; rw [if_neg (by simp [hb])]
    rw [e]
    go_enter Try.func29, Try.ntmps29
    go_wp2_with (go_at_call 79; refine (l5Number_any _ _).mono ?_; rintro e w' ⟨rfl, rfl⟩)
    go_returns
    exact ⟨rfl, rfl⟩
  have e : gcdT a b = (Int.gcd a b : Nat) := by unfold gcdT; rw [if_pos (by simp [ha, hb])]
  rw [e]
  obtain ⟨a0, a1⟩ := numB_yes ha
  obtain ⟨b0, b1⟩ := numB_yes hb
  have HS := Lib.hid fun W => l1Gcd_any a b W (by omega) (by omega) (by omega) (by omega)
  clear e
  go_enter Try.func29, Try.ntmps29
  go_wp2_with (first | (go_at_call 79; refine (l5Number_any _ _).mono ?_; rintro e w' ⟨rfl, rfl⟩) | (go_at_call 71; refine (HS.out _).mono ?_; rintro e w' ⟨rfl, rfl⟩))
  go_returns
  exact ⟨rfl, rfl⟩

theorem inB_yes {n l h : Int} (e : inB n l h = true) : l ≤ n ∧ n ≤ h := by simpa [inB] using e

theorem specFloorDiv_any (a b : Int) (w : World) :
    Calls Try.prog 35 #[.int .i64 a, .int .i64 b] w fun e w' => e = .returned (T2 (flT a b)) ∧ w = w' := by
  rcases ha : numB a with _ | _
  · have e : flT a b = (0, false) := by unfold flT; rw [if_neg (by simp [ha])]
    rw [e]
    go_enter Try.func35, Try.ntmps35
    go_wp2_with (go_at_call 79; refine (l5Number_any _ _).mono ?_; rintro e w' ⟨rfl, rfl⟩)
    go_returns
    exact ⟨rfl, rfl⟩
  rcases hb : inB b 1 100000 with _ | _
  · have e : flT a b = (0, false) := by unfold flT; rw [if_neg (by simp [hb])]
    rw [e]
    go_enter Try.func35, Try.ntmps35
    go_wp2_with (first | (go_at_call 79; refine (l5Number_any _ _).mono ?_; rintro e w' ⟨rfl, rfl⟩) | (go_at_call 65; refine (l1In_any _ _ _ _).mono ?_; rintro e w' ⟨rfl, rfl⟩))
    go_returns
    exact ⟨rfl, rfl⟩
  have e : flT a b = (a / b, true) := by unfold flT; rw [if_pos (by simp [ha, hb])]
  rw [e]
  obtain ⟨a0, a1⟩ := numB_yes ha
  obtain ⟨b0, b1⟩ := inB_yes hb
  have HS := Lib.hid fun W => l2Mod_any a b W (by omega) (by omega)
  have hm0 := Int.emod_nonneg a (show b ≠ 0 by omega)
  have hm1 := Int.emod_lt_of_pos a (show 0 < b by omega)
  have hf := floor_tdiv (n := a) (d := b) (by omega)
  have hqb := tdiv_le (a - a % b) b
  obtain ⟨q, hq⟩ : ∃ q, a / b = q := ⟨_, rfl⟩
  rw [hq] at hf ⊢
  rw [hf] at hqb
  have hwq : IntKind.i64.wrap q = q := by rw [IntKind.wrap_i64]; omega
  have hbz : ¬ b = 0 := by omega
  clear e hq hqb
  go_enter Try.func35, Try.ntmps35
  go_wp2_with (first | (go_at_call 79; refine (l5Number_any _ _).mono ?_; rintro e w' ⟨rfl, rfl⟩) | (go_at_call 65; refine (l1In_any _ _ _ _).mono ?_; rintro e w' ⟨rfl, rfl⟩) | (go_at_call 81; refine (HS.out _).mono ?_; rintro e w' ⟨rfl, rfl⟩))
  go_returns
  exact ⟨rfl, rfl⟩

theorem l2Ceil_any (a b : Int) (w : World) (ha : -1000000 ≤ a ∧ a ≤ 1000000) (hb : 0 < b ∧ b ≤ 1000000) :
    Calls Try.prog 87 #[.int .i64 a, .int .i64 b] w fun e w' => e = .returned (.int .i64 (-(-a / b))) ∧ w = w' := by
  obtain ⟨a0, a1⟩ := ha
  obtain ⟨b0, b1⟩ := hb
  have HS := Lib.hid fun W => l2Mod_any (-a) b W (by omega) (by omega)
  have hm0 := Int.emod_nonneg (-a) (show b ≠ 0 by omega)
  have hm1 := Int.emod_lt_of_pos (-a) (show 0 < b by omega)
  have hf := ceil_spec (n := a) (d := b) b0
  have hqb := tdiv_le (a + -a % b) b
  obtain ⟨q, hq⟩ : ∃ q, -(-a / b) = q := ⟨_, rfl⟩
  rw [hq] at hf ⊢
  rw [hf] at hqb
  have hwq : IntKind.i64.wrap q = q := by rw [IntKind.wrap_i64]; omega
  have hbz : ¬ b = 0 := by omega
  clear hq hqb
  go_enter Try.func87, Try.ntmps87
  go_wp2_with (go_at_call 81; refine (HS.out _).mono ?_; rintro e w' ⟨rfl, rfl⟩)
  go_returns
  exact ⟨rfl, rfl⟩

theorem specCeilDiv_any (a b : Int) (w : World) :
    Calls Try.prog 37 #[.int .i64 a, .int .i64 b] w fun e w' => e = .returned (T2 (ceT a b)) ∧ w = w' := by
  rcases ha : numB a with _ | _
  · have e : ceT a b = (0, false) := by unfold ceT; rw [if_neg (by simp [ha])]
    rw [e]
    go_enter Try.func37, Try.ntmps37
    go_wp2_with (go_at_call 79; refine (l5Number_any _ _).mono ?_; rintro e w' ⟨rfl, rfl⟩)
    go_returns
    exact ⟨rfl, rfl⟩
  rcases hb : inB b 1 100000 with _ | _
  · have e : ceT a b = (0, false) := by unfold ceT; rw [if_neg (by simp [hb])]
    rw [e]
    go_enter Try.func37, Try.ntmps37
    go_wp2_with (first | (go_at_call 79; refine (l5Number_any _ _).mono ?_; rintro e w' ⟨rfl, rfl⟩) | (go_at_call 65; refine (l1In_any _ _ _ _).mono ?_; rintro e w' ⟨rfl, rfl⟩))
    go_returns
    exact ⟨rfl, rfl⟩
  have e : ceT a b = (-(-a / b), true) := by unfold ceT; rw [if_pos (by simp [ha, hb])]
  rw [e]
  obtain ⟨a0, a1⟩ := numB_yes ha
  obtain ⟨b0, b1⟩ := inB_yes hb
  have HS := Lib.hid fun W => l2Ceil_any a b W (by omega) (by omega)
  generalize -(-a / b) = q at *
  clear e
  go_enter Try.func37, Try.ntmps37
  go_wp2_with (first | (go_at_call 79; refine (l5Number_any _ _).mono ?_; rintro e w' ⟨rfl, rfl⟩) | (go_at_call 65; refine (l1In_any _ _ _ _).mono ?_; rintro e w' ⟨rfl, rfl⟩) | (go_at_call 87; refine (HS.out _).mono ?_; rintro e w' ⟨rfl, rfl⟩))
  go_returns
  exact ⟨rfl, rfl⟩

theorem specInverseMod_any (a m : Int) (w : World) :
    Calls Try.prog 40 #[.int .i64 a, .int .i64 m] w fun e w' => e = .returned (T2 (invT a m)) ∧ w = w' := by
  rcases ha : numB a with _ | _
  · have e : invT a m = (0, false) := by unfold invT; rw [if_neg (by simp [ha])]
    rw [e]
    go_enter Try.func40, Try.ntmps40
    go_wp2_with (go_at_call 79; refine (l5Number_any _ _).mono ?_; rintro e w' ⟨rfl, rfl⟩)
    go_returns
    exact ⟨rfl, rfl⟩
  rcases hm : modB m with _ | _
  · have e : invT a m = (0, false) := by unfold invT; rw [if_neg (by simp [hm])]
    rw [e]
    go_enter Try.func40, Try.ntmps40
    go_wp2_with (first | (go_at_call 79; refine (l5Number_any _ _).mono ?_; rintro e w' ⟨rfl, rfl⟩) | (go_at_call 88; refine (l5Modulus_any _ _).mono ?_; rintro e w' ⟨rfl, rfl⟩))
    go_returns
    exact ⟨rfl, rfl⟩
  have e : invT a m = invV a m := by unfold invT; rw [if_pos (by simp [ha, hm])]
  rw [e]
  obtain ⟨a0, a1⟩ := numB_yes ha
  obtain ⟨m0, m1⟩ := modB_yes hm
  have HS := Lib.hid fun W => l2Mod_any a m W (by omega) (by omega)
  have hr0 := Int.emod_nonneg a (show m ≠ 0 by omega)
  have hr1 := Int.emod_lt_of_pos a (show 0 < m by omega)
  have hgm := gcd_emod a m
  have HI := Lib.hid fun W => l5Inverse_any (a % m) m W (by omega) (by omega)
  have hback : ∀ z, IsInv (a % m) m z → IsInv a m z := fun z hz => by
    obtain ⟨z0, z1, k, hk⟩ := hz
    refine ⟨z0, z1, k + a / m * z, ?_⟩
    have hq := Int.emod_add_mul_ediv a m
    have e2 : a % m = a - m * (a / m) := by omega
    rw [e2] at hk
    generalize a / m = q at *
    have : a * z - 1 = ((a - m * q) * z - 1) + m * (q * z) := by grind
    rw [this, hk]
    grind
  by_cases hg : Int.gcd a m = 1
  · obtain ⟨z, hz⟩ := isInv_exists (a := a % m) (show 0 < m by omega) (hgm.trans hg)
    rw [invV_yes (hback z hz)]
    have HJ := Lib.hid fun W => l5Inverse_yes (a % m) m z W (by omega) (by omega) hz
    clear hback hgm hg e HI hz
    go_enter Try.func40, Try.ntmps40
    go_wp2_with (first | (go_at_call 79; refine (l5Number_any _ _).mono ?_; rintro e w' ⟨rfl, rfl⟩) | (go_at_call 88; refine (l5Modulus_any _ _).mono ?_; rintro e w' ⟨rfl, rfl⟩) | (go_at_call 81; refine (HS.out _).mono ?_; rintro e w' ⟨rfl, rfl⟩) | (go_at_call 80; refine (HJ.out _).mono ?_; rintro e w' ⟨rfl, rfl⟩))
    go_returns
    exact ⟨rfl, rfl⟩
  · have hone : decide (Int.gcd (a % m) m = 1) = false := by simp [hgm, hg]
    rw [invV_no hg]
    rw [hone] at HI
    clear hone hback hgm hg e
    go_enter Try.func40, Try.ntmps40
    go_wp2_with (first | (go_at_call 79; refine (l5Number_any _ _).mono ?_; rintro e w' ⟨rfl, rfl⟩) | (go_at_call 88; refine (l5Modulus_any _ _).mono ?_; rintro e w' ⟨rfl, rfl⟩) | (go_at_call 81; refine (HS.out _).mono ?_; rintro e w' ⟨rfl, rfl⟩))
    refine (HI.out _).mono ?_
    rintro e w' ⟨⟨z, rfl, hz⟩, rfl⟩
    clear hz
    go_wp2
    go_returns
    exact ⟨rfl, rfl⟩

theorem specSolve_any (a b m : Int) (w : World) :
    Calls Try.prog 44 #[.int .i64 a, .int .i64 b, .int .i64 m] w fun e w' => e = .returned (T3 (solT a b m)) ∧ w = w' := by
  rcases ha : numB a with _ | _
  · have e : solT a b m = (0, 0, false) := by unfold solT; rw [if_neg (by simp [ha])]
    rw [e]
    go_enter Try.func44, Try.ntmps44
    go_wp2_with (go_at_call 79; refine (l5Number_any _ _).mono ?_; rintro e w' ⟨rfl, rfl⟩)
    go_returns
    exact ⟨rfl, rfl⟩
  rcases hb : numB b with _ | _
  · have e : solT a b m = (0, 0, false) := by unfold solT; rw [if_neg (by simp [hb])]
    rw [e]
    go_enter Try.func44, Try.ntmps44
    go_wp2_with (go_at_call 79; refine (l5Number_any _ _).mono ?_; rintro e w' ⟨rfl, rfl⟩)
    go_returns
    exact ⟨rfl, rfl⟩
  rcases hm : modB m with _ | _
  · have e : solT a b m = (0, 0, false) := by unfold solT; rw [if_neg (by simp [hm])]
    rw [e]
    go_enter Try.func44, Try.ntmps44
    go_wp2_with (first | (go_at_call 79; refine (l5Number_any _ _).mono ?_; rintro e w' ⟨rfl, rfl⟩) | (go_at_call 88; refine (l5Modulus_any _ _).mono ?_; rintro e w' ⟨rfl, rfl⟩))
    go_returns
    exact ⟨rfl, rfl⟩
  have e : solT a b m = solV a b m := by unfold solT; rw [if_pos (by simp [ha, hb, hm])]
  rw [e]
  obtain ⟨a0, a1⟩ := numB_yes ha
  obtain ⟨b0, b1⟩ := numB_yes hb
  obtain ⟨m0, m1⟩ := modB_yes hm
  have hm0 : 0 < m := by omega
  have HA := Lib.hid fun W => l2Mod_any a m W hm0 (by omega)
  have hr0 := Int.emod_nonneg a (show m ≠ 0 by omega)
  have hr1 := Int.emod_lt_of_pos a hm0
  have HG := Lib.hid fun W => l1Gcd_any (a % m) m W (by omega) (by omega) (by omega) (by omega)
  rw [gcd_emod] at HG
  obtain ⟨g0, g1⟩ := gcd_le_r (a := a) hm0
  obtain ⟨hcop, hs0, hda⟩ := sol_cop (a := a) hm0
  by_cases hd : ((Int.gcd a m : Nat) : Int) ∣ b
  · obtain ⟨x, hx⟩ := isInv_exists hs0 hcop
    have hsol := sol_spec hm0 hd hx.2.2
    rw [solV_yes (by omega) hsol]
    obtain ⟨g, hg⟩ : ∃ g : Int, ((Int.gcd a m : Nat) : Int) = g := ⟨_, rfl⟩
    simp only [hg] at *
    have htm : b.tmod g = 0 := Int.tmod_eq_zero_of_dvd hd
    have hms : m.tdiv g = m / g := Int.tdiv_eq_ediv_of_nonneg (by omega)
    have hbq : b.tdiv g = b / g := Int.tdiv_eq_ediv_of_dvd hd
    have hbb := tdiv_le b g
    have haq : (a % m).tdiv g = a % m / g := Int.tdiv_eq_ediv_of_nonneg hr0
    have hA0 : 0 ≤ a % m / g := Int.ediv_nonneg hr0 (by omega)
    have hA1 : a % m / g ≤ a % m := Int.ediv_le_self _ hr0
    have hAt : (a % m / g).tmod (m / g) = a % m / g % (m / g) := Int.tmod_eq_emod_of_nonneg hA0
    have hs1 : m / g ≤ m := Int.ediv_le_self _ (by omega)
    rw [hbq] at hbb
    generalize m / g = s at *
    generalize a % m / g = A at *
    have hi0 := Int.emod_nonneg A (show s ≠ 0 by omega)
    have hi1 := Int.emod_lt_of_pos A hs0
    have HI := Lib.hid fun W => l5Inverse_yes (A % s) s x W (by omega) (by omega) hx
    have hx0 := hx.1
    have hx1 := hx.2.1
    generalize A % s = i at *
    generalize b / g = q at *
    have HQ := Lib.hid fun W => l2Mod_any q s W hs0 (by omega)
    have hj0 := Int.emod_nonneg q (show s ≠ 0 by omega)
    have hj1 := Int.emod_lt_of_pos q hs0
    generalize q % s = j at *
    have hpb := mul_bd (a := j) (x := x) (A := 10000) (X := 10000) (by omega) (by omega) (by omega) (by omega) (by omega)
    have hp00 := Int.mul_nonneg hj0 hx0
    obtain ⟨p, hp⟩ : ∃ p, j * x = p := ⟨_, rfl⟩
    rw [hp] at hpb hp00 ⊢
    have hpt : p.tmod s = p % s := Int.tmod_eq_emod_of_nonneg hp00
    have hu0 := Int.emod_nonneg p (show s ≠ 0 by omega)
    have hu1 := Int.emod_lt_of_pos p hs0
    generalize p % s = u at *
    obtain ⟨p0, p1⟩ := hpb
    have hgz : ¬ g = 0 := by omega
    have hsz : ¬ s = 0 := by omega
    have hw1 : IntKind.i64.wrap s = s := by rw [IntKind.wrap_i64]; omega
    have hw2 : IntKind.i64.wrap q = q := by rw [IntKind.wrap_i64]; omega
    have hw3 : IntKind.i64.wrap A = A := by rw [IntKind.wrap_i64]; omega
    have hw4 : IntKind.i64.wrap i = i := by rw [IntKind.wrap_i64]; omega
    have hw5 : IntKind.i64.wrap p = p := by rw [IntKind.wrap_i64]; omega
    have hw6 : IntKind.i64.wrap u = u := by rw [IntKind.wrap_i64]; omega
    clear hx hsol hcop hda hd e hg hbb
    go_enter Try.func44, Try.ntmps44
    go_wp2_with (first | (go_at_call 79; refine (l5Number_any _ _).mono ?_; rintro e w' ⟨rfl, rfl⟩) | (go_at_call 88; refine (l5Modulus_any _ _).mono ?_; rintro e w' ⟨rfl, rfl⟩))
    refine (HA.out _).mono ?_
    rintro e w' ⟨rfl, rfl⟩
    go_wp2_with (go_at_call 71; refine (HG.out _).mono ?_; rintro e w' ⟨rfl, rfl⟩)
    refine (HA.out _).mono ?_
    rintro e w' ⟨rfl, rfl⟩
    go_wp2_with (go_at_call 80; refine (HI.out _).mono ?_; rintro e w' ⟨rfl, rfl⟩)
    refine (HQ.out _).mono ?_
    rintro e w' ⟨rfl, rfl⟩
    go_wp2
    go_returns
    exact ⟨rfl, rfl⟩
  · rw [solV_no hd]
    obtain ⟨g, hg⟩ : ∃ g : Int, ((Int.gcd a m : Nat) : Int) = g := ⟨_, rfl⟩
    simp only [hg] at *
    obtain ⟨t, ht⟩ : ∃ t, b.tmod g = t := ⟨_, rfl⟩
    have htm : ¬ t = 0 := fun e => hd (Int.dvd_of_tmod_eq_zero (ht.trans e))
    have htb := tmod_small (n := b) g0
    rw [ht] at htb
    obtain ⟨t0, t1⟩ := htb
    have hgz : ¬ g = 0 := by omega
    clear hcop hda hd e hg hs0
    go_enter Try.func44, Try.ntmps44
    go_wp2_with (first | (go_at_call 79; refine (l5Number_any _ _).mono ?_; rintro e w' ⟨rfl, rfl⟩) | (go_at_call 88; refine (l5Modulus_any _ _).mono ?_; rintro e w' ⟨rfl, rfl⟩) | (go_at_call 71; refine (HG.out _).mono ?_; rintro e w' ⟨rfl, rfl⟩) | (go_at_call 81; refine (HA.out _).mono ?_; rintro e w' ⟨rfl, rfl⟩))
    go_returns
    exact ⟨rfl, rfl⟩

end Go.Proofs.Ytjhfmlbnpdnddaa
