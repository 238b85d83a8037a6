/- The program's functions of chapter 5 that need no recovering: congruences, common divisors, gaps, counts. -/
import Derived.Test.YtjhfmlbnpdnddaaNbE
import Derived.Test.YtjhfmlbnpdnddaaNumB
namespace Go.Proofs.Ytjhfmlbnpdnddaa
open Go.RowKit

noncomputable def solT (a b m : Int) : Int × Int × Bool := if (numB a && numB b && modB m) = true then solV a b m else (0, 0, false)
noncomputable def invT (a m : Int) : Int × Bool := if (numB a && modB m) = true then invV a m else (0, false)
noncomputable def comT (r m s n : Int) : Int × Int × Bool := if (numB r && modB m && numB s && modB n) = true then comV r m s n else (0, 0, false)
def gcdT (a b : Int) : Int := if (numB a && numB b) = true then (Int.gcd a b : Nat) else -1
def gapT (a b : Int) : Int := if (pcB a && pcB b && decide (Int.gcd a b = 1)) = true then a * b - a - b else -2
def cntT (a b c : Int) : Int := if (pcB a && pcB b && wlB c 10000) = true then (cntV a b c : Nat) else -1
def T3 (t : Int × Int × Bool) : Value := .tuple #[.int .i64 t.1, .int .i64 t.2.1, .bool t.2.2]
def T2 (t : Int × Bool) : Value := .tuple #[.int .i64 t.1, .bool t.2]

theorem SolveCongruence_any (a b m : Int) (w : World) :
    Calls Try.prog 43 #[.int .i64 a, .int .i64 b, .int .i64 m] w fun e w' => e = .returned (T3 (solT a b m)) ∧ Below w.heap.size w w' := by
  rcases h : numB a && numB b && modB m with _ | _
  · have e : solT a b m = (0, 0, false) := by unfold solT; rw [if_neg (by rw [h]; simp)]
    rw [e]
    exact (SolveCongruence_bad a b m w h).mono fun _ _ ⟨he, hw⟩ => ⟨he, by subst hw; exact Below.refl _ _⟩
  · have e : solT a b m = solV a b m := by unfold solT; rw [if_pos h]
    rw [e]
    simp only [Bool.and_eq_true] at h
    obtain ⟨⟨ha, hb⟩, hm⟩ := h
    have hab := numB_yes ha
    have hbb := numB_yes hb
    have hmb := modB_yes hm
    by_cases hd : ((Int.gcd a m : Nat) : Int) ∣ b
    · obtain ⟨x, hx⟩ := isSol_exists (a := a) (b := b) (show 0 < m by omega) hd
      rw [solV_yes (by omega) hx]
      have HS := Lib.hid fun W => solved_yes a b m x _ W (by omega) (by omega) (by omega) hx
      clear hx hd hab hbb hmb e
      generalize m / ((Int.gcd a m : Nat) : Int) = s at *
      go_enter Try.func43, Try.ntmps43
      go_wp2_with (first | (go_at_call 75; refine (isNumber_any _ _).mono ?_; rintro e w' ⟨rfl, rfl⟩) | (go_at_call 83; refine (isModulus_any _ _).mono ?_; rintro e w' ⟨rfl, rfl⟩))
      refine (HS.out _).mono ?_
      rintro e w1 ⟨rfl, hb1⟩
      go_wp2
      go_returns
      exact ⟨rfl, hb1⟩
    · rw [solV_no hd]
      have HS := Lib.hid fun W => solved_no a b m W (by omega) (by omega) hd
      clear hd hab hbb hmb e
      go_enter Try.func43, Try.ntmps43
      go_wp2_with (first | (go_at_call 75; refine (isNumber_any _ _).mono ?_; rintro e w' ⟨rfl, rfl⟩) | (go_at_call 83; refine (isModulus_any _ _).mono ?_; rintro e w' ⟨rfl, rfl⟩))
      refine (HS.out _).mono ?_
      rintro e w1 ⟨rfl, hb1⟩
      go_wp2
      go_returns
      exact ⟨rfl, hb1⟩

theorem inv_sol {a m x : Int} (h : IsInv a m x) : IsSol a 1 m x m := by
  have hg := isInv_gcd h
  exact ⟨by rw [hg]; simp, h.1, h.2.1, h.2.2⟩

/-- A number and its inverse, by the congruence. -/
theorem inv_T (a m : Int) : invT a m = ((solT a 1 m).1, (solT a 1 m).2.2) := by
  have h1 : numB 1 = true := by decide
  unfold invT solT
  rw [h1, Bool.and_true]
  by_cases h : (numB a && modB m) = true
  · rw [if_pos h, if_pos h]
    simp only [Bool.and_eq_true] at h
    have hm := modB_yes h.2
    by_cases hg : Int.gcd a m = 1
    · obtain ⟨x, hx⟩ := isInv_exists (show 0 < m by omega) hg
      rw [invV_yes hx, solV_yes (by omega) (inv_sol hx)]
    · rw [invV_no hg, solV_no]
      intro hd
      have : Int.gcd a m ∣ 1 := Int.ofNat_dvd.1 (by simpa using hd)
      exact hg (Nat.dvd_one.1 this)
  · rw [if_neg h, if_neg h]

theorem InverseMod_any (a m : Int) (w : World) :
    Calls Try.prog 39 #[.int .i64 a, .int .i64 m] w fun e w' => e = .returned (T2 (invT a m)) ∧ Below w.heap.size w w' := by
  rw [inv_T]
  have HS := Lib.hid fun W => SolveCongruence_any a 1 m W
  generalize solT a 1 m = t at *
  obtain ⟨x, s, ok⟩ := t
  unfold T3 at HS
  unfold T2
  dsimp only at HS ⊢
  go_enter Try.func39, Try.ntmps39
  go_wp2_with fail
  refine (HS.out _).mono ?_
  rintro e w1 ⟨rfl, hb1⟩
  go_wp2
  go_returns
  exact ⟨rfl, hb1⟩

theorem CombineCongruences_any (r m s n : Int) (w : World) :
    Calls Try.prog 46 #[.int .i64 r, .int .i64 m, .int .i64 s, .int .i64 n] w fun e w' => e = .returned (T3 (comT r m s n)) ∧ Below w.heap.size w w' := by
  rcases hr : numB r with _ | _
  · have e : comT r m s n = (0, 0, false) := by unfold comT; rw [if_neg (by simp [hr])]
    rw [e]
    go_enter Try.func46, Try.ntmps46
    go_wp2_with (go_at_call 75; refine (isNumber_any _ _).mono ?_; rintro e w' ⟨rfl, rfl⟩)
    go_returns
    exact ⟨rfl, Below.refl _ _⟩
  rcases hm : modB m with _ | _
  · have e : comT r m s n = (0, 0, false) := by unfold comT; rw [if_neg (by simp [hm])]
    rw [e]
    go_enter Try.func46, Try.ntmps46
    go_wp2_with (first | (go_at_call 75; refine (isNumber_any _ _).mono ?_; rintro e w' ⟨rfl, rfl⟩) | (go_at_call 83; refine (isModulus_any _ _).mono ?_; rintro e w' ⟨rfl, rfl⟩))
    go_returns
    exact ⟨rfl, Below.refl _ _⟩
  rcases hs : numB s with _ | _
  · have e : comT r m s n = (0, 0, false) := by unfold comT; rw [if_neg (by simp [hs])]
    rw [e]
    go_enter Try.func46, Try.ntmps46
    go_wp2_with (first | (go_at_call 75; refine (isNumber_any _ _).mono ?_; rintro e w' ⟨rfl, rfl⟩) | (go_at_call 83; refine (isModulus_any _ _).mono ?_; rintro e w' ⟨rfl, rfl⟩))
    go_returns
    exact ⟨rfl, Below.refl _ _⟩
  rcases hn : modB n with _ | _
  · have e : comT r m s n = (0, 0, false) := by unfold comT; rw [if_neg (by simp [hn])]
    rw [e]
    go_enter Try.func46, Try.ntmps46
    go_wp2_with (first | (go_at_call 75; refine (isNumber_any _ _).mono ?_; rintro e w' ⟨rfl, rfl⟩) | (go_at_call 83; refine (isModulus_any _ _).mono ?_; rintro e w' ⟨rfl, rfl⟩))
    go_returns
    exact ⟨rfl, Below.refl _ _⟩
  have e : comT r m s n = comV r m s n := by unfold comT; rw [if_pos (by simp [hr, hm, hs, hn])]
  rw [e]
  obtain ⟨r0, r1⟩ := numB_yes hr
  obtain ⟨m0, m1⟩ := modB_yes hm
  obtain ⟨s0, s1⟩ := numB_yes hs
  obtain ⟨n0, n1⟩ := modB_yes hn
  by_cases hd : ((Int.gcd m n : Nat) : Int) ∣ s - r
  · obtain ⟨x, hx⟩ := isSol_exists (a := m) (b := s - r) (show 0 < n by omega) hd
    have hcom := com_impl (by omega) (by omega) hx
    have hx0 := hx.2.1
    have hx1 := hx.2.2.1
    have hev : n / ((Int.gcd m n : Nat) : Int) ≤ n := Int.ediv_le_self _ (by omega)
    have HS := Lib.hid fun W => solved_yes m (s - r) n x _ W (by omega) (by omega) (by omega) hx
    generalize n / ((Int.gcd m n : Nat) : Int) = t at *
    rw [comV_yes hcom]
    obtain ⟨p, hp⟩ : ∃ p, m * x = p := ⟨_, rfl⟩
    have hpb := mul_bd (a := m) (x := x) (A := 10000) (X := 10000) (by omega) (by omega) hx0 (by omega) (by omega)
    obtain ⟨q, hq⟩ : ∃ q, m * t = q := ⟨_, rfl⟩
    have hqb := mul_bd (a := m) (x := t) (A := 10000) (X := 10000) (by omega) (by omega) (by omega) (by omega) (by omega)
    have hq0 : 0 < m * t := Int.mul_pos (by omega) (by omega)
    rw [hp] at hpb
    rw [hq] at hqb hq0
    rw [hp, hq] at hcom ⊢
    obtain ⟨p0, p1⟩ := hpb
    obtain ⟨q0, q1⟩ := hqb
    have HR := Lib.hid fun W => remainder_any (r + p) q W hq0 (by omega)
    have hwp : IntKind.i64.wrap p = p := by rw [IntKind.wrap_i64]; omega
    have hwq : IntKind.i64.wrap q = q := by rw [IntKind.wrap_i64]; omega
    clear hx hcom hd e
    go_enter Try.func46, Try.ntmps46
    go_wp2_with (first | (go_at_call 75; refine (isNumber_any _ _).mono ?_; rintro e w' ⟨rfl, rfl⟩) | (go_at_call 83; refine (isModulus_any _ _).mono ?_; rintro e w' ⟨rfl, rfl⟩))
    refine (HS.out _).mono ?_
    rintro e w1 ⟨rfl, hb1⟩
    go_wp2_with (go_at_call 90; refine (HR.out _).mono ?_; rintro e w' ⟨rfl, rfl⟩)
    go_returns
    exact ⟨rfl, hb1⟩
  · rw [comV_no hd]
    have HS := Lib.hid fun W => solved_no m (s - r) n W (by omega) (by omega) hd
    clear hd e
    go_enter Try.func46, Try.ntmps46
    go_wp2_with (first | (go_at_call 75; refine (isNumber_any _ _).mono ?_; rintro e w' ⟨rfl, rfl⟩) | (go_at_call 83; refine (isModulus_any _ _).mono ?_; rintro e w' ⟨rfl, rfl⟩))
    refine (HS.out _).mono ?_
    rintro e w1 ⟨rfl, hb1⟩
    go_wp2
    go_returns
    exact ⟨rfl, hb1⟩

theorem GcdOf_any (a b : Int) (w : World) :
    Calls Try.prog 28 #[.int .i64 a, .int .i64 b] w fun e w' => e = .returned (.int .i64 (gcdT a b)) ∧ Below w.heap.size w w' := by
  rcases ha : numB a with _ | _
  · have e : gcdT a b = -1 := by unfold gcdT; rw [if_neg (by simp [ha])]
    rw [e]
    go_enter Try.func28, Try.ntmps28
    go_wp2_with (go_at_call 75; refine (isNumber_any _ _).mono ?_; rintro e w' ⟨rfl, rfl⟩)
    go_returns
    exact ⟨rfl, Below.refl _ _⟩
  rcases hb : numB b with _ | _
  · have e : gcdT a b = -1 := by unfold gcdT; rw [if_neg (by simp [hb])]
    rw [e]
    go_enter Try.func28, Try.ntmps28
    go_wp2_with (go_at_call 75; refine (isNumber_any _ _).mono ?_; rintro e w' ⟨rfl, rfl⟩)
    go_returns
    exact ⟨rfl, Below.refl _ _⟩
  have e : gcdT a b = (Int.gcd a b : Nat) := by unfold gcdT; rw [if_pos (by simp [ha, hb])]
  rw [e]
  obtain ⟨a0, a1⟩ := numB_yes ha
  obtain ⟨b0, b1⟩ := numB_yes hb
  have HS := Lib.hid fun W => commonDivisor_any a b W (by omega) (by omega) (by omega) (by omega)
  clear e
  go_enter Try.func28, Try.ntmps28
  go_wp2_with (go_at_call 75; refine (isNumber_any _ _).mono ?_; rintro e w' ⟨rfl, rfl⟩)
  refine (HS.out _).mono ?_
  rintro e w1 ⟨rfl, hb1⟩
  go_wp2
  go_returns
  exact ⟨rfl, hb1⟩

end Go.Proofs.Ytjhfmlbnpdnddaa
