/- The program's congruences. -/
import Derived.Test.YtjhfmlbnpdnddaaNbD
namespace Go.Proofs.Ytjhfmlbnpdnddaa
open Go.RowKit

theorem gcd_le_r {a m : Int} (hm : 0 < m) : 0 < ((Int.gcd a m : Nat) : Int) ∧ ((Int.gcd a m : Nat) : Int) ≤ m := by
  have := gcd_pos_r (a := a) (m := m) (by omega)
  have h2 : Int.gcd a m ∣ m.natAbs := Nat.gcd_dvd_right _ _
  have := Nat.le_of_dvd (by omega) h2
  omega

set_option maxHeartbeats 1000000 in
theorem solved_yes (a b m x s : Int) (w : World) (ha : -1000000 ≤ a ∧ a ≤ 1000000) (hb : -1000000 ≤ b ∧ b ≤ 1000000) (hm : 0 < m ∧ m ≤ 1000000) (h : IsSol a b m x s) :
    Calls Try.prog 89 #[.int .i64 a, .int .i64 b, .int .i64 m] w fun e w' => e = .returned (.tuple #[.int .i64 x, .int .i64 s, .bool true]) ∧ Below w.heap.size w w' := by
  obtain ⟨X, Y, hbz⟩ := isBez_exists (a := a) (b := m)
  obtain ⟨g0, g1⟩ := gcd_le_r (a := a) hm.1
  have hd := isSol_dvd h
  have hsol := sol_impl hm.1 hbz hd
  obtain ⟨hx, hs⟩ := isSol_unique (by omega) h hsol
  obtain ⟨g, hg⟩ : ∃ g : Int, ((Int.gcd a m : Nat) : Int) = g := ⟨_, rfl⟩
  rw [hg] at hbz hd hx hs g0 g1
  obtain ⟨_, _, X0, X1⟩ := bez_bd (by omega) hbz (by omega)
  have HB := Lib.hid fun W => bezout_at a m g X Y W ha (by omega) (by omega) hbz
  have htm : b.tmod g = 0 := Int.tmod_eq_zero_of_dvd hd
  have hms : m.tdiv g = s := by rw [hs]; exact Int.tdiv_eq_ediv_of_nonneg (by omega)
  have hs0 : 0 < s := by have := h.2.1; have := h.2.2.1; omega
  have hs1 : s ≤ m := by rw [hs]; exact Int.ediv_le_self g (by omega)
  obtain ⟨q, hq⟩ : ∃ q, b.tdiv g = q := ⟨_, rfl⟩
  have hq1 : q.natAbs ≤ b.natAbs := by rw [← hq]; exact tdiv_le _ _
  obtain ⟨p, hp⟩ : ∃ p, X * q = p := ⟨_, rfl⟩
  have hpb : -1000000000000 ≤ p ∧ p ≤ 1000000000000 := by rw [← hp]; exact mul_bd2 (A := 1000000) (K := 1000000) (by omega) (by omega) (by omega) (by omega) (by omega)
  obtain ⟨hp0, hp1⟩ := hpb
  rw [hq, hp, ← hs] at hx
  have HR := Lib.hid fun W => remainder_any p s W hs0 (by omega)
  rw [← hx] at HR
  have hws : IntKind.i64.wrap s = s := by rw [IntKind.wrap_i64]; omega
  have hwq : IntKind.i64.wrap q = q := by rw [IntKind.wrap_i64]; omega
  have hwp : IntKind.i64.wrap p = p := by rw [IntKind.wrap_i64]; omega
  have hgz : ¬ g = 0 := by omega
  clear hx hs hd hsol h hg hbz hq1 g1
  go_enter Try.func89, Try.ntmps89
  go_wp2_with fail
  refine (HB.out _).mono ?_
  rintro e w1 ⟨rfl, hb1⟩
  go_wp2_with fail
  generalize hW2 : World.alloc w1 _ = W2
  have hm2 : C3 W2 w1.heap.size g X Y := by subst hW2; exact (by refine ⟨?_, ?_, ?_, ?_, ?_⟩ <;> first | (simp [go_sem]; done) | (simp; omega) | (intro o; simp [go_sem]; done))
  have hB2 : Below w.heap.size w W2 := by subst hW2; exact hb1.alloc hb1.size _
  clear hW2
  obtain ⟨m0, m1, m2, m3, m4⟩ := id hm2
  go_upto_region 5 with fail
  go_quiet ((go_at_call 90; exact Calls.quiet_of_same ((HR.out _).mono fun _ _ h => ⟨h.1, h.2.symm⟩)))
  go_wp2
  go_returns
  exact ⟨rfl, below_on hB2 (below_dq _ _)⟩

set_option maxHeartbeats 1000000 in
theorem solved_no (a b m : Int) (w : World) (ha : -1000000 ≤ a ∧ a ≤ 1000000) (hm : 0 < m ∧ m ≤ 1000000) (h : ¬ ((Int.gcd a m : Nat) : Int) ∣ b) :
    Calls Try.prog 89 #[.int .i64 a, .int .i64 b, .int .i64 m] w fun e w' => e = .returned (.tuple #[.int .i64 0, .int .i64 0, .bool false]) ∧ Below w.heap.size w w' := by
  obtain ⟨X, Y, hbz⟩ := isBez_exists (a := a) (b := m)
  obtain ⟨g0, g1⟩ := gcd_le_r (a := a) hm.1
  obtain ⟨g, hg⟩ : ∃ g : Int, ((Int.gcd a m : Nat) : Int) = g := ⟨_, rfl⟩
  rw [hg] at hbz h g0 g1
  obtain ⟨_, _, X0, X1⟩ := bez_bd (by omega) hbz (by omega)
  have HB := Lib.hid fun W => bezout_at a m g X Y W ha (by omega) (by omega) hbz
  obtain ⟨t, ht⟩ : ∃ t, b.tmod g = t := ⟨_, rfl⟩
  have htm : ¬ t = 0 := fun e => h (Int.dvd_of_tmod_eq_zero (ht.trans e))
  have htb := tmod_small (n := b) g0
  rw [ht] at htb
  obtain ⟨t0, t1⟩ := htb
  have hgz : ¬ g = 0 := by omega
  clear h hg hbz
  go_enter Try.func89, Try.ntmps89
  go_wp2_with fail
  refine (HB.out _).mono ?_
  rintro e w1 ⟨rfl, hb1⟩
  go_wp2_with fail
  go_returns
  exact ⟨rfl, hb1.alloc hb1.size _⟩

/-- What a congruence has for an answer: both sides give it. -/
theorem SolveCongruence_bad (a b m : Int) (w : World) (h : (numB a && numB b && modB m) = false) :
    Calls Try.prog 43 #[.int .i64 a, .int .i64 b, .int .i64 m] w fun e w' => e = .returned (.tuple #[.int .i64 0, .int .i64 0, .bool false]) ∧ w = w' := by
  rcases ha : numB a with _ | _
  · go_enter Try.func43, Try.ntmps43
    go_wp2_with (go_at_call 75; refine (isNumber_any _ _).mono ?_; rintro e w' ⟨rfl, rfl⟩)
    go_returns
    exact ⟨rfl, rfl⟩
  rcases hb : numB b with _ | _
  · go_enter Try.func43, Try.ntmps43
    go_wp2_with (go_at_call 75; refine (isNumber_any _ _).mono ?_; rintro e w' ⟨rfl, rfl⟩)
    go_returns
    exact ⟨rfl, rfl⟩
  have hm : modB m = false := by simpa [ha, hb] using h
  go_enter Try.func43, Try.ntmps43
  go_wp2_with (first | (go_at_call 75; refine (isNumber_any _ _).mono ?_; rintro e w' ⟨rfl, rfl⟩) | (go_at_call 83; refine (isModulus_any _ _).mono ?_; rintro e w' ⟨rfl, rfl⟩))
  go_returns
  exact ⟨rfl, rfl⟩

end Go.Proofs.Ytjhfmlbnpdnddaa
