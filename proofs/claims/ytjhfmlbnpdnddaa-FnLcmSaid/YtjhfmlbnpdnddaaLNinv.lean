/- The walk of the law on inverses. -/
import Derived.Test.YtjhfmlbnpdnddaaLNfloor
namespace Go.Proofs.Ytjhfmlbnpdnddaa
open Go.RowKit

set_option maxHeartbeats 400000 in
theorem pbMod_any (n d : Int) (w : World) (hd : 0 < d) (hd1 : d ≤ 1000000000000) :
    Calls Try.prog 41 #[.int .i64 n, .int .i64 d] w fun e w' => e = .returned (.int .i64 (n % d)) ∧ w = w' := by
  have hd0 : ¬ d = 0 := by omega
  obtain ⟨t0, t1⟩ := tmod_small (n := n) hd
  have hm : (n.tmod d + d).tmod d = n % d := by
    rw [Int.tmod_eq_emod_of_nonneg (by omega), Int.add_emod_right]
    have e := Int.tmod_add_mul_tdiv n d
    conv => rhs; rw [← e]
    exact (Int.add_mul_emod_self_left _ _ _).symm
  have hm0 := Int.emod_nonneg n hd0
  have hm1 := Int.emod_lt_of_pos n hd
  go_enter Try.func41, Try.ntmps41
  go_wp2
  go_ret
  exact ⟨ret_int (by omega), rfl⟩

/-- The number is the inverse of its inverse. -/
theorem inv_back {a m x : Int} (hm : 0 < m) (h : IsInv a m x) : IsInv x m (a % m) ∧ (a % m * x) % m = 1 % m := by
  obtain ⟨x0, x1, k, hk⟩ := h
  have hq := Int.emod_add_mul_ediv a m
  have e2 : a % m = a - m * (a / m) := by omega
  have hd : m ∣ (a % m) * x - 1 := by
    refine ⟨k - a / m * x, ?_⟩
    rw [e2]
    generalize a / m = q at *
    have : (a - m * q) * x - 1 = (a * x - 1) - m * (q * x) := by grind
    rw [this, hk]
    grind
  refine ⟨⟨Int.emod_nonneg _ (by omega), Int.emod_lt_of_pos _ hm, by rw [Int.mul_comm]; exact hd⟩, ?_⟩
  exact Int.emod_eq_emod_iff_emod_sub_eq_zero.2 (Int.emod_eq_zero_of_dvd hd)

set_option maxHeartbeats 1000000 in
theorem inverse_walk (sp : Option Addr) (n cap : Nat) (w : World) (h : Code w sp n cap) :
    Calls Try.prog 8 #[.slice sp n cap] w fun e w' => e = .returned (.bool true) ∧ Below w.heap.size w w' := by
  have hc1 := h.1
  have hc2 := h.2.1
  have H := Lib.hid h
  clear h
  by_cases hn : n ≤ 1048576
  · have hn' : ¬ (1048576 : Int) < (n : Int) := by omega
    go_enter Try.func8, Try.ntmps8
    go_wp2_with fail
    refine (DrawInverseMod_t sp n cap w H.out).mono ?_
    rintro e w1 ⟨a, m, rfl, ha, ⟨hm0, hm1⟩, hb1⟩
    have HI := Lib.hid fun W => InverseMod_any a m W
    have HS := Lib.hid fun W => specInverseMod_any a m W
    by_cases hv : 1 ≤ m ∧ m ≤ 10000
    · have hd1 : decide (m < 1) = false := by simp; omega
      have hd2 : decide (10000 < m) = false := by simp; omega
      have hmB : modB m = true := by simp [modB, inB]; omega
      obtain ⟨m0, m1⟩ := hv
      have HG1 := Lib.hid fun W => GcdOf_any a 1 W
      have g1 : gcdT a 1 = if numB a = true then 1 else -1 := by
        have h1 : numB 1 = true := by decide
        unfold gcdT
        simp [h1]
      rw [g1] at HG1
      rcases hna : numB a with _ | _
      · rw [if_neg (by rw [hna]; simp)] at HG1
        generalize invT a m = t at *
        obtain ⟨x, ok⟩ := t
        unfold T2 at HI HS
        dsimp only at HI HS
        clear g1 ha
        go_wp2_with fail
        refine (HI.out _).mono ?_
        rintro e w2 ⟨rfl, hb2⟩
        go_wp2_with fail
        refine (HS.out _).mono ?_
        rintro e w' ⟨rfl, rfl⟩
        go_wp2_with fail
        refine (HG1.out _).mono ?_
        rintro e w3 ⟨rfl, hb3⟩
        go_wp2
        go_returns
        exact ⟨rfl, below_on hb1 (below_on hb2 hb3)⟩
      · rw [if_pos hna] at HG1
        have hiv : invT a m = invV a m := by unfold invT; rw [if_pos (by simp [hna, hmB])]
        rw [hiv] at HI HS
        obtain ⟨a0, a1⟩ := numB_yes hna
        by_cases hg : Int.gcd a m = 1
        · obtain ⟨x, hx⟩ := isInv_exists (show 0 < m by omega) hg
          rw [invV_yes hx] at HI HS
          obtain ⟨hxi, hxe⟩ := inv_back (by omega) hx
          have HJ := Lib.hid fun W => InverseMod_any x m W
          have hjv : invT x m = (a % m, true) := by
            unfold invT
            rw [if_pos (by simp only [Bool.and_eq_true]; exact ⟨by simp [numB, wlB]; have := hx.1; have := hx.2.1; omega, hmB⟩), invV_yes hxi]
          rw [hjv] at HJ
          have HP := Lib.hid fun W => pbMod_any a m W (by omega) (by omega)
          have x0 := hx.1
          have x1 := hx.2.1
          have i0 := hxi.1
          have i1 := hxi.2.1
          generalize a % m = i at *
          obtain ⟨p, hp, p0, p1⟩ := mul_bd3 (a := i) (k := x) (A := 10000) (K := 10000) (by omega) (by omega) (by omega)
          have pn : 0 ≤ p := by rw [← hp]; exact Int.mul_nonneg i0 x0
          rw [hp] at hxe
          have ht1 : p.tmod m = 1 % m := by rw [Int.tmod_eq_emod_of_nonneg pn]; exact hxe
          have ht2 : (1 : Int).tmod m = 1 % m := Int.tmod_eq_emod_of_nonneg (by omega)
          have j0 := Int.emod_nonneg 1 (show m ≠ 0 by omega)
          have j1 := Int.emod_lt_of_pos 1 (show 0 < m by omega)
          generalize 1 % m = j at *
          have hwp : IntKind.i64.wrap p = p := by rw [IntKind.wrap_i64]; omega
          have hwj : IntKind.i64.wrap j = j := by rw [IntKind.wrap_i64]; omega
          have hmz : ¬ m = 0 := by omega
          have d1 : decide (0 ≤ x) = true := by simpa using x0
          have d2 : decide (x < m) = true := by simpa using x1
          unfold T2 at HI HS HJ
          dsimp only at HI HS HJ
          clear g1 hiv hg hx hxi hxe hjv ha
          go_wp2_with fail
          refine (HI.out _).mono ?_
          rintro e w2 ⟨rfl, hb2⟩
          go_wp2_with fail
          refine (HS.out _).mono ?_
          rintro e w' ⟨rfl, rfl⟩
          go_wp2_with fail
          refine (HG1.out _).mono ?_
          rintro e w3 ⟨rfl, hb3⟩
          go_wp2_with fail
          refine (HJ.out _).mono ?_
          rintro e w4 ⟨rfl, hb4⟩
          go_upto_region 11 with fail
          go_quiet ((go_at_call 41; exact Calls.quiet_of_same ((HP.out _).mono fun _ _ h => ⟨h.1, h.2.symm⟩)))
          go_wp2
          go_returns
          exact ⟨rfl, below_on hb1 (below_on hb2 (below_on hb3 (below_on hb4 (below_dq _ _))))⟩
        · rw [invV_no hg] at HI HS
          have HG2 := Lib.hid fun W => GcdOf_any a m W
          have g2 : gcdT a m = (Int.gcd a m : Nat) := by
            unfold gcdT
            rw [if_pos (by simp only [Bool.and_eq_true]; exact ⟨hna, by simp [numB, wlB]; omega⟩)]
          rw [g2] at HG2
          obtain ⟨g, hgg⟩ : ∃ g : Int, ((Int.gcd a m : Nat) : Int) = g := ⟨_, rfl⟩
          rw [hgg] at HG2
          have hg1 : ¬ g = 1 := by omega
          unfold T2 at HI HS
          dsimp only at HI HS
          clear g1 hiv hg ha g2 hgg
          go_wp2_with fail
          refine (HI.out _).mono ?_
          rintro e w2 ⟨rfl, hb2⟩
          go_wp2_with fail
          refine (HS.out _).mono ?_
          rintro e w' ⟨rfl, rfl⟩
          go_wp2_with fail
          refine (HG1.out _).mono ?_
          rintro e w3 ⟨rfl, hb3⟩
          go_wp2_with fail
          refine (HG2.out _).mono ?_
          rintro e w4 ⟨rfl, hb4⟩
          go_wp2
          go_returns
          exact ⟨by simp [hg1], below_on hb1 (below_on hb2 (below_on hb3 hb4))⟩
    · have hd12 : decide (m < 1) = true ∨ (decide (m < 1) = false ∧ decide (10000 < m) = true) := by
        by_cases h : m < 1
        · exact .inl (by simpa using h)
        · exact .inr ⟨by simpa using h, by simp; omega⟩
      generalize invT a m = t at *
      obtain ⟨x, ok⟩ := t
      unfold T2 at HI HS
      dsimp only at HI HS
      clear hv ha
      rcases hd12 with hd1 | ⟨hd1, hd2⟩
      all_goals
        go_wp2_with fail
        refine (HI.out _).mono ?_
        rintro e w2 ⟨rfl, hb2⟩
        go_wp2_with fail
        refine (HS.out _).mono ?_
        rintro e w' ⟨rfl, rfl⟩
        go_wp2
        go_returns
        exact ⟨rfl, below_on hb1 hb2⟩
  · have hn' : (1048576 : Int) < (n : Int) := by omega
    go_enter Try.func8, Try.ntmps8
    go_wp2
    go_ret
    exact ⟨rfl, Below.refl _ _⟩

end Go.Proofs.Ytjhfmlbnpdnddaa
