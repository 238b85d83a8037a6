/- The program's gaps, counts and first solutions. -/
import Derived.Test.YtjhfmlbnpdnddaaNbF
import Derived.Test.YtjhfmlbnpdnddaaNumE
namespace Go.Proofs.Ytjhfmlbnpdnddaa
open Go.RowKit

noncomputable def lsT (a b c : Int) : Int × Int × Bool := if (wlB a 100 && wlB b 100 && wlB c 10000) = true then lsV a b c else (0, 0, false)

theorem GreatestGap_any (a b : Int) (w : World) :
    Calls Try.prog 55 #[.int .i64 a, .int .i64 b] w fun e w' => e = .returned (.int .i64 (gapT a b)) ∧ Below w.heap.size w w' := by
  rcases ha : pcB a with _ | _
  · have e : gapT a b = -2 := by unfold gapT; rw [if_neg (by simp [ha])]
    rw [e]
    go_enter Try.func55, Try.ntmps55
    go_wp2_with (go_at_call 94; refine (isPositiveCoef_any _ _).mono ?_; rintro e w' ⟨rfl, rfl⟩)
    go_returns
    exact ⟨rfl, Below.refl _ _⟩
  rcases hb : pcB b with _ | _
  · have e : gapT a b = -2 := by unfold gapT; rw [if_neg (by simp [hb])]
    rw [e]
    go_enter Try.func55, Try.ntmps55
    go_wp2_with (go_at_call 94; refine (isPositiveCoef_any _ _).mono ?_; rintro e w' ⟨rfl, rfl⟩)
    go_returns
    exact ⟨rfl, Below.refl _ _⟩
  obtain ⟨a0, a1⟩ := pcB_yes ha
  obtain ⟨b0, b1⟩ := pcB_yes hb
  have HS := Lib.hid fun W => commonDivisor_any a b W (by omega) (by omega) (by omega) (by omega)
  by_cases hg : Int.gcd a b = 1
  · have e : gapT a b = (a - 1) * b - a := by
      unfold gapT
      rw [if_pos (by simp [ha, hb, hg]), Int.sub_mul]
      omega
    rw [e]
    rw [hg] at HS
    obtain ⟨p, hp⟩ : ∃ p, (a - 1) * b = p := ⟨_, rfl⟩
    have hpb := mul_bd (a := a - 1) (x := b) (A := 100) (X := 100) (by omega) (by omega) (by omega) (by omega) (by omega)
    rw [hp] at hpb ⊢
    obtain ⟨p0, p1⟩ := hpb
    have hwp : IntKind.i64.wrap p = p := by rw [IntKind.wrap_i64]; omega
    clear e hg
    go_enter Try.func55, Try.ntmps55
    go_wp2_with (go_at_call 94; refine (isPositiveCoef_any _ _).mono ?_; rintro e w' ⟨rfl, rfl⟩)
    refine (HS.out _).mono ?_
    rintro e w1 ⟨rfl, hb1⟩
    go_wp2
    go_returns
    exact ⟨rfl, hb1⟩
  · have e : gapT a b = -2 := by unfold gapT; rw [if_neg (by simp [hg])]
    rw [e]
    obtain ⟨g, hgg⟩ : ∃ g : Int, ((Int.gcd a b : Nat) : Int) = g := ⟨_, rfl⟩
    have hg1 : ¬ g = 1 := by omega
    rw [hgg] at HS
    clear e hg hgg
    go_enter Try.func55, Try.ntmps55
    go_wp2_with (go_at_call 94; refine (isPositiveCoef_any _ _).mono ?_; rintro e w' ⟨rfl, rfl⟩)
    refine (HS.out _).mono ?_
    rintro e w1 ⟨rfl, hb1⟩
    go_wp2
    go_returns
    exact ⟨rfl, hb1⟩

theorem roundedUp_at (n d t : Int) (w : World) (hn : 0 < n ∧ n ≤ 1000000000000) (hd : 0 < d ∧ d ≤ 1000000000000) (h1 : n ≤ d * t) (h2 : d * (t - 1) < n) :
    Calls Try.prog 110 #[.int .i64 n, .int .i64 d] w fun e w' => e = .returned (.int .i64 t) ∧ w = w' := by
  have ht := up_is hn.1 hd.1 h1 h2
  obtain ⟨n0, n1⟩ := hn
  obtain ⟨d0, d1⟩ := hd
  have hq0 : 0 ≤ n.tdiv d := Int.tdiv_nonneg (by omega) (by omega)
  have hq1 := tdiv_le n d
  have hm0 := Int.tmod_nonneg d (show 0 ≤ n by omega)
  have hm1 := Int.tmod_lt_of_pos n d0
  have hdz : ¬ d = 0 := by omega
  obtain ⟨q, hq⟩ : ∃ q, n.tdiv d = q := ⟨_, rfl⟩
  obtain ⟨r, hr⟩ : ∃ r, n.tmod d = r := ⟨_, rfl⟩
  rw [hq] at ht hq0 hq1
  rw [hr] at ht hm0 hm1
  have hq2 : q ≤ 1000000000000 := by omega
  clear h1 h2 hq1
  by_cases hr0 : r = 0
  · subst hr0
    rw [if_pos rfl] at ht
    subst ht
    go_enter Try.func110, Try.ntmps110
    go_wp2
    go_returns
    exact ⟨rfl, rfl⟩
  · rw [if_neg hr0] at ht
    subst ht
    go_enter Try.func110, Try.ntmps110
    go_wp2
    go_returns
    exact ⟨rfl, rfl⟩

set_option maxHeartbeats 1000000 in
theorem leastPair_any (a b c : Int) (w : World) (ha : -100 ≤ a ∧ a ≤ 100) (hb : -100 ≤ b ∧ b ≤ 100) (hc : -10000 ≤ c ∧ c ≤ 10000) (hb0 : b ≠ 0) :
    Calls Try.prog 92 #[.int .i64 a, .int .i64 b, .int .i64 c] w fun e w' => e = .returned (T3 (lsV a b c)) ∧ Below w.heap.size w w' := by
  have HZ := Lib.hid fun W => size_any b W (by omega) (by omega)
  obtain ⟨B, hB⟩ : ∃ B : Int, (b.natAbs : Int) = B := ⟨_, rfl⟩
  have hB0 : 0 < B := by omega
  have hB1 : B ≤ 100 := by omega
  rw [hB] at HZ
  by_cases hd : ((Int.gcd a B : Nat) : Int) ∣ c
  · obtain ⟨x, hx⟩ := isSol_exists (a := a) (b := c) hB0 hd
    have HS := Lib.hid fun W => solved_yes a c B x _ W (by omega) (by omega) (by omega) hx
    have hx0 := hx.2.1
    have hx1 := hx.2.2.1
    obtain ⟨s, hs⟩ : ∃ s, B / ((Int.gcd a B : Nat) : Int) = s := ⟨_, rfl⟩
    rw [hs] at HS hx hx1
    rw [← hB] at hx
    have hnow := pair_now hb0 hx
    have hnev := pair_never hb0 hx
    have hlat := fun t => pair_later (t := t) hb0 hx
    obtain ⟨s0, s1, e1, e2, _⟩ := pair_parts hb0 hx
    rw [hB] at s1
    obtain ⟨p, hp⟩ : ∃ p, a * x = p := ⟨_, rfl⟩
    have hpb := mul_bd2 (a := a) (k := x) (A := 100) (K := 100) (by omega) (by omega) (by omega) (by omega) (by omega)
    obtain ⟨p', hp'⟩ : ∃ p, -a * s = p := ⟨_, rfl⟩
    have hpb' := mul_bd2 (a := -a) (k := s) (A := 100) (K := 100) (by omega) (by omega) (by omega) (by omega) (by omega)
    simp only [hp, hp'] at hpb hpb' hnow hnev hlat e1 e2
    obtain ⟨y, hy⟩ : ∃ y, (c - p).tdiv b = y := ⟨_, rfl⟩
    have hyb := tdiv_le (c - p) b
    obtain ⟨r, hr⟩ : ∃ r, p'.tdiv b = r := ⟨_, rfl⟩
    have hrb := tdiv_le p' b
    simp only [hy, hr] at hnow hnev hlat e1 e2 hyb hrb
    obtain ⟨p0, p1⟩ := hpb
    obtain ⟨p0', p1'⟩ := hpb'
    have hy0 : -20000 ≤ y ∧ y ≤ 20000 := by omega
    have hr0 : -10000 ≤ r ∧ r ≤ 10000 := by omega
    obtain ⟨y0, y1⟩ := hy0
    obtain ⟨r0, r1⟩ := hr0
    obtain ⟨a0, a1⟩ := ha
    obtain ⟨b0, b1⟩ := hb
    obtain ⟨c0, c1⟩ := hc
    have hwp : IntKind.i64.wrap p = p := by rw [IntKind.wrap_i64]; omega
    have hwp' : IntKind.i64.wrap p' = p' := by rw [IntKind.wrap_i64]; omega
    have hwy : IntKind.i64.wrap y = y := by rw [IntKind.wrap_i64]; omega
    have hwr : IntKind.i64.wrap r = r := by rw [IntKind.wrap_i64]; omega
    clear hx hd hs hyb hrb e1 e2
    by_cases hyn : 0 ≤ y
    · rw [lsV_yes (hnow hyn)]
      clear hnow hnev hlat
      go_enter Try.func92, Try.ntmps92
      go_wp2_with (go_at_call 102; refine (HZ.out _).mono ?_; rintro e w' ⟨rfl, rfl⟩)
      refine (HS.out _).mono ?_
      rintro e w1 ⟨rfl, hb1⟩
      go_upto_region 4 with fail
      go_quiet (fail)
      go_wp2
      go_returns
      exact ⟨rfl, below_on hb1 (below_dq _ _)⟩
    · by_cases hrp : r ≤ 0
      · rw [lsV_no (hnev (by omega) hrp)]
        clear hnow hnev hlat
        go_enter Try.func92, Try.ntmps92
        go_wp2_with (go_at_call 102; refine (HZ.out _).mono ?_; rintro e w' ⟨rfl, rfl⟩)
        refine (HS.out _).mono ?_
        rintro e w1 ⟨rfl, hb1⟩
        go_upto_region 4 with fail
        go_quiet (fail)
        go_wp2
        go_returns
        exact ⟨rfl, below_on hb1 (below_dq _ _)⟩
      · obtain ⟨t, t1, t2, t3, t4⟩ := up_exists (n := -y) (d := r) (by omega) (by omega)
        have hl := hlat t (by omega) t1 t2 (by omega)
        rw [lsV_yes hl]
        have HU := Lib.hid fun W => roundedUp_at (-y) r t W (by omega) (by omega) t1 t2
        have hyl := hl.2.1
        obtain ⟨i, hi⟩ : ∃ i, t * s = i := ⟨_, rfl⟩
        have hib := mul_bd (a := t) (x := s) (A := 20000) (X := 100) (by omega) (by omega) (by omega) (by omega) (by omega)
        obtain ⟨j, hj⟩ : ∃ j, t * r = j := ⟨_, rfl⟩
        have hjb := mul_bd (a := t) (x := r) (A := 20000) (X := 10000) (by omega) (by omega) (by omega) (by omega) (by omega)
        rw [hi] at hib ⊢
        rw [hj] at hjb hyl ⊢
        obtain ⟨i0, i1⟩ := hib
        obtain ⟨j0, j1⟩ := hjb
        have hwi : IntKind.i64.wrap i = i := by rw [IntKind.wrap_i64]; omega
        have hwj : IntKind.i64.wrap j = j := by rw [IntKind.wrap_i64]; omega
        clear hnow hnev hlat hl t1 t2
        go_enter Try.func92, Try.ntmps92
        go_wp2_with (go_at_call 102; refine (HZ.out _).mono ?_; rintro e w' ⟨rfl, rfl⟩)
        refine (HS.out _).mono ?_
        rintro e w1 ⟨rfl, hb1⟩
        go_upto_region 4 with fail
        go_quiet (fail)
        go_wp2_with (go_at_call 110; refine (HU.out _).mono ?_; rintro e w' ⟨rfl, rfl⟩)
        go_returns
        exact ⟨rfl, below_on hb1 (below_dq _ _)⟩
  · have hns : ¬ Solves a b c := fun h => hd (by
      have := solves_dvd h
      have e : Int.gcd a B = Int.gcd a b := by rw [← hB]; unfold Int.gcd; simp
      rwa [e])
    rw [lsV_no hns]
    have HS := Lib.hid fun W => solved_no a c B W (by omega) (by omega) hd
    clear hns hd
    go_enter Try.func92, Try.ntmps92
    go_wp2_with (go_at_call 102; refine (HZ.out _).mono ?_; rintro e w' ⟨rfl, rfl⟩)
    refine (HS.out _).mono ?_
    rintro e w1 ⟨rfl, hb1⟩
    go_wp2
    go_returns
    exact ⟨rfl, hb1⟩

end Go.Proofs.Ytjhfmlbnpdnddaa
