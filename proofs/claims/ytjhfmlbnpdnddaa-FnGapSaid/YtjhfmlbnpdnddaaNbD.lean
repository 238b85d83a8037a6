/- The program's Bezout. -/
import Derived.Test.YtjhfmlbnpdnddaaNbC
namespace Go.Proofs.Ytjhfmlbnpdnddaa
open Go.RowKit

theorem sign_of {n g : Int} (hn : (n.natAbs : Int) = g) (hg : 0 < g) : ∃ s : Int, n / g = s ∧ n % g = 0 ∧ s * n = g ∧ -1 ≤ s ∧ s ≤ 1 := by
  rcases Int.lt_or_le n 0 with h | h
  · have : n = -g := by omega
    subst this
    refine ⟨-1, ?_, by simp, by omega, by omega, by omega⟩
    rw [Int.neg_ediv_of_dvd (Int.dvd_refl g), Int.ediv_self (by omega)]
  · have : n = g := by omega
    subst this
    exact ⟨1, Int.ediv_self (by omega), by simp, by omega, by omega, by omega⟩
theorem below_dq (W : World) : ∀ k, Below W.heap.size W (W.drewN k)
  | 0 => Below.refl _ _
  | k + 1 => (below_dq W k).drew
theorem c3_dq {W : World} {x : Nat} {a b c : Int} (h : C3 W x a b c) (k : Nat) : C3 (W.drewN k) x a b c := c3_on h (below_dq W k)
theorem sign_bd {s x : Int} (h0 : -1 ≤ s) (h1 : s ≤ 1) (hx : -1000000 ≤ x ∧ x ≤ 1000000) : -1000000 ≤ s * x ∧ s * x ≤ 1000000 := by
  have : s = -1 ∨ s = 0 ∨ s = 1 := by omega
  rcases this with rfl | rfl | rfl <;> omega

set_option maxHeartbeats 1000000 in
theorem bezout_at (a b g x y : Int) (w : World) (ha : -1000000 ≤ a ∧ a ≤ 1000000) (hb : -1000000 ≤ b ∧ b ≤ 1000000) (h0 : ¬ (a = 0 ∧ b = 0)) (h : IsBez a b g x y) :
    Calls Try.prog 78 #[.int .i64 a, .int .i64 b] w fun e w' => e = .returned (.agg #[.int .i64 g, .int .i64 x, .int .i64 y]) ∧ Below w.heap.size w w' := by
  have hg : g = (Int.gcd a b : Nat) := h.1
  have hg0 : 0 < g := by
    have : Int.gcd a b ≠ 0 := fun e => h0 (Int.gcd_eq_zero_iff.1 e)
    omega
  have hg1 : g ≤ 1000000 := by
    have h1 : Int.gcd a b ∣ a.natAbs := Nat.gcd_dvd_left _ _
    have h2 : Int.gcd a b ∣ b.natAbs := Nat.gcd_dvd_right _ _
    by_cases hz : a = 0
    · have := Nat.le_of_dvd (by omega) h2; omega
    · have := Nat.le_of_dvd (by omega) h1; omega
  have H := Lib.hid h
  have HE := Lib.hid fun W => euclidMix_any a b W ha hb
  have HG := Lib.hid hg
  have HA := Lib.hid ha
  have H0 := Lib.hid h0
  clear h hg h0
  obtain ⟨hb0, hb1⟩ := hb
  go_enter Try.func78, Try.ntmps78
  go_wp2_with fail
  generalize hW : World.alloc w _ = W
  have hr : C3 W w.heap.size 0 0 0 := by subst hW; exact (by refine ⟨?_, ?_, ?_, ?_, ?_⟩ <;> first | (simp [go_sem]; done) | (simp; omega) | (intro o; simp [go_sem]; done))
  have hw0 : Below w.heap.size w W := by subst hW; go_grown
  clear hW
  refine (HE.out W).mono ?_
  rintro e w1 ⟨⟨n, X, Y, u, v, rfl, hEu⟩, hbw1⟩
  have hn := (eu_end hEu).trans HG.out.symm
  obtain ⟨s, e1, e2, e3, s0, s1⟩ := sign_of hn hg0
  have hn0 := hEu.2.2.2.2.2.1
  have hX0 := hEu.2.2.2.2.2.2.2.1
  have hY0 := hEu.2.2.2.2.2.2.2.2.1
  have bX := sign_bd s0 s1 hX0
  have bY := sign_bd s0 s1 hY0
  have HS := Lib.hid fun W => size_any n W (by omega) (by omega)
  rw [hn] at HS
  have HD := Lib.hid fun W => divided_any n g W hg0 (by omega) (by omega) (by omega)
  rw [e1, e2] at HD
  have HT := Lib.hid fun W => times_mix n X Y s W (by omega) (by omega) (by omega)
  rw [e3] at HT
  have hlin : a * (s * X) + b * (s * Y) = g := by
    rw [← e3, ← hEu.1]
    grind
  have hb00 : b = 0 → s * Y = 0 := fun hz => by rw [(hEu.2.2.2.2.2.2.2.2.2.2.2 hz).2, Int.mul_zero]
  generalize hX1 : s * X = X1 at *
  generalize hY1 : s * Y = Y1 at *
  clear hX1 hY1 hEu hn e1 e2 e3
  have HLIN := Lib.hid hlin
  have HB00 := Lib.hid hb00
  clear hlin hb00
  obtain ⟨bX0, bX1⟩ := bX
  have hr1 := c3_on hr hbw1
  have hB1 := below_on hw0 hbw1
  have hlt : w.heap.size < w1.heap.size := hr1.1
  clear hr
  go_wp2_with fail
  generalize hW2 : World.alloc w1 _ = W2
  have hm2 : C3 W2 w1.heap.size n X Y := by subst hW2; exact (by refine ⟨?_, ?_, ?_, ?_, ?_⟩ <;> first | (simp [go_sem]; done) | (simp; omega) | (intro o; simp [go_sem]; done))
  have hr2 : C3 W2 w.heap.size 0 0 0 := by subst hW2; exact c3_on hr1 (by go_grown)
  have hB2 : Below w.heap.size w W2 := by subst hW2; exact hB1.alloc (Nat.le_of_lt hlt) _
  clear hW2 hr1
  obtain ⟨m0, m1, m2, m3, m4⟩ := id hm2
  go_quiet (first | (go_at_call 102; exact Calls.quiet_of_same ((HS.out _).mono fun _ _ h => ⟨h.1, h.2.symm⟩)) | (go_at_call 86; exact Calls.quiet_of_same ((HD.out _).mono fun _ _ h => ⟨h.1, h.2.symm⟩)))
  go_wp2_with fail
  refine (HT.out _).mono ?_
  rintro e w3 ⟨rfl, hb3⟩
  have hB23 : Below W2.heap.size W2 w3 := below_on (w := W2) (below_dq _ _) hb3
  have hm3 := c3_on hm2 hB23
  have hr3 := c3_on hr2 hB23
  have hB3 := below_on hB2 hB23
  clear hm2 hr2 hB2 hB23 hb3 m0 m1 m2 m3 m4
  obtain ⟨m0, m1, m2, m3, m4⟩ := id hm3
  by_cases hbz : b = 0
  · subst hbz
    obtain ⟨rfl, rfl⟩ : x = X1 ∧ y = Y1 := by
      have h1 : IsBez a 0 g X1 Y1 := ⟨HG.out, HLIN.out, fun h => absurd rfl h, fun _ => HB00.out rfl⟩
      exact (isBez_unique H0.out H.out h1).2
    go_upto_region 5 with fail
    generalize hW4 : World.setCell _ _ _ = W4
    obtain ⟨hm4, hs4, ho4, hb4⟩ := three_put hW4 _ _ _ hm3
    have hr4 := ho4 _ _ _ _ (by omega) hr3
    have hB4 := hb4 w hB3 (by omega)
    clear hW4 ho4 hb4 m0 m1 m2 m3 m4
    obtain ⟨m0, m1, m2, m3, m4⟩ := id hm4
    obtain ⟨r0, r1, r2, r3, r4⟩ := id hr4
    go_wp2
    generalize hW5 : World.setCell _ _ _ = W5
    obtain ⟨⟨_, t1, t2, t3, _⟩, _, _, hb5⟩ := three_put hW5 _ _ _ hr4
    refine bodyPost_ret (v := .agg #[.int .i64 g, .int .i64 x, .int .i64 y]) (by simp [results, Try.results78, go_sem, t1, t2, t3]) rfl ⟨rfl, ?_⟩
    exact hb5 w hB4 (Nat.le_refl _)
  · obtain ⟨k0, dv, hbz'⟩ := bez_of hbz HG.out HLIN.out
    obtain ⟨_, hx, hy⟩ := isBez_unique H0.out H.out hbz'
    have hSB := Lib.hid fun W => size_any b W (by omega) (by omega)
    obtain ⟨B, hB⟩ : ∃ B : Int, (b.natAbs : Int) = B := ⟨_, rfl⟩
    have hBb : 0 ≤ B ∧ B ≤ 1000000 := by omega
    rw [hB] at hSB k0 dv hx hy
    obtain ⟨k, hk⟩ : ∃ k, B / g = k := ⟨_, rfl⟩
    have hkt : B.tdiv g = k := by rw [← hk]; exact Int.tdiv_eq_ediv_of_nonneg hBb.1
    have hkb : k ≤ B := by rw [← hk]; exact Int.ediv_le_self g hBb.1
    rw [hk] at k0 dv hx hy
    have hDV := Lib.hid fun W => divided_any X1 k W k0 (by omega) (by omega) (by omega)
    rw [← hx] at hDV dv hy
    have hx0 : 0 ≤ x := by rw [hx]; exact Int.emod_nonneg _ (by omega)
    have hx1 : x < k := by rw [hx]; exact Int.emod_lt_of_pos _ k0
    obtain ⟨p, hp⟩ : ∃ p, a * x = p := ⟨_, rfl⟩
    have hpb : -1000000000000 ≤ p ∧ p ≤ 1000000000000 := by rw [← hp]; exact mul_bd2 (A := 1000000) (K := 1000000) (by have := HA.out; omega) (by have := HA.out; omega) (by omega) (by omega) (by omega)
    obtain ⟨hp0, hp1⟩ := hpb
    rw [hp] at dv hy
    have hyt : (g - p).tdiv b = y := by rw [hy]; exact Int.tdiv_eq_ediv_of_dvd dv
    have hyb : y.natAbs ≤ (g - p).natAbs := by rw [← hyt]; exact tdiv_le _ _
    have hwk : IntKind.i64.wrap k = k := by rw [IntKind.wrap_i64]; omega
    have hwy : IntKind.i64.wrap y = y := by rw [IntKind.wrap_i64]; omega
    have hwp : IntKind.i64.wrap p = p := by rw [IntKind.wrap_i64]; omega
    have hgz : ¬ g = 0 := by omega
    clear hx hy dv hbz' hB hk hyb HLIN HB00 hBb
    go_upto_region 6 with fail
    generalize hW4 : World.setCell _ _ _ = W4
    obtain ⟨hm4, hs4, ho4, hb4⟩ := three_put hW4 _ _ _ hm3
    have hr4 := ho4 _ _ _ _ (by omega) hr3
    have hB4 := hb4 w hB3 (by omega)
    clear hW4 ho4 hb4 m0 m1 m2 m3 m4
    obtain ⟨m0, m1, m2, m3, m4⟩ := id hm4
    obtain ⟨r0, r1, r2, r3, r4⟩ := id hr4
    go_quiet (first | (go_at_call 102; exact Calls.quiet_of_same ((hSB.out _).mono fun _ _ h => ⟨h.1, h.2.symm⟩)) | (go_at_call 86; exact Calls.quiet_of_same ((hDV.out _).mono fun _ _ h => ⟨h.1, h.2.symm⟩)))
    go_wp2_with fail
    go_region
    generalize hW6 : World.setCell (World.setCell (World.setCell _ _ _) _ _) _ _ = W6
    obtain ⟨⟨_, t1, t2, t3, _⟩, _, _, hb6⟩ := three_put hW6 _ _ _ (c3_dq hr4 _)
    have hB6 := hb6 w (below_on hB4 (below_dq W4 _)) (Nat.le_refl _)
    clear hW6
    go_wp2
    refine bodyPost_ret (v := .agg #[.int .i64 g, .int .i64 x, .int .i64 y]) (by simp [results, Try.results78, go_sem, t1, t2, t3]) rfl ⟨rfl, ?_⟩
    exact hB6

end Go.Proofs.Ytjhfmlbnpdnddaa
