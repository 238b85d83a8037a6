/- The walk of the law on greatest common divisors. -/
import Derived.Test.YtjhfmlbnpdnddaaLNfloor
namespace Go.Proofs.Ytjhfmlbnpdnddaa
open Go.RowKit

set_option maxHeartbeats 2000000 in
theorem gcd_walk (sp : Option Addr) (n cap : Nat) (w : World) (h : Code w sp n cap) :
    Calls Try.prog 5 #[.slice sp n cap] w fun e w' => e = .returned (.bool true) ∧ Below w.heap.size w w' := by
  have hc1 := h.1
  have hc2 := h.2.1
  have H := Lib.hid h
  clear h
  by_cases hn : n ≤ 1048576
  · have hn' : ¬ (1048576 : Int) < (n : Int) := by omega
    go_enter Try.func5, Try.ntmps5
    go_wp2_with fail
    refine (DrawBezoutOf_t sp n cap w H.out).mono ?_
    rintro e w1 ⟨a, b, rfl, ha, hb, hb1⟩
    clear ha hb
    have HI := Lib.hid fun W => BezoutOf_any a b W
    have HS := Lib.hid fun W => specBezoutOf_any a b W
    have HG := Lib.hid fun W => GcdOf_any a b W
    have HD := Lib.hid fun W => specGcdOf_any a b W
    by_cases hv : (numB a && numB b && !(decide (a = 0) && decide (b = 0))) = true
    · have e1 : bezT a b = ((bezV a b).1, (bezV a b).2.1, (bezV a b).2.2, true) := by unfold bezT; rw [if_pos hv]
      simp only [Bool.and_eq_true, Bool.not_eq_true', Bool.and_eq_false_iff, decide_eq_false_iff_not] at hv
      obtain ⟨⟨hna, hnb⟩, hz⟩ := hv
      have hz' : ¬ (a = 0 ∧ b = 0) := by omega
      have hbz := bezV_is' hz'
      rw [e1] at HI HS
      generalize bezV a b = t at *
      obtain ⟨g, x, y⟩ := t
      dsimp only at *
      obtain ⟨a0, a1⟩ := numB_yes hna
      obtain ⟨b0, b1⟩ := numB_yes hnb
      have hg := hbz.1
      have e2 : gcdT a b = g := by unfold gcdT; rw [if_pos (by simp [hna, hnb]), ← hg]
      have e3 : gcdT b a = g := by unfold gcdT; rw [if_pos (by simp [hna, hnb]), Int.gcd_comm, ← hg]
      have HG2 := Lib.hid fun W => GcdOf_any b a W
      rw [e2] at HG HD
      rw [e3] at HG2
      have hg0 : 0 < g := by
        have : Int.gcd a b ≠ 0 := fun e => hz' (Int.gcd_eq_zero_iff.1 e)
        omega
      have hga : g ∣ a := by rw [hg]; exact Int.gcd_dvd_left a b
      have hgb : g ∣ b := by rw [hg]; exact Int.gcd_dvd_right a b
      have ta : a.tmod g = 0 := Int.tmod_eq_zero_of_dvd hga
      have tb : b.tmod g = 0 := Int.tmod_eq_zero_of_dvd hgb
      have hlin := hbz.2.1
      have hgz : ¬ g = 0 := by omega
      have d1 : decide (1 ≤ g) = true := by simp; omega
      unfold T4 at HI HS
      dsimp only at HI HS
      by_cases hb0 : b = 0
      · have hy0 : y = 0 := hbz.2.2.2 hb0
        subst hb0 hy0
        obtain ⟨p, hp⟩ : ∃ p, a * x = p := ⟨_, rfl⟩
        have hpg : p = g := by rw [← hp]; omega
        rw [hpg] at hp
        have hg1 : g ≤ 100000 := by
          have h1 : Int.gcd a 0 ∣ a.natAbs := Nat.gcd_dvd_left _ _
          have := Nat.le_of_dvd (by omega) h1
          omega
        have hwg : IntKind.i64.wrap g = g := by rw [IntKind.wrap_i64]; omega
        clear hbz hlin hg e1 e2 e3 hz hz' hga hgb hpg
        go_wp2_with fail
        refine (HI.out _).mono ?_
        rintro e w2 ⟨rfl, hb2⟩
        go_wp2_with fail
        refine (HS.out _).mono ?_
        rintro e w3 ⟨rfl, hb3⟩
        go_wp2_with fail
        refine (HG.out _).mono ?_
        rintro e w4 ⟨rfl, hb4⟩
        go_wp2_with fail
        refine (HD.out _).mono ?_
        rintro e w' ⟨rfl, rfl⟩
        go_wp2_with fail
        refine (HG2.out _).mono ?_
        rintro e w5 ⟨rfl, hb5⟩
        go_wp2
        go_returns
        exact ⟨rfl, below_on hb1 (below_on hb2 (below_on hb3 (below_on hb4 hb5)))⟩
      · obtain ⟨x0, x1⟩ := hbz.2.2.1 hb0
        obtain ⟨q, hq⟩ := hgb
        have hBg : (b.natAbs : Int) / g * g = b.natAbs := Int.ediv_mul_cancel (Int.dvd_natAbs.2 ⟨q, hq⟩)
        have hBle : (b.natAbs : Int) / g ≤ b.natAbs := Int.ediv_le_self _ (by omega)
        have hxg : x * g < b.natAbs := by
          rw [← hBg]
          exact Int.mul_lt_mul_of_pos_right x1 hg0
        have hxb : x ≤ 100000 := by omega
        have hg1 : g ≤ 100000 := by
          have h1 : Int.gcd a b ∣ b.natAbs := Nat.gcd_dvd_right _ _
          have := Nat.le_of_dvd (by omega) h1
          omega
        obtain ⟨p, hp, p0, p1⟩ := mul_bd3 (a := a) (k := x) (A := 100000) (K := 100000) (by omega) (by omega) (by omega)
        obtain ⟨r, hr⟩ : ∃ r, b * y = r := ⟨_, rfl⟩
        rw [hp, hr] at hlin
        obtain ⟨s, hs⟩ : ∃ s, x * g = s := ⟨_, rfl⟩
        have hs0 : 0 ≤ x * g := Int.mul_nonneg x0 (by omega)
        rw [hs] at hxg hs0
        have hyb : b ≠ 0 := hb0
        have hrb : r = g - p := by omega
        have hyn : y.natAbs ≤ r.natAbs := by
          rw [← hr, Int.natAbs_mul]
          exact Nat.le_mul_of_pos_left _ (by omega)
        have hwp : IntKind.i64.wrap p = p := by rw [IntKind.wrap_i64]; omega
        have hwr : IntKind.i64.wrap r = r := by rw [IntKind.wrap_i64]; omega
        have hws : IntKind.i64.wrap s = s := by rw [IntKind.wrap_i64]; omega
        have hwpr : IntKind.i64.wrap (p + r) = g := by rw [IntKind.wrap_i64]; omega
        have hprg : p + r = g := by omega
        have hbq : (b == 0) = false := by simpa using hb0
        have d2 : decide (0 ≤ x) = true := by simpa using x0
        have hmx : (b < 0 ∧ decide (s < -b) = true) ∨ (0 < b ∧ decide (s < b) = true) := by
          rcases Int.lt_or_le b 0 with h | h
          · exact .inl ⟨h, by simp; omega⟩
          · exact .inr ⟨by omega, by simp; omega⟩
        clear hbz hlin hg e1 e2 e3 hz hz' hga hq hBg hBle x1 hxg hyn hrb
        rcases hmx with ⟨hbs, d3⟩ | ⟨hbs, d3⟩
        all_goals
          go_wp2_with fail
          refine (HI.out _).mono ?_
          rintro e w2 ⟨rfl, hb2⟩
          go_wp2_with fail
          refine (HS.out _).mono ?_
          rintro e w3 ⟨rfl, hb3⟩
          go_wp2_with fail
          refine (HG.out _).mono ?_
          rintro e w4 ⟨rfl, hb4⟩
          go_wp2_with fail
          refine (HD.out _).mono ?_
          rintro e w' ⟨rfl, rfl⟩
          go_wp2_with fail
          refine (HG2.out _).mono ?_
          rintro e w5 ⟨rfl, hb5⟩
          go_wp2
          go_returns
          exact ⟨rfl, below_on hb1 (below_on hb2 (below_on hb3 (below_on hb4 hb5)))⟩
    · have e1 : bezT a b = (0, 0, 0, false) := by unfold bezT; rw [if_neg hv]
      have e2 : gcdT a b ≤ 0 := by
        unfold gcdT
        split
        · next h =>
          simp only [Bool.and_eq_true] at h
          simp only [Bool.and_eq_true, Bool.not_eq_true', Bool.and_eq_false_iff, decide_eq_false_iff_not, h.1, h.2, true_and] at hv
          have ha : a = 0 := by omega
          have hb : b = 0 := by omega
          subst ha hb
          simp
        · omega
      rw [e1] at HI HS
      generalize gcdT a b = d at *
      have d1 : decide (d ≤ 0) = true := by simpa using e2
      unfold T4 at HI HS
      dsimp only at HI HS
      clear hv e1 e2
      go_wp2_with fail
      refine (HI.out _).mono ?_
      rintro e w2 ⟨rfl, hb2⟩
      go_wp2_with fail
      refine (HS.out _).mono ?_
      rintro e w3 ⟨rfl, hb3⟩
      go_wp2_with fail
      refine (HG.out _).mono ?_
      rintro e w4 ⟨rfl, hb4⟩
      go_wp2_with (go_at_call 29; refine (HD.out _).mono ?_; rintro e w' ⟨rfl, rfl⟩)
      go_returns
      exact ⟨rfl, below_on hb1 (below_on hb2 (below_on hb3 hb4))⟩
  · have hn' : (1048576 : Int) < (n : Int) := by omega
    go_enter Try.func5, Try.ntmps5
    go_wp2
    go_ret
    exact ⟨rfl, Below.refl _ _⟩

end Go.Proofs.Ytjhfmlbnpdnddaa
