/- The program's gaps, counts and first solutions. -/
import Derived.Test.YtpheihejgnlanaaDoorNbF
import Derived.Test.YtpheihejgnlanaaDoorNumE
namespace Go.Proofs.YtpheihejgnlanaaDoor
open Go.RowKit

noncomputable def lsT (a b c : Int) : Int × Int × Bool := if (wlB a 100 && wlB b 100 && wlB c 10000) = true then lsV a b c else (0, 0, false)

theorem GreatestGap_any (a b : Int) (w : World) :
    Calls Tryd.prog 37 #[.int .i64 a, .int .i64 b] w fun e w' => e = .returned (.int .i64 (gapT a b)) ∧ Below w.heap.size w w' := by
  rcases ha : pcB a with _ | _
  · have e : gapT a b = -2 := by unfold gapT; rw [if_neg (by simp [ha])]
    rw [e]
    go_enter Tryd.func37, Tryd.ntmps37
    go_wp2_with (go_at_call 76; refine (isPositiveCoef_any _ _).mono ?_; rintro e w' ⟨rfl, rfl⟩)
    go_returns
    exact ⟨rfl, Below.refl _ _⟩
  rcases hb : pcB b with _ | _
  · have e : gapT a b = -2 := by unfold gapT; rw [if_neg (by simp [hb])]
    rw [e]
    go_enter Tryd.func37, Tryd.ntmps37
    go_wp2_with (go_at_call 76; refine (isPositiveCoef_any _ _).mono ?_; rintro e w' ⟨rfl, rfl⟩)
    go_returns
    exact ⟨rfl, Below.refl _ _⟩
  obtain ⟨a0, a1⟩ := pcB_yes ha
  obtain ⟨b0, b1⟩ := pcB_yes hb
  have HS := Lib.hid fun W => commonDivisor_any a b W (by omega) (by omega) (by omega) (by omega)
  by_cases hg : Int.gcd a b = 1
  · have e : gapT a b = (a - 1) * b - a := by
      unfold gapT
      rw [if_pos (by simp [ha, hb, hg]), Int.sub_mul]
      omega
    rw [e]
    rw [hg] at HS
    obtain ⟨p, hp⟩ : ∃ p, (a - 1) * b = p := ⟨_, rfl⟩
    have hpb := mul_bd (a := a - 1) (x := b) (A := 100) (X := 100) (by omega) (by omega) (by omega) (by omega) (by omega)
    rw [hp] at hpb ⊢
    obtain ⟨p0, p1⟩ := hpb
    have hwp : IntKind.i64.wrap p = p := by rw [IntKind.wrap_i64]; omega
    clear e hg
    go_enter Tryd.func37, Tryd.ntmps37
    go_wp2_with (go_at_call 76; refine (isPositiveCoef_any _ _).mono ?_; rintro e w' ⟨rfl, rfl⟩)
    refine (HS.out _).mono ?_
    rintro e w1 ⟨rfl, hb1⟩
    go_wp2
    go_returns
    exact ⟨rfl, hb1⟩
  · have e : gapT a b = -2 := by unfold gapT; rw [if_neg (by simp [hg])]
    rw [e]
    obtain ⟨g, hgg⟩ : ∃ g : Int, ((Int.gcd a b : Nat) : Int) = g := ⟨_, rfl⟩
    have hg1 : ¬ g = 1 := by omega
    rw [hgg] at HS
    clear e hg hgg
    go_enter Tryd.func37, Tryd.ntmps37
    go_wp2_with (go_at_call 76; refine (isPositiveCoef_any _ _).mono ?_; rintro e w' ⟨rfl, rfl⟩)
    refine (HS.out _).mono ?_
    rintro e w1 ⟨rfl, hb1⟩
    go_wp2
    go_returns
    exact ⟨rfl, hb1⟩

theorem roundedUp_at (n d t : Int) (w : World) (hn : 0 < n ∧ n ≤ 1000000000000) (hd : 0 < d ∧ d ≤ 1000000000000) (h1 : n ≤ d * t) (h2 : d * (t - 1) < n) :
    Calls Tryd.prog 63 #[.int .i64 n, .int .i64 d] w fun e w' => e = .returned (.int .i64 t) ∧ w = w' := by
  have ht := up_is hn.1 hd.1 h1 h2
  obtain ⟨n0, n1⟩ := hn
  obtain ⟨d0, d1⟩ := hd
  have hq0 : 0 ≤ n.tdiv d := Int.tdiv_nonneg (by omega) (by omega)
  have hq1 := tdiv_le n d
  have hm0 := Int.tmod_nonneg d (show 0 ≤ n by omega)
  have hm1 := Int.tmod_lt_of_pos n d0
  have hdz : ¬ d = 0 := by omega
  obtain ⟨q, hq⟩ : ∃ q, n.tdiv d = q := ⟨_, rfl⟩
  obtain ⟨r, hr⟩ : ∃ r, n.tmod d = r := ⟨_, rfl⟩
  rw [hq] at ht hq0 hq1
  rw [hr] at ht hm0 hm1
  have hq2 : q ≤ 1000000000000 := by omega
  clear h1 h2 hq1
  by_cases hr0 : r = 0
  · subst hr0
    rw [if_pos rfl] at ht
    subst ht
    go_enter Tryd.func63, Tryd.ntmps63
    go_wp2
    go_returns
    exact ⟨rfl, rfl⟩
  · rw [if_neg hr0] at ht
    subst ht
    go_enter Tryd.func63, Tryd.ntmps63
    go_wp2
    go_returns
    exact ⟨rfl, rfl⟩

end Go.Proofs.YtpheihejgnlanaaDoor
