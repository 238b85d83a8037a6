/- The walk of the law on counts of solutions. -/
import Derived.Test.YtjhfmlbnpdnddaaLNsolv
import Derived.Test.YtjhfmlbnpdnddaaLNcong
namespace Go.Proofs.Ytjhfmlbnpdnddaa
open Go.RowKit

theorem cntT_yes {a b c : Int} (h : (pcB a && pcB b && wlB c 10000) = true) : cntT a b c = (cntV a b c : Nat) := by unfold cntT; rw [if_pos h]
theorem cntT_no {a b c : Int} (h : ¬ (pcB a && pcB b && wlB c 10000) = true) : cntT a b c = -1 := by unfold cntT; rw [if_neg h]
theorem pc_wl {a : Int} (h : pcB a = true) : wlB a 100 = true := by have := pcB_yes h; simp [wlB]; omega

/-- What the law says of a count, a least common multiple more. -/
theorem count_more {a b c : Int} (ha : 1 ≤ a ∧ a ≤ 100) (hb : 1 ≤ b ∧ b ≤ 100) : ∃ g p q t : Int, ((Int.gcd a b : Nat) : Int) = g ∧ 0 < g ∧ a * b = p ∧ 0 ≤ p ∧ p ≤ 10000 ∧ p.tdiv g = q ∧ 0 ≤ q ∧ q ≤ 10000 ∧ c.tmod g = t ∧ (0 ≤ c → (t = 0 → cntV a b (c + q) = cntV a b c + 1) ∧ (¬ t = 0 → cntV a b (c + q) = 0)) := by
  have hgp := gcd_pos_r (a := a) (m := b) (by omega)
  have hp := mul_bd (a := a) (x := b) (A := 100) (X := 100) (by omega) (by omega) (by omega) (by omega) (by omega)
  have hp0 : 0 ≤ a * b := Int.mul_nonneg (by omega) (by omega)
  have hga := Int.gcd_dvd_left a b
  have hgb := Int.gcd_dvd_right a b
  have hgab : ((Int.gcd a b : Nat) : Int) ∣ a * b := Int.dvd_mul_of_dvd_left hga
  have hq : (a * b).tdiv ((Int.gcd a b : Nat) : Int) = a * b / ((Int.gcd a b : Nat) : Int) := Int.tdiv_eq_ediv_of_nonneg hp0
  refine ⟨_, _, _, _, rfl, by omega, rfl, hp0, by omega, hq, Int.ediv_nonneg hp0 (by omega), Int.le_trans (Int.ediv_le_self _ hp0) (by omega), rfl, fun hc => ⟨fun ht => cntV_more (by omega) (by omega) hc (Int.dvd_of_tmod_eq_zero ht), fun ht => ?_⟩⟩
  apply Nat.eq_zero_of_not_pos
  intro h
  have hs := solves_dvd ((cntV_pos (by omega) (by omega)).1 h)
  apply ht
  apply Int.tmod_eq_zero_of_dvd
  have hq2 : ((Int.gcd a b : Nat) : Int) ∣ a * b / ((Int.gcd a b : Nat) : Int) := by
    rw [Int.mul_ediv_assoc _ hgb]
    exact Int.dvd_mul_of_dvd_left hga
  have : c = (c + a * b / ((Int.gcd a b : Nat) : Int)) - a * b / ((Int.gcd a b : Nat) : Int) := by omega
  rw [this]
  exact Int.dvd_sub hs hq2

set_option maxRecDepth 100000 in
set_option maxHeartbeats 4000000 in
theorem countSolutions_walk (sp : Option Addr) (n cap : Nat) (w : World) (h : Code w sp n cap) :
    Calls Try.prog 13 #[.slice sp n cap] w fun e w' => e = .returned (.bool true) ∧ Below w.heap.size w w' := by
  have hc1 := h.1
  have hc2 := h.2.1
  have H := Lib.hid h
  clear h
  by_cases hn : n ≤ 1048576
  · have hn' : ¬ (1048576 : Int) < (n : Int) := by omega
    go_enter Try.func13, Try.ntmps13
    go_wp2_with fail
    refine (DrawCount_t sp n cap w H.out).mono ?_
    rintro e w1 ⟨a, b, c, rfl, ha, hb, hc, hb1⟩
    clear ha hb hc
    have HI := Lib.hid fun W => CountSolutions_any a b c W
    have HS := Lib.hid fun W => specCount_any a b c W
    by_cases hv : (pcB a && pcB b && wlB c 10000) = true
    · have ec := cntT_yes hv
      rw [ec] at HI HS
      simp only [Bool.and_eq_true] at hv
      obtain ⟨⟨hpa, hpb⟩, hwc⟩ := hv
      obtain ⟨a0, a1⟩ := pcB_yes hpa
      obtain ⟨b0, b1⟩ := pcB_yes hpb
      obtain ⟨c0, c1⟩ := wl_yes hwc
      have HL := Lib.hid fun W => LeastSolution_any a b c W
      rw [lsT_yes (by simp only [smB, Bool.and_eq_true]; exact ⟨⟨pc_wl hpa, pc_wl hpb⟩, hwc⟩)] at HL
      have HG := Lib.hid fun W => GcdOf_any a b W
      rw [gcdT_nonneg (by simp [numB, wlB]; omega)] at HG
      have HR := Lib.hid fun W => CountSolutions_any b a c W
      rw [cntT_yes (by simp [hpa, hpb, hwc]), cntV_comm (by omega) (by omega)] at HR
      have HM := Lib.hid fun z W => CountSolutions_any a b z W
      obtain ⟨g, p, q, t, hg, g0, hp, p0, p1, hq, q0, q1, ht, hmore⟩ := count_more (c := c) ⟨a0, a1⟩ ⟨b0, b1⟩
      rw [hg] at HG
      have htb := tmod_small (n := c) g0
      rw [ht] at htb
      have hgl : g ≤ 100 := by
        rw [← hg]
        have h1 : Int.gcd a b ∣ b.natAbs := Nat.gcd_dvd_right _ _
        have := Nat.le_of_dvd (by omega) h1
        omega
      have hpos : 0 < cntV a b c ↔ Solves a b c := cntV_pos (by omega) (by omega)
      have hls : ∃ x y : Int, ∃ ok : Bool, lsV a b c = (x, y, ok) ∧ decide (0 < ((cntV a b c : Nat) : Int)) = ok := by
        by_cases hs : Solves a b c
        · obtain ⟨x, y, hl⟩ := isLeast_exists hs
          exact ⟨x, y, true, lsV_yes hl, by have := hpos.2 hs; simp; omega⟩
        · exact ⟨0, 0, false, lsV_no hs, by have : ¬ 0 < cntV a b c := fun h => hs (hpos.1 h); simp; omega⟩
      obtain ⟨x, y, ok, hlv, hok⟩ := hls
      rw [hlv] at HL
      have hwp : IntKind.i64.wrap p = p := by rw [IntKind.wrap_i64]; omega
      have hwq : IntKind.i64.wrap q = q := by rw [IntKind.wrap_i64]; omega
      have hwt : IntKind.i64.wrap t = t := by rw [IntKind.wrap_i64]; omega
      have hgz : ¬ g = 0 := by omega
      have hcn : (0 : Int) ≤ ((cntV a b c : Nat) : Int) := Int.natCast_nonneg _
      have hcl : cntV a b c ≤ 10001 := by
        by_cases h : 0 ≤ c
        · have hq0 : 0 ≤ c / a := Int.ediv_nonneg h (by omega)
          have hq1 : c / a ≤ c := Int.ediv_le_self _ h
          rw [cntV_eq h]
          have := cntP_le (cP a b c) ((c / a).toNat + 1)
          omega
        · rw [cntV_neg (by omega)]; omega
      have hfin : ∃ z m2 : Int, (c + q ≤ 10000 ∧ z = c + q ∨ 10000 < c + q ∧ z = 10000) ∧ cntT a b z = m2 ∧ -1 ≤ m2 ∧ m2 ≤ 20000 ∧ (decide (c < 0) = true ∨ (decide (c < 0) = false ∧ decide (10000 < c + q) = true) ∨ (decide (c < 0) = false ∧ decide (10000 < c + q) = false ∧ (m2 == ((cntV a b c : Nat) : Int) + 1) = true) ∨ (decide (c < 0) = false ∧ decide (10000 < c + q) = false ∧ (m2 == ((cntV a b c : Nat) : Int) + 1) = false ∧ (t == 0) = false ∧ ¬ t = 0 ∧ m2 = 0)) := by
        have hb2 : ∀ z : Int, z ≤ 10000 → -1 ≤ cntT a b z ∧ cntT a b z ≤ 20000 := fun z hz => by
          unfold cntT
          split
          · refine ⟨by omega, ?_⟩
            by_cases h : 0 ≤ z
            · have hq0 : 0 ≤ z / a := Int.ediv_nonneg h (by omega)
              have hq1 : z / a ≤ z := Int.ediv_le_self _ h
              rw [cntV_eq h]
              have := cntP_le (cP a b z) ((z / a).toNat + 1)
              omega
            · rw [cntV_neg (by omega)]; omega
          · omega
        by_cases h1 : c + q ≤ 10000
        · refine ⟨c + q, _, .inl ⟨h1, rfl⟩, rfl, (hb2 _ h1).1, (hb2 _ h1).2, ?_⟩
          by_cases h2 : c < 0
          · exact .inl (by simpa using h2)
          · have h3 : decide (10000 < c + q) = false := by simp; omega
            have h4 : decide (c < 0) = false := by simp; omega
            obtain ⟨k1, k2⟩ := hmore (by omega)
            have h5 : cntT a b (c + q) = (cntV a b (c + q) : Nat) := cntT_yes (by simp only [Bool.and_eq_true]; exact ⟨⟨hpa, hpb⟩, by simp [wlB]; omega⟩)
            by_cases h6 : t = 0
            · exact .inr (.inr (.inl ⟨h4, h3, by rw [h5, k1 h6]; simp⟩))
            · have h7 : cntT a b (c + q) = 0 := by rw [h5, k2 h6]; rfl
              exact .inr (.inr (.inr ⟨h4, h3, by rw [h7]; simp; omega, by simpa using h6, h6, h7⟩))
        · refine ⟨10000, _, .inr ⟨by omega, rfl⟩, rfl, (hb2 _ (by omega)).1, (hb2 _ (by omega)).2, ?_⟩
          by_cases h2 : c < 0
          · exact .inl (by simpa using h2)
          · exact .inr (.inl ⟨by simp; omega, by simp; omega⟩)
      obtain ⟨z, m2, hz, hm2, m20, m21, hend⟩ := hfin
      have HM2 := Lib.hid (show ∀ W, Calls Try.prog 52 #[.int .i64 a, .int .i64 b, .int .i64 z] W fun e w' => e = .returned (.int .i64 m2) ∧ Below W.heap.size W w' from fun W => by rw [← hm2]; exact HM.out z W)
      unfold T3 at HL
      dsimp only at HL
      have hNl : ((cntV a b c : Nat) : Int) ≤ 10001 := by omega
      generalize ((cntV a b c : Nat) : Int) = N at *
      have hN0 : decide (N < 0) = false := by simp; omega
      have hend' : (decide (c < 0) = true ∨ (decide (c < 0) = false ∧ decide (10000 < c + q) = true) ∨ (decide (c < 0) = false ∧ decide (10000 < c + q) = false ∧ (m2 == N + 1) = true) ∨ (decide (c < 0) = false ∧ decide (10000 < c + q) = false ∧ (m2 == N + 1) = false ∧ (t == 0) = false ∧ ¬ t = 0 ∧ m2 = 0)) := hend
      clear HM hm2 hmore hlv hpos hg hend ec htb hcl
      rcases hz with ⟨hz1, rfl⟩ | ⟨hz1, rfl⟩ <;> rcases hend' with e1 | ⟨e1, e2⟩ | ⟨e1, e2, e3⟩ | ⟨e1, e2, e3, e4, e5, rfl⟩
      all_goals (try (exfalso; have := of_decide_eq_false e2; omega))
      all_goals (try (exfalso; have := of_decide_eq_true e2; omega))
      all_goals
        go_wp2_with fail
        refine (HI.out _).mono ?_
        rintro e w2 ⟨rfl, hb2⟩
        go_wp2_with fail
        refine (HS.out _).mono ?_
        rintro e w' ⟨rfl, rfl⟩
        go_wp2_with fail
        refine (HL.out _).mono ?_
        rintro e w3 ⟨rfl, hb3⟩
        go_wp2_with fail
        refine (HG.out _).mono ?_
        rintro e w4 ⟨rfl, hb4⟩
        go_wp2_with fail
        refine (HM2.out _).mono ?_
        rintro e w5 ⟨rfl, hb5⟩
        go_wp2_with fail
        refine (HR.out _).mono ?_
        rintro e w6 ⟨rfl, hb6⟩
        go_wp2
        go_returns
        exact ⟨rfl, below_on hb1 (below_on hb2 (below_on hb3 (below_on hb4 (below_on hb5 hb6))))⟩
    · rw [cntT_no hv] at HI HS
      clear hv
      go_wp2_with fail
      refine (HI.out _).mono ?_
      rintro e w2 ⟨rfl, hb2⟩
      go_wp2_with (go_at_call 53; refine (HS.out _).mono ?_; rintro e w' ⟨rfl, rfl⟩)
      go_returns
      exact ⟨rfl, below_on hb1 hb2⟩
  · have hn' : (1048576 : Int) < (n : Int) := by omega
    go_enter Try.func13, Try.ntmps13
    go_wp2
    go_ret
    exact ⟨rfl, Below.refl _ _⟩

end Go.Proofs.Ytjhfmlbnpdnddaa
