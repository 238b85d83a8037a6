/- The walk of the law on equations with solutions. -/
import Derived.Test.YtjhfmlbnpdnddaaLNfloor
import Derived.Test.YtjhfmlbnpdnddaaNumB
namespace Go.Proofs.Ytjhfmlbnpdnddaa
open Go.RowKit

theorem sm_split (a b c : Int) : smB a b c = true ∨ smB a b c = false ∧ (decide (a < -100) = true ∨ (decide (a < -100) = false ∧ decide (100 < a) = true) ∨ (decide (a < -100) = false ∧ decide (100 < a) = false ∧ decide (b < -100) = true) ∨
    (decide (a < -100) = false ∧ decide (100 < a) = false ∧ decide (b < -100) = false ∧ decide (100 < b) = true) ∨ (decide (a < -100) = false ∧ decide (100 < a) = false ∧ decide (b < -100) = false ∧ decide (100 < b) = false ∧ decide (c < -10000) = true) ∨
    (decide (a < -100) = false ∧ decide (100 < a) = false ∧ decide (b < -100) = false ∧ decide (100 < b) = false ∧ decide (c < -10000) = false ∧ decide (10000 < c) = true)) := by
  rcases h : smB a b c with _ | _
  · right
    refine ⟨rfl, ?_⟩
    have h' : ¬ ((-100 ≤ a ∧ a ≤ 100) ∧ (-100 ≤ b ∧ b ≤ 100) ∧ (-10000 ≤ c ∧ c ≤ 10000)) := by
      intro hx
      have : smB a b c = true := by
        simp only [smB, wlB, Bool.and_eq_true, decide_eq_true_eq]
        omega
      rw [h] at this
      exact Bool.noConfusion this
    simp only [decide_eq_true_eq, decide_eq_false_iff_not]
    omega
  · exact .inl rfl
theorem sm_yes {a b c : Int} (h : smB a b c = true) : (-100 ≤ a ∧ a ≤ 100) ∧ (-100 ≤ b ∧ b ≤ 100) ∧ (-10000 ≤ c ∧ c ≤ 10000) := by
  simp only [smB, Bool.and_eq_true] at h
  exact ⟨wl_yes h.1.1, wl_yes h.1.2, wl_yes h.2⟩
theorem lsT_yes {a b c : Int} (h : smB a b c = true) : lsT a b c = lsV a b c := by unfold lsT; exact if_pos h
theorem lsT_no {a b c : Int} (h : smB a b c = false) : lsT a b c = (0, 0, false) := by unfold lsT; rw [if_neg (by unfold smB at h; rw [h]; simp)]

set_option maxHeartbeats 4000000 in
theorem solvable_walk (sp : Option Addr) (n cap : Nat) (w : World) (h : Code w sp n cap) :
    Calls Try.prog 12 #[.slice sp n cap] w fun e w' => e = .returned (.bool true) ∧ Below w.heap.size w w' := by
  have hc1 := h.1
  have hc2 := h.2.1
  have H := Lib.hid h
  clear h
  by_cases hn : n ≤ 1048576
  · have hn' : ¬ (1048576 : Int) < (n : Int) := by omega
    go_enter Try.func12, Try.ntmps12
    go_wp2_with fail
    refine (DrawLeast_t sp n cap w H.out).mono ?_
    rintro e w1 ⟨a, b, c, rfl, ha, hb, hc, hb1⟩
    clear ha hb hc
    have HI := Lib.hid fun W => LeastSolution_any a b c W
    have HS := Lib.hid fun W => specLeast_any a b c W
    rcases sm_split a b c with hv | ⟨hv, hd⟩
    · obtain ⟨⟨a0, a1⟩, ⟨b0, b1⟩, ⟨c0, c1⟩⟩ := sm_yes hv
      rw [lsT_yes hv] at HI HS
      have HG := Lib.hid fun W => GcdOf_any a b W
      have hgt : gcdT a b = (Int.gcd a b : Nat) := by unfold gcdT; rw [if_pos (by simp [numB, wlB]; omega)]
      rw [hgt] at HG
      have f1 : decide (a < -100) = false := by simp; omega
      have f2 : decide (100 < a) = false := by simp; omega
      have f3 : decide (b < -100) = false := by simp; omega
      have f4 : decide (100 < b) = false := by simp; omega
      have f5 : decide (c < -10000) = false := by simp; omega
      have f6 : decide (10000 < c) = false := by simp; omega
      have hfacts : ∃ x y : Int, ∃ ok : Bool, lsV a b c = (x, y, ok) ∧ (ok = true → ((Int.gcd a b : Nat) : Int) ∣ c) ∧ ((0 < a ∧ b < 0 ∨ a < 0 ∧ 0 < b) → ((Int.gcd a b : Nat) : Int) ∣ c → ok = true) ∧ (a = 0 → b = 0 → c = 0 → ok = true) := by
        by_cases hs : Solves a b c
        · obtain ⟨x, y, hl⟩ := isLeast_exists hs
          exact ⟨x, y, true, lsV_yes hl, fun _ => solves_dvd hs, fun _ _ => rfl, fun _ _ _ => rfl⟩
        · refine ⟨0, 0, false, lsV_no hs, fun h => Bool.noConfusion h, fun h1 h2 => ?_, fun h1 h2 h3 => ?_⟩
          · rcases h1 with h1 | h1
            · exact absurd (solves_signs h1 h2) hs
            · exact absurd (solves_comm (solves_signs ⟨h1.2, h1.1⟩ (by rw [Int.gcd_comm]; exact h2))) hs
          · exact absurd ⟨0, 0, by omega, by omega, by omega⟩ hs
      obtain ⟨x, y, ok, hls, k1, k2, k3⟩ := hfacts
      rw [hls] at HI HS
      unfold T3 at HI HS
      dsimp only at HI HS
      by_cases hz : a = 0 ∧ b = 0
      · obtain ⟨rfl, rfl⟩ := hz
        have hcb : (c == 0) = ok := by
          cases ok
          · have : ¬ c = 0 := fun h => Bool.noConfusion (k3 rfl rfl h)
            simpa using this
          · have := k1 rfl
            simp at this
            simpa using this
        have hg0 : ((Int.gcd 0 0 : Nat) : Int) = 0 := by simp
        rw [hg0] at HG
        clear hls k1 k2 k3 hgt hv hg0
        go_wp2_with fail
        refine (HI.out _).mono ?_
        rintro e w2 ⟨rfl, hb2⟩
        go_wp2_with fail
        refine (HS.out _).mono ?_
        rintro e w3 ⟨rfl, hb3⟩
        go_wp2_with fail
        refine (HG.out _).mono ?_
        rintro e w4 ⟨rfl, hb4⟩
        go_wp2
        go_returns
        exact ⟨rfl, below_on hb1 (below_on hb2 (below_on hb3 hb4))⟩
      · have hgp : 0 < ((Int.gcd a b : Nat) : Int) := by
          have : Int.gcd a b ≠ 0 := fun e => hz (Int.gcd_eq_zero_iff.1 e)
          omega
        obtain ⟨g, hg⟩ : ∃ g : Int, ((Int.gcd a b : Nat) : Int) = g := ⟨_, rfl⟩
        rw [hg] at HG hgp k1 k2
        have hgz : ¬ g = 0 := by omega
        obtain ⟨t, ht⟩ : ∃ t, c.tmod g = t := ⟨_, rfl⟩
        have htb := tdiv_le c g
        have htb2 := tmod_small (n := c) hgp
        have hgl : g ≤ 100 := by
          rw [← hg]
          by_cases ha : a = 0
          · have h1 : Int.gcd a b ∣ b.natAbs := Nat.gcd_dvd_right _ _
            have := Nat.le_of_dvd (by omega) h1
            omega
          · have h1 : Int.gcd a b ∣ a.natAbs := Nat.gcd_dvd_left _ _
            have := Nat.le_of_dvd (by omega) h1
            omega
        rw [ht] at htb2
        have hwt : IntKind.i64.wrap t = t := by rw [IntKind.wrap_i64]; omega
        have j1 : ok = true → t = 0 := fun h => by rw [← ht]; exact Int.tmod_eq_zero_of_dvd (k1 h)
        have j2 : (0 < a ∧ b < 0 ∨ a < 0 ∧ 0 < b) → (t == 0) = ok := fun h => by
          cases ok
          · have : ¬ t = 0 := fun e => Bool.noConfusion (k2 h (Int.dvd_of_tmod_eq_zero (ht.trans e)))
            simpa using this
          · simpa using j1 rfl
        have hsign : (decide (0 < a) = true ∧ decide (b < 0) = true ∧ (t == 0) = ok) ∨ (decide (0 < a) = false ∧ decide (a < 0) = true ∧ decide (0 < b) = true ∧ (t == 0) = ok) ∨
            (decide (0 < a) = true ∧ decide (b < 0) = false ∧ decide (a < 0) = false) ∨ (decide (0 < a) = false ∧ decide (a < 0) = true ∧ decide (0 < b) = false) ∨ (decide (0 < a) = false ∧ decide (a < 0) = false) := by
          rcases Int.lt_trichotomy a 0 with h1 | h1 | h1
          · by_cases h2 : 0 < b
            · exact .inr (.inl ⟨by simp; omega, by simp; omega, by simp; omega, j2 (by omega)⟩)
            · exact .inr (.inr (.inr (.inl ⟨by simp; omega, by simp; omega, by simp; omega⟩)))
          · exact .inr (.inr (.inr (.inr ⟨by simp; omega, by simp; omega⟩)))
          · by_cases h2 : b < 0
            · exact .inl ⟨by simp; omega, by simp; omega, j2 (by omega)⟩
            · exact .inr (.inr (.inl ⟨by simp; omega, by simp; omega, by simp; omega⟩))
        have hend : ok = false ∨ ok = true ∧ t = 0 := by
          cases ok
          · exact .inl rfl
          · exact .inr ⟨rfl, j1 rfl⟩
        clear hls k1 k2 k3 j1 j2 hgt hv hg htb htb2 hz
        rcases hend with rfl | ⟨rfl, rfl⟩ <;> rcases hsign with ⟨s1, s2, s3⟩ | ⟨s1, s2, s3, s4⟩ | ⟨s1, s2, s3⟩ | ⟨s1, s2, s3⟩ | ⟨s1, s2⟩
        all_goals
          go_wp2_with fail
          refine (HI.out _).mono ?_
          rintro e w2 ⟨rfl, hb2⟩
          go_wp2_with fail
          refine (HS.out _).mono ?_
          rintro e w3 ⟨rfl, hb3⟩
          go_wp2_with fail
          refine (HG.out _).mono ?_
          rintro e w4 ⟨rfl, hb4⟩
          go_wp2
          go_returns
          exact ⟨rfl, below_on hb1 (below_on hb2 (below_on hb3 hb4))⟩
    · rw [lsT_no hv] at HI HS
      unfold T3 at HI HS
      dsimp only at HI HS
      clear hv
      rcases hd with d1 | ⟨d1, d2⟩ | ⟨d1, d2, d3⟩ | ⟨d1, d2, d3, d4⟩ | ⟨d1, d2, d3, d4, d5⟩ | ⟨d1, d2, d3, d4, d5, d6⟩
      all_goals
        go_wp2_with fail
        refine (HI.out _).mono ?_
        rintro e w2 ⟨rfl, hb2⟩
        go_wp2_with fail
        refine (HS.out _).mono ?_
        rintro e w3 ⟨rfl, hb3⟩
        go_wp2
        go_returns
        exact ⟨rfl, below_on hb1 (below_on hb2 hb3)⟩
  · have hn' : (1048576 : Int) < (n : Int) := by omega
    go_enter Try.func12, Try.ntmps12
    go_wp2
    go_ret
    exact ⟨rfl, Below.refl _ _⟩

end Go.Proofs.Ytjhfmlbnpdnddaa
