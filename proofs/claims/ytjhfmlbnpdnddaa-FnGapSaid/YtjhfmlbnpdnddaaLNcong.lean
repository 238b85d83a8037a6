/- The walk of the law on congruences. -/
import Derived.Test.YtjhfmlbnpdnddaaLNinv
import Derived.Test.YtjhfmlbnpdnddaaNumF
namespace Go.Proofs.Ytjhfmlbnpdnddaa
open Go.RowKit

theorem cong_at {a b m x s k : Int} (hm : 0 < m) (h : IsSol a b m x s) (hk : 0 ≤ k) : m ∣ a * k - b ↔ (x ≤ k ∧ s ∣ k - x) := by
  have hs0 : 0 < s := by have := h.2.1; have := h.2.2.1; omega
  constructor
  · intro hd
    have h2 := isSol_of hm hd
    rw [← h.1] at h2
    obtain ⟨hx, _⟩ := isSol_unique (by omega) h h2
    have hq := Int.emod_add_mul_ediv k s
    have hn := Int.mul_nonneg (Int.le_of_lt hs0) (Int.ediv_nonneg hk (Int.le_of_lt hs0))
    exact ⟨by omega, ⟨k / s, by omega⟩⟩
  · rintro ⟨_, j, hj⟩
    obtain ⟨i, hi⟩ := h.2.2.2
    obtain ⟨a', m', ea, em, _, e⟩ := gcd_parts (a := a) (m := m) (by omega)
    have hs : s = m' := by rw [h.1, e]
    have has : a * s = m * a' := by
      rw [hs]
      generalize ((Int.gcd a m : Nat) : Int) = g at ea em
      rw [ea, em]
      simp only [Int.mul_comm, Int.mul_left_comm]
    refine ⟨i + a' * j, ?_⟩
    have hkx : k = x + s * j := by omega
    rw [hkx]
    have : a * (x + s * j) - b = (a * x - b) + (a * s) * j := by grind
    rw [this, hi, has]
    grind
theorem cong_rem {a b m k : Int} : (a % m * k - b) % m = 0 ↔ m ∣ a * k - b := by
  have hq := Int.emod_add_mul_ediv a m
  have e2 : a % m = a - m * (a / m) := by omega
  constructor
  · intro h
    obtain ⟨i, hi⟩ := Int.dvd_of_emod_eq_zero h
    rw [e2] at hi
    generalize a / m = q at *
    refine ⟨i + q * k, ?_⟩
    have : a * k - b = ((a - m * q) * k - b) + m * (q * k) := by grind
    rw [this, hi]
    grind
  · rintro ⟨i, hi⟩
    apply Int.emod_eq_zero_of_dvd
    rw [e2]
    generalize a / m = q at *
    refine ⟨i - q * k, ?_⟩
    have : (a - m * q) * k - b = (a * k - b) - m * (q * k) := by grind
    rw [this, hi]
    grind

theorem mod_cases (m : Int) (M : Int) : (1 ≤ m ∧ m ≤ M ∧ decide (m < 1) = false ∧ decide (M < m) = false) ∨ decide (m < 1) = true ∨ (decide (m < 1) = false ∧ decide (M < m) = true) := by
  simp only [decide_eq_true_eq, decide_eq_false_iff_not]
  omega

theorem gcdT_nonneg {a b : Int} (h : (numB a && numB b) = true) : gcdT a b = (Int.gcd a b : Nat) := by unfold gcdT; rw [if_pos h]
theorem gcdT_neg {a b : Int} (h : ¬ (numB a && numB b) = true) : gcdT a b = -1 := by unfold gcdT; rw [if_neg h]

def CgR (m : Int) (w : World) (i : Value) (wr : World) : Prop := ∃ k : Nat, i = .int .i64 k ∧ (k : Int) ≤ 2 * m ∧ w = wr

set_option maxHeartbeats 4000000 in
theorem congruence_walk (sp : Option Addr) (n cap : Nat) (w : World) (h : Code w sp n cap) :
    Calls Try.prog 9 #[.slice sp n cap] w fun e w' => e = .returned (.bool true) ∧ Below w.heap.size w w' := by
  have hc1 := h.1
  have hc2 := h.2.1
  have H := Lib.hid h
  clear h
  by_cases hn : n ≤ 1048576
  · have hn' : ¬ (1048576 : Int) < (n : Int) := by omega
    go_enter Try.func9, Try.ntmps9
    go_wp2_with fail
    refine (DrawSolve_t sp n cap w H.out).mono ?_
    rintro e w1 ⟨a, b, m, rfl, ha, hb, ⟨hm0, hm1⟩, hb1⟩
    clear ha hb
    have HI := Lib.hid fun W => SolveCongruence_any a b m W
    have HS := Lib.hid fun W => specSolve_any a b m W
    have HG := Lib.hid fun W => GcdOf_any a b W
    rcases mod_cases m 100 with ⟨m0, m1, d1, d2⟩ | hd
    · by_cases hv : (numB a && numB b) = true
      · rw [gcdT_nonneg hv] at HG
        have hg0 : 0 ≤ ((Int.gcd a b : Nat) : Int) := Int.natCast_nonneg _
        generalize ((Int.gcd a b : Nat) : Int) = g0 at HG hg0
        have d3 : decide (g0 < 0) = false := by simp; omega
        simp only [Bool.and_eq_true] at hv
        obtain ⟨a0, a1⟩ := numB_yes hv.1
        obtain ⟨b0, b1⟩ := numB_yes hv.2
        have hmB : modB m = true := by simp [modB, inB]; omega
        have hst : solT a b m = solV a b m := by unfold solT; rw [if_pos (by simp [hv.1, hv.2, hmB])]
        rw [hst] at HI HS
        have HP := Lib.hid fun W => pbMod_any a m W (by omega) (by omega)
        have i0 := Int.emod_nonneg a (show m ≠ 0 by omega)
        have i1 := Int.emod_lt_of_pos a (show 0 < m by omega)
        have HCR := Lib.hid fun k => cong_rem (a := a) (b := b) (m := m) (k := k)
        obtain ⟨i, hi⟩ : ∃ i, a % m = i := ⟨_, rfl⟩
        rw [hi] at HP i0 i1
        have HII := Lib.hid hi
        clear hi hst
        have hmz : ¬ m = 0 := by omega
        have hw2 : IntKind.i64.wrap (2 * m) = 2 * m := by rw [IntKind.wrap_i64]; omega
        by_cases hdv : ((Int.gcd a m : Nat) : Int) ∣ b
        · obtain ⟨x, hx⟩ := isSol_exists (a := a) (b := b) (show 0 < m by omega) hdv
          rw [solV_yes (by omega) hx] at HI HS
          have HX := Lib.hid fun (k : Int) (hk : 0 ≤ k) => cong_at (by omega) hx hk
          have x0 := hx.2.1
          have x1 := hx.2.2.1
          have hsm : m / ((Int.gcd a m : Nat) : Int) ∣ m := ⟨_, (Int.ediv_mul_cancel (Int.gcd_dvd_right a m)).symm⟩
          have hsl : m / ((Int.gcd a m : Nat) : Int) ≤ m := Int.ediv_le_self _ (by omega)
          generalize m / ((Int.gcd a m : Nat) : Int) = s at *
          have hms : m.tmod s = 0 := Int.tmod_eq_zero_of_dvd hsm
          have hsz : ¬ s = 0 := by omega
          have d4 : decide (x < s) = true := by simpa using x1
          unfold T3 at HI HS
          dsimp only at HI HS
          clear hx hdv hsm
          go_wp2_with fail
          refine (HI.out _).mono ?_
          rintro e w2 ⟨rfl, hb2⟩
          go_wp2_with fail
          refine (HS.out _).mono ?_
          rintro e w' ⟨rfl, rfl⟩
          go_wp2_with fail
          refine (HG.out _).mono ?_
          rintro e w3 ⟨rfl, hb3⟩
          have HB3 := Lib.hid (below_on hb1 (below_on hb2 hb3))
          go_wp2_with fail
          go_loopw [12] (fun i wr => CgR m w3 i wr) (fun i _ => (2 * m).toNat - (intOf i).toNat)
          case atStart => exact ⟨0, rfl, by omega, rfl⟩
          case round =>
            obtain ⟨k, rfl, hk, rfl⟩ := hrel
            by_cases hke : (k : Int) = 2 * m
            · have hkd : decide ((k : Int) < 2 * m) = false := by simp; omega
              go_wp2
              go_returns
              exact ⟨rfl, HB3.out⟩
            · have hkl : (k : Int) < 2 * m := by omega
              have hkd : decide ((k : Int) < 2 * m) = true := by simpa using hkl
              obtain ⟨p, hp, p0, p1⟩ := mul_bd3 (a := i) (k := (k : Int)) (A := 100) (K := 200) (by omega) (by omega) (by omega)
              have hwp : IntKind.i64.wrap p = p := by rw [IntKind.wrap_i64]; omega
              have HQ := Lib.hid fun W => pbMod_any (p - b) m W (by omega) (by omega)
              have hcr := HCR.out k
              rw [HII.out, hp] at hcr
              obtain ⟨z, hz⟩ : ∃ z, (p - b) % m = z := ⟨_, rfl⟩
              rw [hz] at HQ hcr
              have hxk := HX.out k (by omega)
              obtain ⟨t, ht⟩ : ∃ t, ((k : Int) - x).tmod s = t := ⟨_, rfl⟩
              have hts : t = 0 ↔ s ∣ (k : Int) - x := by rw [← ht]; exact tmod_zero'
              have htb := tmod_small (n := (k : Int) - x) (d := s) (by omega)
              rw [ht] at htb
              have hwt : IntKind.i64.wrap t = t := by rw [IntKind.wrap_i64]; omega
              rw [← hcr, ← hts] at hxk
              have hcase : (z = 0 ∧ decide (x ≤ (k : Int)) = true ∧ t = 0) ∨ ((z == 0) = false ∧ decide (x ≤ (k : Int)) = false) ∨ ((z == 0) = false ∧ decide (x ≤ (k : Int)) = true ∧ (t == 0) = false) := by
                simp only [decide_eq_true_eq, decide_eq_false_iff_not, beq_eq_false_iff_ne, ne_eq]
                by_cases h1 : z = 0
                · exact .inl ⟨h1, (hxk.1 h1).1, (hxk.1 h1).2⟩
                · by_cases h2 : x ≤ (k : Int)
                  · exact .inr (.inr ⟨h1, h2, fun h3 => h1 (hxk.2 ⟨h2, h3⟩)⟩)
                  · exact .inr (.inl ⟨h1, h2⟩)
              clear hxk hts hcr hz htb hke
              rcases hcase with ⟨rfl, c1, rfl⟩ | ⟨c0, c1⟩ | ⟨c0, c1, c2⟩
              all_goals
                go_wp2_with fail
                refine (HP.out _).mono ?_
                rintro e w' ⟨rfl, rfl⟩
                go_wp2_with fail
                refine (HQ.out _).mono ?_
                rintro e w' ⟨rfl, rfl⟩
                go_wp2
                go_roundw
                case rel => exact ⟨k + 1, by go_num, by omega, rfl⟩
                case measure => simp [intOf]; omega
        · rw [solV_no hdv] at HI HS
          have HN := Lib.hid fun (k : Int) (hk : m ∣ a * k - b) => hdv (by
            have := isSol_of (by omega) hk
            exact isSol_dvd this)
          unfold T3 at HI HS
          dsimp only at HI HS
          clear hdv
          go_wp2_with fail
          refine (HI.out _).mono ?_
          rintro e w2 ⟨rfl, hb2⟩
          go_wp2_with fail
          refine (HS.out _).mono ?_
          rintro e w' ⟨rfl, rfl⟩
          go_wp2_with fail
          refine (HG.out _).mono ?_
          rintro e w3 ⟨rfl, hb3⟩
          have HB3 := Lib.hid (below_on hb1 (below_on hb2 hb3))
          go_wp2_with fail
          go_loopw [12] (fun i wr => CgR m w3 i wr) (fun i _ => (2 * m).toNat - (intOf i).toNat)
          case atStart => exact ⟨0, rfl, by omega, rfl⟩
          case round =>
            obtain ⟨k, rfl, hk, rfl⟩ := hrel
            by_cases hke : (k : Int) = 2 * m
            · have hkd : decide ((k : Int) < 2 * m) = false := by simp; omega
              go_wp2
              go_returns
              exact ⟨rfl, HB3.out⟩
            · have hkl : (k : Int) < 2 * m := by omega
              have hkd : decide ((k : Int) < 2 * m) = true := by simpa using hkl
              obtain ⟨p, hp, p0, p1⟩ := mul_bd3 (a := i) (k := (k : Int)) (A := 100) (K := 200) (by omega) (by omega) (by omega)
              have hwp : IntKind.i64.wrap p = p := by rw [IntKind.wrap_i64]; omega
              have HQ := Lib.hid fun W => pbMod_any (p - b) m W (by omega) (by omega)
              have hcr := HCR.out k
              rw [HII.out, hp] at hcr
              obtain ⟨z, hz⟩ : ∃ z, (p - b) % m = z := ⟨_, rfl⟩
              rw [hz] at HQ hcr
              have c0 : ¬ z = 0 := fun h => HN.out k (hcr.1 h)
              clear hcr hz hke
              go_wp2_with fail
              refine (HP.out _).mono ?_
              rintro e w' ⟨rfl, rfl⟩
              go_wp2_with fail
              refine (HQ.out _).mono ?_
              rintro e w' ⟨rfl, rfl⟩
              go_wp2
              go_roundw
              case rel => exact ⟨k + 1, by go_num, by omega, rfl⟩
              case measure => simp [intOf]; omega
      · rw [gcdT_neg hv] at HG
        generalize solT a b m = t at *
        obtain ⟨x, s, ok⟩ := t
        unfold T3 at HI HS
        dsimp only at HI HS
        clear hv
        go_wp2_with fail
        refine (HI.out _).mono ?_
        rintro e w2 ⟨rfl, hb2⟩
        go_wp2_with fail
        refine (HS.out _).mono ?_
        rintro e w' ⟨rfl, rfl⟩
        go_wp2_with fail
        refine (HG.out _).mono ?_
        rintro e w3 ⟨rfl, hb3⟩
        go_wp2
        go_returns
        exact ⟨rfl, below_on hb1 (below_on hb2 hb3)⟩
    · generalize solT a b m = t at *
      obtain ⟨x, s, ok⟩ := t
      unfold T3 at HI HS
      dsimp only at HI HS
      rcases hd with d1 | ⟨d1, d2⟩
      all_goals
        go_wp2_with fail
        refine (HI.out _).mono ?_
        rintro e w2 ⟨rfl, hb2⟩
        go_wp2_with fail
        refine (HS.out _).mono ?_
        rintro e w' ⟨rfl, rfl⟩
        go_wp2
        go_returns
        exact ⟨rfl, below_on hb1 hb2⟩
  · have hn' : (1048576 : Int) < (n : Int) := by omega
    go_enter Try.func9, Try.ntmps9
    go_wp2
    go_ret
    exact ⟨rfl, Below.refl _ _⟩

end Go.Proofs.Ytjhfmlbnpdnddaa
