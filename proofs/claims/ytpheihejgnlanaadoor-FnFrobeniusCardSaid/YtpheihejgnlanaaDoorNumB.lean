/- Numbers: how many solutions an equation has, and the greatest gap. -/
import Derived.Test.YtpheihejgnlanaaDoorNumA
namespace Go.Proofs.YtpheihejgnlanaaDoor

/-- How many of the first n numbers have a property. -/
def cntP (P : Nat → Bool) : Nat → Nat
  | 0 => 0
  | n + 1 => cntP P n + (if P n then 1 else 0)

theorem cntP_congr {P Q : Nat → Bool} : ∀ {n : Nat}, (∀ i, i < n → P i = Q i) → cntP P n = cntP Q n
  | 0, _ => rfl
  | n + 1, h => by
    have h1 := cntP_congr (P := P) (Q := Q) (n := n) (fun i hi => h i (by omega))
    simp only [cntP, h1, h n (by omega)]
theorem cntP_pos {P : Nat → Bool} : ∀ {n : Nat}, 0 < cntP P n ↔ ∃ i, i < n ∧ P i = true
  | 0 => by simp [cntP]
  | n + 1 => by
    simp only [cntP]
    constructor
    · intro h
      by_cases hn : P n = true
      · exact ⟨n, by omega, hn⟩
      · rw [if_neg hn] at h
        obtain ⟨i, hi, hp⟩ := cntP_pos.1 (show 0 < cntP P n by omega)
        exact ⟨i, by omega, hp⟩
    · rintro ⟨i, hi, hp⟩
      by_cases h : i = n
      · subst h; rw [if_pos hp]; omega
      · have := cntP_pos.2 ⟨i, show i < n by omega, hp⟩
        omega
theorem cntP_le (P : Nat → Bool) : ∀ n, cntP P n ≤ n
  | 0 => Nat.le_refl _
  | n + 1 => by
    have := cntP_le P n
    simp only [cntP]
    split <;> omega
/-- The first one apart. -/
theorem cntP_first (P : Nat → Bool) : ∀ n, cntP P (n + 1) = (if P 0 then 1 else 0) + cntP (fun i => P (i + 1)) n
  | 0 => by simp [cntP]
  | n + 1 => by
    rw [cntP, cntP_first P n]
    simp only [cntP]
    omega
theorem cntP_add (P : Nat → Bool) (m : Nat) : ∀ n, cntP P (m + n) = cntP P m + cntP (fun i => P (m + i)) n
  | 0 => rfl
  | n + 1 => by
    rw [← Nat.add_assoc, cntP, cntP_add P m n]
    simp only [cntP]
    omega
theorem cntP_not (P : Nat → Bool) : ∀ n, cntP P n + cntP (fun i => !P i) n = n
  | 0 => rfl
  | n + 1 => by
    have := cntP_not P n
    simp only [cntP]
    by_cases h : P n = true
    · simp [h]; omega
    · simp [h]; omega
theorem cntP_rev (P : Nat → Bool) : ∀ n, cntP (fun i => P (n - 1 - i)) n = cntP P n
  | 0 => rfl
  | n + 1 => by
    rw [cntP_first]
    simp only [cntP]
    have := cntP_rev P n
    rw [← this, cntP_congr (Q := fun i => P (n - 1 - i)) (fun i hi => by congr 1; omega)]
    simp only [Nat.add_sub_cancel, Nat.sub_zero]
    omega

/-- How many solutions an equation with positive coefficients has. -/
def cntV (a b c : Int) : Nat := if 0 ≤ c then cntP (fun x => decide (b ∣ c - a * (x : Int))) ((c / a).toNat + 1) else 0

theorem cntV_neg {a b c : Int} (h : c < 0) : cntV a b c = 0 := by
  unfold cntV
  rw [if_neg (by omega)]

/-- Without its first candidate, an equation is the one with a number less by a. -/
theorem cntV_step {a b c : Int} (ha : 0 < a) (hc : 0 ≤ c) : cntV a b c = cntV a b (c - a) + (if b ∣ c then 1 else 0) := by
  have e9 : cntV a b c = cntP (fun x => decide (b ∣ c - a * (x : Int))) ((c / a).toNat + 1) := by unfold cntV; rw [if_pos hc]
  rw [e9, cntP_first]
  have e0 : (decide (b ∣ c - a * ((0 : Nat) : Int)) = true) = (b ∣ c) := by simp
  simp only [e0]
  by_cases h : a ≤ c
  · have e8 : cntV a b (c - a) = cntP (fun x => decide (b ∣ c - a - a * (x : Int))) (((c - a) / a).toNat + 1) := by unfold cntV; rw [if_pos (by omega)]
    rw [e8]
    have e1 : (c / a).toNat = ((c - a) / a).toNat + 1 := by
      have : (c - a) / a = c / a - 1 := by
        have := Int.add_mul_ediv_right c (-1) (show a ≠ 0 by omega)
        simpa [Int.sub_eq_add_neg] using this
      have h2 : 1 ≤ c / a := (Int.le_ediv_iff_mul_le ha).2 (by omega)
      omega
    rw [e1, Nat.add_comm]
    congr 1
    apply cntP_congr
    intro i _
    have : c - a * ((i + 1 : Nat) : Int) = c - a - a * (i : Int) := by grind
    rw [this]
  · rw [cntV_neg (show c - a < 0 by omega)]
    have : c / a = 0 := Int.ediv_eq_zero_of_lt hc (by omega)
    simp [this, cntP]

theorem dvd_small {a c : Int} (h0 : 0 ≤ c) (h1 : c < a) : a ∣ c ↔ c = 0 :=
  ⟨fun h => small_dvd h (by omega) h1, fun h => by rw [h]; exact Int.dvd_zero a⟩
theorem dvd_less {a c : Int} : a ∣ c - a ↔ a ∣ c := by
  constructor
  · rintro ⟨k, hk⟩
    exact ⟨k + 1, by rw [Int.mul_add, ← hk]; omega⟩
  · rintro ⟨k, hk⟩
    exact ⟨k - 1, by rw [Int.mul_sub, ← hk]; omega⟩

theorem cntV_other_n {a b : Int} (ha : 0 < a) (hb : 0 < b) : ∀ (n : Nat) (c : Int), c < n → 0 ≤ c → cntV a b c = cntV a b (c - b) + (if a ∣ c then 1 else 0) := by
  intro n
  induction n with
  | zero => intro c h1 h2; omega
  | succ n ih =>
    intro c h1 h2
    rw [cntV_step ha h2]
    by_cases hcb : b ≤ c
    · rw [cntV_step ha (show 0 ≤ c - b by omega)]
      have e1 : (b ∣ c - b) = (b ∣ c) := propext dvd_less
      simp only [e1]
      by_cases hca : a ≤ c
      · have := ih (c - a) (by omega) (by omega)
        have e2 : (a ∣ c - a) = (a ∣ c) := propext dvd_less
        simp only [e2] at this
        rw [this, show c - a - b = c - b - a by omega]
        omega
      · rw [cntV_neg (show c - a < 0 by omega), cntV_neg (show c - b - a < 0 by omega)]
        have : ¬ a ∣ c := fun h => by have := (dvd_small h2 (by omega)).1 h; omega
        rw [if_neg this]
        omega
    · rw [cntV_neg (show c - b < 0 by omega)]
      have e3 : (b ∣ c) = (c = 0) := propext (dvd_small h2 (by omega))
      simp only [e3]
      by_cases hca : a ≤ c
      · have := ih (c - a) (by omega) (by omega)
        have e2 : (a ∣ c - a) = (a ∣ c) := propext dvd_less
        simp only [e2] at this
        rw [this, cntV_neg (show c - a - b < 0 by omega), if_neg (show ¬ c = 0 by omega)]
        omega
      · have e4 : (a ∣ c) = (c = 0) := propext (dvd_small h2 (by omega))
        simp only [e4]
        rw [cntV_neg (show c - a < 0 by omega)]

/-- Without its first candidate for the other coefficient. -/
theorem cntV_other {a b c : Int} (ha : 0 < a) (hb : 0 < b) (hc : 0 ≤ c) : cntV a b c = cntV a b (c - b) + (if a ∣ c then 1 else 0) :=
  cntV_other_n ha hb (c.toNat + 1) c (by omega) hc

theorem cntV_comm_n {a b : Int} (ha : 0 < a) (hb : 0 < b) : ∀ (n : Nat) (c : Int), c < n → cntV b a c = cntV a b c := by
  intro n
  induction n with
  | zero => intro c h; rw [cntV_neg (by omega), cntV_neg (by omega)]
  | succ n ih =>
    intro c h
    by_cases h0 : 0 ≤ c
    · rw [cntV_step hb h0, cntV_other ha hb h0, ih (c - b) (by omega)]
    · rw [cntV_neg (by omega), cntV_neg (by omega)]
theorem cntV_comm {a b : Int} (ha : 0 < a) (hb : 0 < b) (c : Int) : cntV b a c = cntV a b c := cntV_comm_n ha hb (c.toNat + 1) c (by omega)

theorem cntV_pos {a b c : Int} (ha : 0 < a) (hb : 0 < b) : 0 < cntV a b c ↔ Solves a b c := by
  unfold cntV
  constructor
  · intro h
    by_cases hc : 0 ≤ c
    · rw [if_pos hc, cntP_pos] at h
      obtain ⟨i, hi, hp⟩ := h
      simp only [decide_eq_true_eq] at hp
      obtain ⟨k, hk⟩ := hp
      have hq : (i : Int) ≤ c / a := by
        have := Int.ediv_nonneg hc (Int.le_of_lt ha)
        omega
      have hai : (i : Int) * a ≤ c := (Int.le_ediv_iff_mul_le ha).1 hq
      have hk0 : 0 ≤ k := by
        apply Decidable.byContradiction
        intro h
        have : b * k ≤ b * (-1) := Int.mul_le_mul_of_nonneg_left (by omega) (by omega)
        have e : a * (i : Int) = i * a := Int.mul_comm _ _
        omega
      exact ⟨i, k, by omega, hk0, by omega⟩
    · rw [if_neg hc] at h; omega
  · rintro ⟨u, v, hu, hv, e⟩
    have h1 := Int.mul_nonneg (Int.le_of_lt ha) hu
    have h2 := Int.mul_nonneg (Int.le_of_lt hb) hv
    have hc : 0 ≤ c := by omega
    rw [if_pos hc, cntP_pos]
    have hq : u ≤ c / a := (Int.le_ediv_iff_mul_le ha).2 (by rw [Int.mul_comm]; omega)
    refine ⟨u.toNat, by omega, ?_⟩
    simp only [decide_eq_true_eq]
    rw [Int.toNat_of_nonneg hu]
    exact ⟨v, by omega⟩

/-- In m numbers one behind the other exactly one has a given remainder. -/
theorem window (m : Nat) (t : Int) (hm : 0 < m) : cntP (fun i => decide ((m : Int) ∣ (i : Int) - t)) m = 1 := by
  have hr0 := Int.emod_nonneg t (show (m : Int) ≠ 0 by omega)
  have hr1 := Int.emod_lt_of_pos t (show (0 : Int) < m by omega)
  have hq := Int.emod_add_mul_ediv t m
  obtain ⟨r, hr⟩ : ∃ r : Nat, t % m = r := ⟨(t % m).toNat, by omega⟩
  rw [cntP_congr (Q := fun i => decide (i = r)) (fun i hi => ?_)]
  · have hrm : r < m := by omega
    clear hr hr0 hr1 hq hm
    induction m with
    | zero => omega
    | succ k ih =>
      simp only [cntP]
      by_cases h : k = r
      · subst h
        have : cntP (fun i => decide (i = k)) k = 0 := by
          apply Nat.eq_zero_of_not_pos
          rw [cntP_pos]
          rintro ⟨i, hi, h⟩
          simp at h
          omega
        simp [this]
      · have := ih (by omega)
        simp [this, h]
  · congr 1
    refine propext ⟨fun ⟨k, hk⟩ => ?_, fun h => ?_⟩
    · have h1 : (m : Int) ∣ (i : Int) - r := ⟨k + t / m, by rw [Int.mul_add]; omega⟩
      have := small_dvd h1 (by omega) (by omega)
      omega
    · subst h
      exact ⟨-(t / m), by rw [Int.mul_neg]; omega⟩

theorem cntV_run {a b : Int} (ha : 0 < a) (hb : 0 < b) (c : Int) (hc : 0 ≤ c) : ∀ n : Nat, cntV a b (c + b * n) = cntV a b c + cntP (fun i => decide (a ∣ c + b * ((i + 1 : Nat) : Int))) n
  | 0 => by simp [cntP]
  | n + 1 => by
    have hn := cntV_run ha hb c hc n
    have h0 : 0 ≤ b * ((n + 1 : Nat) : Int) := Int.mul_nonneg (Int.le_of_lt hb) (by omega)
    rw [cntV_other ha hb (by omega)]
    have e : c + b * ((n + 1 : Nat) : Int) - b = c + b * (n : Int) := by grind
    rw [e, hn]
    simp only [cntP, decide_eq_true_eq]
    omega

/-- A least common multiple more: one solution more. -/
theorem cntV_more {a b c : Int} (ha : 0 < a) (hb : 0 < b) (hc : 0 ≤ c) (hd : ((Int.gcd a b : Nat) : Int) ∣ c) : cntV a b (c + a * b / (Int.gcd a b : Nat)) = cntV a b c + 1 := by
  obtain ⟨b', a', eb, ea, hco, e⟩ := gcd_parts (a := b) (m := a) (by omega)
  rw [Int.gcd_comm] at eb ea e
  obtain ⟨c', hc'⟩ := hd
  have hg : 0 < ((Int.gcd a b : Nat) : Int) := by have := gcd_pos_r (a := a) (m := b) (by omega); omega
  have hL : a * b / (Int.gcd a b : Nat) = b * a' := by
    rw [Int.mul_comm, Int.mul_ediv_assoc _ (Int.gcd_dvd_left a b), e]
  have ha' : 0 < a' := by
    apply Decidable.byContradiction
    intro h
    have : ((Int.gcd a b : Nat) : Int) * a' ≤ (Int.gcd a b : Nat) * 0 := Int.mul_le_mul_of_nonneg_left (by omega) (by omega)
    omega
  obtain ⟨n, hn⟩ : ∃ n : Nat, a' = n := ⟨a'.toNat, by omega⟩
  rw [hL, hn, cntV_run ha hb c hc n]
  congr 1
  -- the index that solves
  obtain ⟨t, ht⟩ := isInv_exists ha' hco
  obtain ⟨_, _, k, hk⟩ := ht
  refine (cntP_congr ?_).trans (window n (-(c' * t) - 1) (by omega))
  intro i _
  congr 1
  have e1 : c + b * ((i + 1 : Nat) : Int) = (Int.gcd a b : Nat) * (c' + b' * ((i : Int) + 1)) := by
    generalize ((Int.gcd a b : Nat) : Int) = g at *
    rw [hc', eb]
    grind
  have e2 : (i : Int) - (-(c' * t) - 1) = i + 1 + c' * t := by omega
  rw [e1, e2, ← hn]
  refine propext ⟨fun h => ?_, fun h => ?_⟩
  · have h1 : a' ∣ c' + b' * ((i : Int) + 1) := by
      obtain ⟨z, hz⟩ := h
      refine ⟨z, Int.eq_of_mul_eq_mul_left (show ((Int.gcd a b : Nat) : Int) ≠ 0 by omega) ?_⟩
      rw [hz, ← Int.mul_assoc, ← ea]
    -- times t
    have h2 : a' ∣ b' * ((i : Int) + 1 + c' * t) := by
      obtain ⟨z, hz⟩ := h1
      refine ⟨z + c' * k, ?_⟩
      have : b' * ((i : Int) + 1 + c' * t) = (c' + b' * ((i : Int) + 1)) + c' * (b' * t - 1) := by grind
      rw [this, hz, hk]
      grind
    exact cop_dvd hco h2
  · obtain ⟨z, hz⟩ := h
    have : (i : Int) + 1 = a' * z - c' * t := by omega
    rw [this]
    refine ⟨b' * z - c' * k, ?_⟩
    have h3 : c' + b' * (a' * z - c' * t) = a' * (b' * z - c' * k) := by
      have : c' + b' * (a' * z - c' * t) = a' * (b' * z) - c' * (b' * t - 1) := by grind
      rw [this, hk]
      grind
    rw [h3, ← Int.mul_assoc, ← ea]

theorem solves_dvd {a b c : Int} (h : Solves a b c) : ((Int.gcd a b : Nat) : Int) ∣ c := by
  obtain ⟨u, v, _, _, rfl⟩ := h
  exact Int.dvd_add (Int.dvd_mul_of_dvd_left (Int.gcd_dvd_left a b)) (Int.dvd_mul_of_dvd_left (Int.gcd_dvd_right a b))

/-- With coefficients of different signs. -/
theorem solves_signs {a b c : Int} (h : 0 < a ∧ b < 0) (hd : ((Int.gcd a b : Nat) : Int) ∣ c) : Solves a b c := by
  obtain ⟨x, y, e⟩ := bez a b
  obtain ⟨k, rfl⟩ := hd
  -- (x k + (-b) t, y k + a t) for a great t
  let t : Int := max 0 (max (-(x * k)) (-(y * k)))
  have ht0 : 0 ≤ t := by omega
  have h1 : 1 * t ≤ (-b) * t := Int.mul_le_mul_of_nonneg_right (by omega) ht0
  have h2 : 1 * t ≤ a * t := Int.mul_le_mul_of_nonneg_right (by omega) ht0
  refine ⟨x * k + (-b) * t, y * k + a * t, by omega, by omega, ?_⟩
  rw [← e]
  grind
theorem solves_comm {a b c : Int} (h : Solves a b c) : Solves b a c := by
  obtain ⟨u, v, h1, h2, e⟩ := h
  exact ⟨v, u, h2, h1, by omega⟩

/-- Each number by a factor of a below b. -/
theorem rep {a b : Int} (hb : 0 < b) (hc : Int.gcd a b = 1) (c : Int) : ∃ x y : Int, 0 ≤ x ∧ x < b ∧ a * x + b * y = c := by
  obtain ⟨x, hx⟩ := isSol_exists (a := a) (b := c) hb (by rw [hc]; exact Int.one_dvd _)
  obtain ⟨_, x0, x1, k, hk⟩ := hx
  rw [hc] at x1
  simp at x1
  exact ⟨x, -k, x0, x1, by rw [Int.mul_neg]; omega⟩
theorem rep_solves {a b c x y : Int} (ha0 : 0 < a) (hb : 0 < b) (hc : Int.gcd a b = 1) (h0 : 0 ≤ x) (h1 : x < b) (e : a * x + b * y = c) : Solves a b c ↔ 0 ≤ y := by
  constructor
  · rintro ⟨u, v, hu, hv, e'⟩
    have h2 : b ∣ a * (u - x) := ⟨y - v, by grind⟩
    obtain ⟨k, hk⟩ := cop_dvd hc h2
    have hk0 : 0 ≤ k := by
      apply Decidable.byContradiction
      intro h
      have : b * k ≤ b * (-1) := Int.mul_le_mul_of_nonneg_left (by omega) (by omega)
      omega
    have ha : a * (u - x) = b * (y - v) := by grind
    have hy : y = v + a * k := by
      have : b * y = b * (v + a * k) := by
        rw [hk] at ha
        grind
      exact Int.eq_of_mul_eq_mul_left (by omega) this
    have := Int.mul_nonneg (Int.le_of_lt ha0) hk0
    omega
  · intro hy
    exact ⟨x, y, h0, hy, e⟩

/-- Of a number and its distance from the greatest gap exactly one is a sum. -/
theorem gap_other {a b c : Int} (ha : 0 < a) (hb : 0 < b) (hc : Int.gcd a b = 1) : Solves a b c ↔ ¬ Solves a b (a * b - a - b - c) := by
  obtain ⟨x, y, x0, x1, e⟩ := rep (a := a) hb hc c
  rw [rep_solves ha hb hc x0 x1 e, rep_solves (x := b - 1 - x) (y := -1 - y) ha hb hc (by omega) (by omega) (by rw [← e]; grind)]
  omega
theorem gap_none {a b : Int} (ha : 0 < a) (hb : 0 < b) (hc : Int.gcd a b = 1) : ¬ Solves a b (a * b - a - b) := by
  have h : Solves a b 0 := ⟨0, 0, by omega, by omega, by simp⟩
  have := (gap_other ha hb hc).1 h
  simpa using this
theorem gap_beyond {a b c : Int} (ha : 0 < a) (hb : 0 < b) (hc : Int.gcd a b = 1) (h : a * b - a - b < c) : Solves a b c := by
  rw [gap_other ha hb hc]
  rintro ⟨u, v, hu, hv, e⟩
  have h1 := Int.mul_nonneg (Int.le_of_lt ha) hu
  have h2 := Int.mul_nonneg (Int.le_of_lt hb) hv
  omega


end Go.Proofs.YtpheihejgnlanaaDoor
