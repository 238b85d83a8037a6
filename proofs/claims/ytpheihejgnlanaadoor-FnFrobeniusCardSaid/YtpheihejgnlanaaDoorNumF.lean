/- Numbers: what the model reckons. -/
import Derived.Test.YtpheihejgnlanaaDoorNumE
namespace Go.Proofs.YtpheihejgnlanaaDoor

/-! What the model reckons. -/

/-- The end of the model's search for an inverse. -/
theorem inv_end {a m R u X v Y : Int} (hm : 0 < m) (h : Eu m a R u X 0 v Y) (hR : 0 ≤ R) : R = (Int.gcd a m : Nat) ∧ (Int.gcd a m = 1 → IsInv a m (X % m)) := by
  have he := eu_end h
  rw [Int.gcd_comm] at he
  have hR' : R = (Int.gcd a m : Nat) := by omega
  refine ⟨hR', fun hg => ⟨Int.emod_nonneg _ (by omega), Int.emod_lt_of_pos _ hm, ?_⟩⟩
  have h1 := h.1
  rw [hR', hg] at h1
  have hq := Int.emod_add_mul_ediv X m
  have e2 : X % m = X - m * (X / m) := by omega
  refine ⟨-u - a * (X / m), ?_⟩
  rw [e2]
  generalize X / m = q at *
  have : a * (X - m * q) - 1 = (m * u + a * X) - 1 - m * u - m * (a * q) := by grind
  rw [this, h1]
  grind

theorem eu_nonneg {n d : Int} (hn : 0 ≤ n) : 0 ≤ n - n.tdiv d * d := by
  have := Int.tmod_add_mul_tdiv n d
  have e : n.tdiv d * d = d * n.tdiv d := Int.mul_comm _ _
  have := Int.tmod_nonneg d hn
  omega

theorem bez_spec {a b g k : Int} (hb : b ≠ 0) (hg : g = (Int.gcd a b : Nat)) (hk : (b.natAbs : Int) / g = k) :
    0 < k ∧ a.tdiv g = a / g ∧ Int.gcd (a / g % k) k = 1 ∧
    (k = 1 → b ∣ g - a * 0 ∧ IsBez a b g 0 ((g - a * 0) / b)) ∧ ∀ x, IsInv (a / g % k) k x → b ∣ g - a * x ∧ IsBez a b g x ((g - a * x) / b) := by
  obtain ⟨a', b', ea, eb, hc, hd⟩ := gcd_parts_abs (a := a) hb
  have hgp := gcd_pos_r (a := a) hb
  have e1 : a / g = a' := by
    rw [hg, Int.ediv_eq_iff_eq_mul_right (by omega) (Int.gcd_dvd_left a b)]
    exact ea
  have hb' : b' ≠ 0 := by
    rintro rfl
    exact hb (by rw [eb]; simp)
  rw [← hg, hk] at hd
  subst hg
  refine ⟨by omega, Int.tdiv_eq_ediv_of_dvd (Int.gcd_dvd_left a b), ?_, fun h1 => bez_inv hb (Int.le_refl 0) (by rw [hk]; omega) (by rw [hk, h1]; exact Int.one_dvd _), fun x hx => ?_⟩
  · rw [e1, gcd_emod, hd]
    unfold Int.gcd at hc ⊢
    simpa using hc
  · refine bez_inv hb hx.1 (by rw [hk]; exact hx.2.1) ?_
    rw [hk]
    obtain ⟨t, ht⟩ := hx.2.2
    have hq := Int.emod_add_mul_ediv (a / (Int.gcd a b : Nat)) k
    generalize a / (Int.gcd a b : Nat) = A at *
    refine ⟨t + A / k * x, ?_⟩
    have e2 : A % k = A - k * (A / k) := by omega
    rw [e2] at ht
    generalize A / k = q at *
    have : A * x - 1 = ((A - k * q) * x - 1) + k * (q * x) := by grind
    rw [this, ht]
    grind

/-- Without their common divisor, the remainder and the modulus have none. -/
theorem sol_cop {a m : Int} (hm : 0 < m) : Int.gcd (a % m / (Int.gcd a m : Nat) % (m / (Int.gcd a m : Nat))) (m / (Int.gcd a m : Nat)) = 1 ∧ 0 < m / ((Int.gcd a m : Nat) : Int) ∧ ((Int.gcd a m : Nat) : Int) ∣ a % m := by
  obtain ⟨a', m', ea, em, hc, e⟩ := gcd_parts (a := a % m) (m := m) (by omega)
  have hg := gcd_pos_r (a := a) (m := m) (by omega)
  rw [gcd_emod] at ea em e
  have e1 : a % m / ((Int.gcd a m : Nat) : Int) = a' := by
    conv => lhs; rw [ea]
    rw [Int.mul_ediv_cancel_left _ (by omega)]
  have hm' : 0 < m' := by
    rcases Int.lt_trichotomy m' 0 with h0 | h0 | h0
    · exfalso
      have := Int.mul_neg_of_pos_of_neg (show (0 : Int) < (Int.gcd a m : Nat) by omega) h0
      omega
    · rw [h0] at em; simp at em; omega
    · exact h0
  rw [gcd_emod, e1, e]
  exact ⟨hc, hm', ⟨a', ea⟩⟩

theorem ceil_spec {n d : Int} (hd : 0 < d) : (n + -n % d).tdiv d = -(-n / d) := by
  have e := Int.emod_add_mul_ediv (-n) d
  have : n + -n % d = d * (-(-n / d)) := by rw [Int.mul_neg]; omega
  rw [this, Int.mul_tdiv_cancel_left _ (by omega)]

/-- Both remainders by one congruence of the model. -/
theorem com_spec {r m s n x t : Int} (hm : 0 < m) (hn : 0 < n) (h : IsSol m ((s - r % m) % n) n x t) : IsCom r m s n (r % m + m * x) (m * t) := by
  have h' := (sol_emod (a := m) (b := s - r % m) (m := n)).1 h
  refine isCom_of hm hn ⟨Int.emod_nonneg _ (by omega), Int.emod_lt_of_pos _ hm⟩ ?_ h'
  have hq := Int.emod_add_mul_ediv r m
  exact ⟨-(r / m), by rw [Int.mul_neg]; omega⟩
theorem com_none {r m s n : Int} : ((Int.gcd m n : Nat) : Int) ∣ (s - r % m) % n ↔ ((Int.gcd m n : Nat) : Int) ∣ s - r := by
  rw [dvd_emod (Int.gcd_dvd_right m n)]
  have hq := Int.emod_add_mul_ediv r m
  have hg : ((Int.gcd m n : Nat) : Int) ∣ m * (r / m) := Int.dvd_mul_of_dvd_left (Int.gcd_dvd_left m n)
  constructor
  · intro h
    have : s - r = (s - r % m) - m * (r / m) := by omega
    rw [this]
    exact Int.dvd_sub h hg
  · intro h
    have : s - r % m = (s - r) + m * (r / m) := by omega
    rw [this]
    exact Int.dvd_add h hg

end Go.Proofs.YtpheihejgnlanaaDoor
