/- Numbers: the first solution of an equation, step by step. -/
import Derived.Test.YtpheihejgnlanaaDoorNumC
namespace Go.Proofs.YtpheihejgnlanaaDoor

/-! The first solution of an equation, step by step. -/

/-- What the least solution of the congruence gives. -/
theorem pair_parts {a b c x s : Int} (hb : b ≠ 0) (h : IsSol a c (b.natAbs : Int) x s) :
    0 < s ∧ s ≤ (b.natAbs : Int) ∧ b * (c - a * x).tdiv b = c - a * x ∧ b * (-a * s).tdiv b = -a * s ∧
    ∀ u v : Int, 0 ≤ u → a * u + b * v = c → ∃ k : Int, 0 ≤ k ∧ u = x + k * s ∧ v = (c - a * x).tdiv b + k * (-a * s).tdiv b := by
  have hB : 0 < (b.natAbs : Int) := by omega
  have hx0 := h.2.1
  have hx1 := h.2.2.1
  have hs0 : 0 < s := by omega
  have hd1 : b ∣ c - a * x := by
    have : b ∣ a * x - c := Int.natAbs_dvd.1 h.2.2.2
    have := Int.dvd_neg.2 this
    rwa [Int.neg_sub] at this
  have hd2 : b ∣ -a * s := by
    obtain ⟨a', m', ea, em, _, e⟩ := gcd_parts (a := a) (m := (b.natAbs : Int)) (by omega)
    have hs : s = m' := by rw [h.1, e]
    have : -a * s = (b.natAbs : Int) * (-a') := by
      rw [hs]
      conv => lhs; rw [ea]
      conv => rhs; rw [em]
      grind
    rw [this]
    exact Int.dvd_mul_of_dvd_left (Int.dvd_natAbs.2 (Int.dvd_refl b))
  have e1 := Int.mul_tdiv_cancel' hd1
  have e2 := Int.mul_tdiv_cancel' hd2
  refine ⟨hs0, by rw [h.1]; exact Int.ediv_le_self _ (by omega), e1, e2, fun u v hu e => ?_⟩
  have hsol : (b.natAbs : Int) ∣ a * u - c := Int.natAbs_dvd.2 ⟨-v, by rw [Int.mul_neg]; omega⟩
  have h2 := isSol_of hB hsol
  rw [← h.1] at h2
  obtain ⟨hxu, _⟩ := isSol_unique (by omega) h h2
  have hq := Int.emod_add_mul_ediv u s
  refine ⟨u / s, Int.ediv_nonneg hu (by omega), by rw [hxu, Int.mul_comm (u / s)]; exact hq.symm, ?_⟩
  have : b * v = b * ((c - a * x).tdiv b + u / s * (-a * s).tdiv b) := by
    rw [Int.mul_add, e1]
    have : b * (u / s * (-a * s).tdiv b) = u / s * (b * (-a * s).tdiv b) := by simp only [Int.mul_left_comm]
    rw [this, e2]
    have hu2 : u = x + s * (u / s) := by rw [hxu]; exact hq.symm
    generalize u / s = k at *
    rw [hu2] at e
    grind
  exact Int.eq_of_mul_eq_mul_left hb this

theorem pair_now {a b c x s : Int} (hb : b ≠ 0) (h : IsSol a c (b.natAbs : Int) x s) (hy : 0 ≤ (c - a * x).tdiv b) : IsLeast a b c x ((c - a * x).tdiv b) := by
  obtain ⟨hs0, _, e1, _, hall⟩ := pair_parts hb h
  refine ⟨h.2.1, hy, by omega, fun u v hu hv e => ?_⟩
  obtain ⟨k, hk, rfl, rfl⟩ := hall u v hu e
  rcases Int.lt_or_le 0 k with h0 | h0
  · exact .inl (by have := Int.mul_pos h0 hs0; omega)
  · have : k = 0 := by omega
    subst this
    exact .inr ⟨by omega, by omega⟩

theorem pair_never {a b c x s : Int} (hb : b ≠ 0) (h : IsSol a c (b.natAbs : Int) x s) (hy : (c - a * x).tdiv b < 0) (hr : (-a * s).tdiv b ≤ 0) : ¬ Solves a b c := by
  rintro ⟨u, v, hu, hv, e⟩
  obtain ⟨_, _, _, _, hall⟩ := pair_parts hb h
  obtain ⟨k, hk, _, rfl⟩ := hall u v hu e
  have := Int.mul_nonneg hk (show 0 ≤ -((-a * s).tdiv b) by omega)
  rw [Int.mul_neg] at this
  omega

theorem pair_later {a b c x s t : Int} (hb : b ≠ 0) (h : IsSol a c (b.natAbs : Int) x s) (hr : 0 < (-a * s).tdiv b)
    (h1 : -(c - a * x).tdiv b ≤ (-a * s).tdiv b * t) (h2 : (-a * s).tdiv b * (t - 1) < -(c - a * x).tdiv b) (ht : 0 ≤ t) :
    IsLeast a b c (x + t * s) ((c - a * x).tdiv b + t * (-a * s).tdiv b) := by
  obtain ⟨hs0, _, e1, e2, hall⟩ := pair_parts hb h
  refine ⟨?_, ?_, ?_, fun u v hu hv e => ?_⟩
  · have := Int.mul_nonneg ht (Int.le_of_lt hs0)
    have := h.2.1
    omega
  · rw [Int.mul_comm t]; omega
  · rw [Int.mul_add b, e1]
    have : b * (t * (-a * s).tdiv b) = t * (b * (-a * s).tdiv b) := by simp only [Int.mul_left_comm]
    rw [this, e2]
    grind
  · obtain ⟨k, hk, rfl, rfl⟩ := hall u v hu e
    have hkt : t ≤ k := by
      apply Decidable.byContradiction
      intro hn
      have : (-a * s).tdiv b * k ≤ (-a * s).tdiv b * (t - 1) := Int.mul_le_mul_of_nonneg_left (by omega) (by omega)
      rw [Int.mul_comm k] at hv
      omega
    rcases Int.lt_or_le t k with h0 | h0
    · left
      have : t * s < k * s := Int.mul_lt_mul_of_pos_right h0 hs0
      omega
    · have : k = t := by omega
      subst this
      exact .inr ⟨rfl, Int.le_refl _⟩

theorem least_swap {a c x y : Int} (ha : a ≠ 0) (h : IsLeast 0 a c x y) : IsLeast a 0 c y x := by
  obtain ⟨hx, hy, e, hl⟩ := h
  have hx0 : x = 0 := by
    have := hl 0 y (by omega) hy (by omega)
    omega
  subst hx0
  refine ⟨hy, hx, by omega, fun u v hu hv e' => ?_⟩
  right
  have : a * u = a * y := by omega
  exact ⟨(Int.eq_of_mul_eq_mul_left ha this).symm, hv⟩
theorem solves_swap {a c : Int} (h : ¬ Solves 0 a c) : ¬ Solves a 0 c := fun ⟨u, v, hu, hv, e⟩ => h ⟨v, u, hv, hu, by omega⟩

/-- A rounded quotient. -/
theorem up_exists {n d : Int} (hn : 0 < n) (hd : 0 < d) : ∃ t : Int, n ≤ d * t ∧ d * (t - 1) < n ∧ 0 < t ∧ t ≤ n := by
  have hq := Int.emod_add_mul_ediv (n - 1) d
  have h0 := Int.emod_nonneg (n - 1) (show d ≠ 0 by omega)
  have h1 := Int.emod_lt_of_pos (n - 1) hd
  have h2 := Int.ediv_nonneg (show 0 ≤ n - 1 by omega) (Int.le_of_lt hd)
  have h3 := Int.ediv_le_self d (show 0 ≤ n - 1 by omega)
  refine ⟨(n - 1) / d + 1, by rw [Int.mul_add]; omega, by simp only [Int.add_sub_cancel]; omega, by omega, by omega⟩
theorem up_is {n d t : Int} (hn : 0 < n) (hd : 0 < d) (h1 : n ≤ d * t) (h2 : d * (t - 1) < n) : t = if n.tmod d = 0 then n.tdiv d else n.tdiv d + 1 := by
  have e := Int.tmod_add_mul_tdiv n d
  have hm0 := Int.tmod_nonneg d (Int.le_of_lt hn)
  have hm1 := Int.tmod_lt_of_pos n hd
  have hmul : ∀ {i j : Int}, d * i < d * j → i < j := fun h => Int.lt_of_mul_lt_mul_left h (Int.le_of_lt hd)
  have s1 : d * (t - 1) = d * t - d := by rw [Int.mul_sub, Int.mul_one]
  split
  · have a1 : t - 1 < n.tdiv d := hmul (by omega)
    have a2 : n.tdiv d < t + 1 := hmul (by rw [Int.mul_add, Int.mul_one]; omega)
    omega
  · have a1 : t - 1 < n.tdiv d + 1 := hmul (by rw [Int.mul_add, Int.mul_one]; omega)
    have a2 : n.tdiv d < t := hmul (by omega)
    omega

/-- The model's search, a step further. -/
theorem none_next {a b c : Int} {x : Nat} (h : ∀ u v : Int, 0 ≤ u → u < x → 0 ≤ v → a * u + b * v ≠ c) (h' : ∀ v : Int, 0 ≤ v → a * x + b * v ≠ c) : ∀ u v : Int, 0 ≤ u → u < ((x + 1 : Nat) : Int) → 0 ≤ v → a * u + b * v ≠ c := by
  intro u v hu hux hv
  rcases Int.lt_or_le u x with h1 | h1
  · exact h u v hu h1 hv
  · have : u = x := by omega
    subst this
    exact h' v hv
theorem least_found {a b c y : Int} {x : Nat} (h : ∀ u v : Int, 0 ≤ u → u < x → 0 ≤ v → a * u + b * v ≠ c) (hy : 0 ≤ y) (e : a * x + b * y = c) (hl : ∀ v : Int, 0 ≤ v → a * x + b * v = c → y ≤ v) : IsLeast a b c x y := by
  refine ⟨by omega, hy, e, fun u v hu hv e' => ?_⟩
  rcases Int.lt_or_le u x with h1 | h1
  · exact absurd e' (h u v hu h1 hv)
  · rcases Int.lt_or_le x u with h2 | h2
    · exact .inl h2
    · have : u = x := by omega
      subst this
      exact .inr ⟨rfl, hl v hv e'⟩
theorem none_all {a b c : Int} (ha : -100 ≤ a ∧ a ≤ 100) (hb : -100 ≤ b ∧ b ≤ 100) (hc : -10000 ≤ c ∧ c ≤ 10000) (h : ∀ u v : Int, 0 ≤ u → u < 20001 → 0 ≤ v → a * u + b * v ≠ c) : ¬ Solves a b c := by
  intro hs
  obtain ⟨x, y, hl⟩ := isLeast_exists hs
  have := isLeast_near ha hb hc hl
  exact h x y hl.1 (by omega) hl.2.1 hl.2.2.1

end Go.Proofs.YtpheihejgnlanaaDoor
