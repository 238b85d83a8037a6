/- Numbers: inverses, congruences, sums of multiples, first solutions. -/
import Derived.Test.YtpheihejgnlanaaDoorBas
namespace Go.Proofs.YtpheihejgnlanaaDoor

/-- A multiple of m that is nearer to 0 than m is 0. -/
theorem small_dvd {m d : Int} (h : m ∣ d) (h1 : -m < d) (h2 : d < m) : d = 0 := by
  obtain ⟨k, rfl⟩ := h
  rcases Int.lt_trichotomy k 0 with hk | hk | hk
  · exfalso
    have : m * k ≤ m * (-1) := Int.mul_le_mul_of_nonneg_left (by omega) (by omega)
    omega
  · rw [hk, Int.mul_zero]
  · exfalso
    have : m * 1 ≤ m * k := Int.mul_le_mul_of_nonneg_left (by omega) (by omega)
    omega

theorem gcd_step' (a b : Int) : Int.gcd b (a.tmod b) = Int.gcd a b := by
  unfold Int.gcd
  rw [Int.natAbs_tmod, Nat.gcd_comm b.natAbs, ← Nat.gcd_rec, Nat.gcd_comm]

theorem bez_n : ∀ (n : Nat) (a b : Int), b.natAbs ≤ n → ∃ x y : Int, a * x + b * y = (Int.gcd a b : Nat) := by
  intro n
  induction n with
  | zero =>
    intro a b hb
    obtain rfl : b = 0 := by omega
    refine ⟨if 0 ≤ a then 1 else -1, 0, ?_⟩
    simp
    split <;> omega
  | succ n ih =>
    intro a b hb
    by_cases h0 : b = 0
    · subst h0
      refine ⟨if 0 ≤ a then 1 else -1, 0, ?_⟩
      simp
      split <;> omega
    · have ht : (a.tmod b).natAbs < b.natAbs := by
        rw [Int.natAbs_tmod]
        exact Nat.mod_lt _ (by omega)
      obtain ⟨x, y, h⟩ := ih b (a.tmod b) (by omega)
      rw [gcd_step'] at h
      refine ⟨y, x - a.tdiv b * y, ?_⟩
      rw [← h]
      have e := Int.tmod_add_mul_tdiv a b
      have e2 : a.tmod b = a - b * a.tdiv b := by omega
      rw [e2]
      grind

/-- The greatest common divisor is a sum of multiples. -/
theorem bez (a b : Int) : ∃ x y : Int, a * x + b * y = (Int.gcd a b : Nat) := bez_n _ a b (Nat.le_refl _)

/-- What divides a product and has no divisor in common with a factor divides the other one. -/
theorem cop_dvd {m a x : Int} (hc : Int.gcd a m = 1) (h : m ∣ a * x) : m ∣ x := by
  obtain ⟨u, v, e⟩ := bez a m
  obtain ⟨k, hk⟩ := h
  rw [hc] at e
  refine ⟨k * u + v * x, ?_⟩
  have : x = (a * u + m * v) * x := by rw [e]; simp
  rw [this]
  grind

/-- x is the inverse of a modulo m. -/
def IsInv (a m x : Int) : Prop := 0 ≤ x ∧ x < m ∧ m ∣ a * x - 1

theorem isInv_unique {a m x y : Int} (hx : IsInv a m x) (hy : IsInv a m y) : x = y := by
  obtain ⟨x0, x1, k, hk⟩ := hx
  obtain ⟨y0, y1, l, hl⟩ := hy
  have h : m ∣ x - y := ⟨k * y - x * l, by
    have e1 : a * x = m * k + 1 := by omega
    have e2 : a * y = m * l + 1 := by omega
    have : x * (a * y) = y * (a * x) := by grind
    rw [e1, e2] at this
    grind⟩
  have := small_dvd h (by omega) (by omega)
  omega

theorem isInv_gcd {a m x : Int} (h : IsInv a m x) : Int.gcd a m = 1 := by
  obtain ⟨_, _, k, hk⟩ := h
  rw [Int.gcd_eq_one_iff]
  intro c h1 h2
  have : (1 : Int) = a * x - m * k := by omega
  rw [this]
  exact Int.dvd_sub (Int.dvd_mul_of_dvd_left h1) (Int.dvd_mul_of_dvd_left h2)

theorem isInv_exists {a m : Int} (hm : 0 < m) (hc : Int.gcd a m = 1) : ∃ x, IsInv a m x := by
  obtain ⟨u, v, e⟩ := bez a m
  rw [hc] at e
  refine ⟨u % m, Int.emod_nonneg _ (by omega), Int.emod_lt_of_pos _ hm, ?_⟩
  have h := Int.emod_add_mul_ediv u m
  have : a * (u % m) - 1 = m * (-v - a * (u / m)) := by
    have e2 : u % m = u - m * (u / m) := by omega
    rw [e2]
    have e3 : (1 : Int) = a * u + m * v := by omega
    rw [e3]
    grind
  exact ⟨_, this⟩

/-- The inverse and whether there is one. -/
noncomputable def invV (a m : Int) : Int × Bool := open Classical in if h : ∃ x, IsInv a m x then (Classical.choose h, true) else (0, false)
theorem invV_yes {a m x : Int} (h : IsInv a m x) : invV a m = (x, true) := by
  unfold invV
  rw [dif_pos ⟨x, h⟩]
  have := isInv_unique (Classical.choose_spec (⟨x, h⟩ : ∃ x, IsInv a m x)) h
  rw [this]
theorem invV_no {a m : Int} (h : Int.gcd a m ≠ 1) : invV a m = (0, false) := by
  unfold invV
  rw [dif_neg (fun ⟨x, hx⟩ => h (isInv_gcd hx))]

/-- x is the least solution of a congruence, s the step to the next one. -/
def IsSol (a b m x s : Int) : Prop := s = m / (Int.gcd a m : Nat) ∧ 0 ≤ x ∧ x < s ∧ m ∣ a * x - b

theorem gcd_pos_r {a m : Int} (hm : m ≠ 0) : 0 < Int.gcd a m := Int.gcd_pos_of_ne_zero_right a hm

/-- Both numbers divided by their greatest common divisor. -/
theorem gcd_parts {a m : Int} (hm : m ≠ 0) : ∃ a' m' : Int, a = (Int.gcd a m : Nat) * a' ∧ m = (Int.gcd a m : Nat) * m' ∧ Int.gcd a' m' = 1 ∧ m / (Int.gcd a m : Nat) = m' := by
  have hg := gcd_pos_r (a := a) hm
  obtain ⟨a', ha⟩ := Int.gcd_dvd_left a m
  obtain ⟨m', hm'⟩ := Int.gcd_dvd_right a m
  refine ⟨a', m', ha, hm', ?_, ?_⟩
  · have h := Int.gcd_mul_left (Int.gcd a m : Nat) a' m'
    rw [← ha, ← hm'] at h
    simp only [Int.natAbs_natCast] at h
    have : Int.gcd a m * 1 = Int.gcd a m * Int.gcd a' m' := by omega
    exact (Nat.eq_of_mul_eq_mul_left hg this).symm
  · rw [Int.ediv_eq_iff_eq_mul_right (by omega) (Int.gcd_dvd_right a m)]
    exact hm'

theorem isSol_unique {a b m x s y t : Int} (hm : m ≠ 0) (hx : IsSol a b m x s) (hy : IsSol a b m y t) : x = y ∧ s = t := by
  obtain ⟨rfl, x0, x1, hx⟩ := hx
  obtain ⟨rfl, y0, y1, hy⟩ := hy
  obtain ⟨a', m', ha, hm', hc, hd⟩ := gcd_parts (a := a) hm
  have hg := gcd_pos_r (a := a) hm
  have h1 : m ∣ a * (x - y) := by
    have := Int.dvd_sub hx hy
    have e : a * x - b - (a * y - b) = a * (x - y) := by grind
    rwa [e] at this
  have h2 : m' ∣ a' * (x - y) := by
    obtain ⟨k, hk⟩ := h1
    refine ⟨k, ?_⟩
    have : ((Int.gcd a m : Nat) : Int) * (a' * (x - y)) = (Int.gcd a m : Nat) * (m' * k) := by
      rw [← Int.mul_assoc, ← Int.mul_assoc, ← ha, ← hm']
      exact hk
    exact Int.eq_of_mul_eq_mul_left (by omega) this
  have h3 := small_dvd (cop_dvd hc h2) (by omega) (by omega)
  exact ⟨by omega, rfl⟩

theorem isSol_dvd {a b m x s : Int} (h : IsSol a b m x s) : ((Int.gcd a m : Nat) : Int) ∣ b := by
  obtain ⟨_, _, _, k, hk⟩ := h
  have : b = a * x - m * k := by omega
  rw [this]
  exact Int.dvd_sub (Int.dvd_mul_of_dvd_left (Int.gcd_dvd_left a m)) (Int.dvd_mul_of_dvd_left (Int.gcd_dvd_right a m))

/-- A number that solves gives the least one. -/
theorem isSol_of {a b m u : Int} (hm : 0 < m) (h : m ∣ a * u - b) : IsSol a b m (u % (m / (Int.gcd a m : Nat))) (m / (Int.gcd a m : Nat)) := by
  obtain ⟨a', m', ha, hm', hc, hd⟩ := gcd_parts (a := a) (m := m) (by omega)
  have hg := gcd_pos_r (a := a) (m := m) (by omega)
  have hm0 : 0 < m' := by
    rcases Int.lt_trichotomy m' 0 with h0 | h0 | h0
    · exfalso
      have := Int.mul_neg_of_pos_of_neg (show (0 : Int) < (Int.gcd a m : Nat) by omega) h0
      omega
    · rw [h0] at hm'; simp at hm'; omega
    · exact h0
  rw [hd]
  refine ⟨hd.symm, Int.emod_nonneg _ (by omega), Int.emod_lt_of_pos _ hm0, ?_⟩
  obtain ⟨k, hk⟩ := h
  have h := Int.emod_add_mul_ediv u m'
  have e2 : u % m' = u - m' * (u / m') := by omega
  refine ⟨k - a' * (u / m'), ?_⟩
  have e4 : a * m' = m * a' := by
    generalize ((Int.gcd a m : Nat) : Int) = g at ha hm'
    rw [ha, hm']
    simp only [Int.mul_comm, Int.mul_left_comm]
  rw [e2]
  have : a * (u - m' * (u / m')) - b = (a * u - b) - (a * m') * (u / m') := by grind
  rw [this, hk, e4]
  grind

theorem isSol_exists {a b m : Int} (hm : 0 < m) (h : ((Int.gcd a m : Nat) : Int) ∣ b) : ∃ x, IsSol a b m x (m / (Int.gcd a m : Nat)) := by
  obtain ⟨u, v, e⟩ := bez a m
  obtain ⟨k, rfl⟩ := h
  refine ⟨_, isSol_of (u := u * k) hm ⟨-(v * k), ?_⟩⟩
  rw [← e]
  grind

noncomputable def solV (a b m : Int) : Int × Int × Bool := open Classical in if h : ∃ x, IsSol a b m x (m / (Int.gcd a m : Nat)) then (Classical.choose h, m / (Int.gcd a m : Nat), true) else (0, 0, false)
theorem solV_yes {a b m x s : Int} (hm : m ≠ 0) (h : IsSol a b m x s) : solV a b m = (x, s, true) := by
  have h' : IsSol a b m x (m / (Int.gcd a m : Nat)) := by have := h.1; subst this; exact h
  unfold solV
  rw [dif_pos ⟨x, h'⟩]
  have := isSol_unique hm (Classical.choose_spec (⟨x, h'⟩ : ∃ x, IsSol a b m x (m / (Int.gcd a m : Nat)))) h'
  rw [this.1, h.1]
theorem solV_no {a b m : Int} (h : ¬ ((Int.gcd a m : Nat) : Int) ∣ b) : solV a b m = (0, 0, false) := by
  unfold solV
  rw [dif_neg (fun ⟨x, hx⟩ => h (isSol_dvd hx))]

/-- x has the remainders of r and s modulo m and n, and is the least such number; t is the step to the next one. -/
def IsCom (r m s n x t : Int) : Prop := t = (Int.lcm m n : Nat) ∧ 0 ≤ x ∧ x < t ∧ m ∣ x - r ∧ n ∣ x - s

theorem lcm_dvd' {m n x : Int} (h1 : m ∣ x) (h2 : n ∣ x) : ((Int.lcm m n : Nat) : Int) ∣ x := by
  unfold Int.lcm
  have : m.natAbs.lcm n.natAbs ∣ x.natAbs := Nat.lcm_dvd (Int.natAbs_dvd_natAbs.2 h1) (Int.natAbs_dvd_natAbs.2 h2)
  exact Int.natAbs_dvd_natAbs.1 (by simpa using this)
theorem isCom_unique {r m s n x t y u : Int} (hx : IsCom r m s n x t) (hy : IsCom r m s n y u) : x = y ∧ t = u := by
  obtain ⟨rfl, x0, x1, x2, x3⟩ := hx
  obtain ⟨rfl, y0, y1, y2, y3⟩ := hy
  have h1 := Int.dvd_sub x2 y2
  have h2 := Int.dvd_sub x3 y3
  have e1 : x - r - (y - r) = x - y := by omega
  have e2 : x - s - (y - s) = x - y := by omega
  rw [e1] at h1
  rw [e2] at h2
  have := small_dvd (lcm_dvd' h1 h2) (by omega) (by omega)
  exact ⟨by omega, rfl⟩
theorem isCom_dvd {r m s n x t : Int} (h : IsCom r m s n x t) : ((Int.gcd m n : Nat) : Int) ∣ s - r := by
  obtain ⟨_, _, _, h1, h2⟩ := h
  have e : s - r = (x - r) - (x - s) := by omega
  rw [e]
  exact Int.dvd_sub (Int.dvd_trans (Int.gcd_dvd_left m n) h1) (Int.dvd_trans (Int.gcd_dvd_right m n) h2)
noncomputable def comV (r m s n : Int) : Int × Int × Bool := open Classical in if h : ∃ x, IsCom r m s n x (Int.lcm m n : Nat) then (Classical.choose h, (Int.lcm m n : Nat), true) else (0, 0, false)
theorem comV_yes {r m s n x t : Int} (h : IsCom r m s n x t) : comV r m s n = (x, t, true) := by
  have h' : IsCom r m s n x (Int.lcm m n : Nat) := by have := h.1; subst this; exact h
  unfold comV
  rw [dif_pos ⟨x, h'⟩]
  have := isCom_unique (Classical.choose_spec (⟨x, h'⟩ : ∃ x, IsCom r m s n x (Int.lcm m n : Nat))) h'
  rw [this.1, h.1]
theorem comV_no {r m s n : Int} (h : ¬ ((Int.gcd m n : Nat) : Int) ∣ s - r) : comV r m s n = (0, 0, false) := by
  unfold comV
  rw [dif_neg (fun ⟨x, hx⟩ => h (isCom_dvd hx))]

/-- g is the greatest common divisor, and x the least factor of a that is not negative; without b it is 1 or -1. -/
def IsBez (a b g x y : Int) : Prop := g = (Int.gcd a b : Nat) ∧ a * x + b * y = g ∧ (b ≠ 0 → 0 ≤ x ∧ x < (b.natAbs : Int) / g) ∧ (b = 0 → y = 0)

theorem gcd_parts_abs {a b : Int} (hb : b ≠ 0) : ∃ a' b' : Int, a = (Int.gcd a b : Nat) * a' ∧ b = (Int.gcd a b : Nat) * b' ∧ Int.gcd a' b' = 1 ∧ (b.natAbs : Int) / (Int.gcd a b : Nat) = b'.natAbs := by
  obtain ⟨a', b', h1, h2, h3, h4⟩ := gcd_parts (a := a) hb
  refine ⟨a', b', h1, h2, h3, ?_⟩
  have hg := gcd_pos_r (a := a) hb
  generalize hG : ((Int.gcd a b : Nat) : Int) = g at h1 h2 h4 ⊢
  have hg' : 0 < g := by omega
  have e : (b.natAbs : Int) = g * (b'.natAbs : Int) := by
    rw [h2, Int.natAbs_mul, Int.natCast_mul]
    congr 1
    omega
  rw [e, Int.mul_ediv_cancel_left _ (by omega)]

theorem isBez_unique {a b g x y g' x' y' : Int} (h0 : ¬ (a = 0 ∧ b = 0)) (h : IsBez a b g x y) (h' : IsBez a b g' x' y') : g = g' ∧ x = x' ∧ y = y' := by
  obtain ⟨rfl, e, h1, h2⟩ := h
  obtain ⟨rfl, e', h1', h2'⟩ := h'
  refine ⟨rfl, ?_⟩
  by_cases hb : b = 0
  · subst hb
    have ha : a ≠ 0 := fun h => h0 ⟨h, rfl⟩
    have : a * x = a * x' := by
      simp only [Int.zero_mul, Int.add_zero] at e e'
      rw [e, e']
    exact ⟨Int.eq_of_mul_eq_mul_left ha this, by rw [h2 rfl, h2' rfl]⟩
  · obtain ⟨a', b', ea, eb, hc, hd⟩ := gcd_parts_abs (a := a) hb
    have hg := gcd_pos_r (a := a) hb
    obtain ⟨x0, x1⟩ := h1 hb
    obtain ⟨y0, y1⟩ := h1' hb
    rw [hd] at x1 y1
    have hx : x = x' := by
      have e1 : a * (x - x') = b * (y' - y) := by grind
      have e2 : a' * (x - x') = b' * (y' - y) := by
        have : ((Int.gcd a b : Nat) : Int) * (a' * (x - x')) = (Int.gcd a b : Nat) * (b' * (y' - y)) := by
          rw [← Int.mul_assoc, ← Int.mul_assoc, ← ea, ← eb]
          exact e1
        exact Int.eq_of_mul_eq_mul_left (by omega) this
      have h3 : b' ∣ x - x' := cop_dvd hc ⟨_, e2⟩
      have h4 : (b'.natAbs : Int) ∣ x - x' := Int.natAbs_dvd_natAbs.1 (by simpa using Int.natAbs_dvd_natAbs.2 h3)
      have := small_dvd h4 (by omega) (by omega)
      omega
    subst hx
    refine ⟨rfl, ?_⟩
    have : b * y = b * y' := by omega
    exact Int.eq_of_mul_eq_mul_left hb this

theorem isBez_exists {a b : Int} : ∃ x y, IsBez a b (Int.gcd a b : Nat) x y := by
  by_cases hb : b = 0
  · subst hb
    refine ⟨if 0 ≤ a then 1 else -1, 0, rfl, ?_, fun h => absurd rfl h, fun _ => rfl⟩
    simp
    split <;> omega
  · obtain ⟨u, v, e⟩ := bez a b
    obtain ⟨a', b', ea, eb, hc, hd⟩ := gcd_parts_abs (a := a) hb
    have hg := gcd_pos_r (a := a) hb
    have hb' : 0 < (b'.natAbs : Int) := by
      have : b' ≠ 0 := by
        rintro rfl
        exact hb (by rw [eb]; simp)
      omega
    have hm := Int.emod_add_mul_ediv u (b'.natAbs : Int)
    obtain ⟨s, hs⟩ : ∃ s : Int, (b'.natAbs : Int) = b' * s := Int.natAbs_dvd_natAbs.1 (by simp)
    refine ⟨u % (b'.natAbs : Int), v + a' * s * (u / (b'.natAbs : Int)), rfl, ?_, fun _ => ⟨Int.emod_nonneg _ (by omega), by rw [hd]; exact Int.emod_lt_of_pos _ hb'⟩, fun h => absurd h hb⟩
    have e2 : u % (b'.natAbs : Int) = u - b' * s * (u / (b'.natAbs : Int)) := by rw [← hs]; omega
    rw [e2, ← e]
    have e3 : a * b' = b * a' := by
      generalize ((Int.gcd a b : Nat) : Int) = g at ea eb
      rw [ea, eb]
      simp only [Int.mul_comm, Int.mul_left_comm]
    generalize u / (b'.natAbs : Int) = q
    have : a * (u - b' * s * q) + b * (v + a' * s * q) = a * u + b * v + (b * a' - a * b') * (s * q) := by grind
    rw [this, e3]
    simp

noncomputable def bezV (a b : Int) : Int × Int × Int := ((Int.gcd a b : Nat), Classical.choose (isBez_exists (a := a) (b := b)), Classical.choose (Classical.choose_spec (isBez_exists (a := a) (b := b))))
theorem bezV_is {a b g x y : Int} (h0 : ¬ (a = 0 ∧ b = 0)) (h : IsBez a b g x y) : bezV a b = (g, x, y) := by
  obtain ⟨rfl, rfl, rfl⟩ := isBez_unique h0 (Classical.choose_spec (Classical.choose_spec (isBez_exists (a := a) (b := b)))) h
  rfl

/-- The first solution of an equation: x is the least one, and then y. -/
def IsLeast (a b c x y : Int) : Prop := 0 ≤ x ∧ 0 ≤ y ∧ a * x + b * y = c ∧ ∀ u v : Int, 0 ≤ u → 0 ≤ v → a * u + b * v = c → x < u ∨ (x = u ∧ y ≤ v)
theorem isLeast_unique {a b c x y u v : Int} (h : IsLeast a b c x y) (h' : IsLeast a b c u v) : x = u ∧ y = v := by
  have h1 := h.2.2.2 u v h'.1 h'.2.1 h'.2.2.1
  have h2 := h'.2.2.2 x y h.1 h.2.1 h.2.2.1
  omega
/-- Whether there is a solution. -/
def Solves (a b c : Int) : Prop := ∃ u v : Int, 0 ≤ u ∧ 0 ≤ v ∧ a * u + b * v = c
theorem least_nat (P : Nat → Prop) (h : ∃ n, P n) : ∃ n, P n ∧ ∀ m, m < n → ¬ P m := by
  obtain ⟨n, hn⟩ := h
  induction n using Nat.strongRecOn with
  | _ n ih =>
    by_cases hm : ∃ m, m < n ∧ P m
    · obtain ⟨m, hm, hp⟩ := hm
      exact ih m hm hp
    · exact ⟨n, hn, fun m hm' hp => hm ⟨m, hm', hp⟩⟩
theorem isLeast_exists {a b c : Int} (h : Solves a b c) : ∃ x y, IsLeast a b c x y := by
  obtain ⟨u, v, hu, hv, e⟩ := h
  obtain ⟨x, ⟨y0, hy0, ex⟩, hx⟩ := least_nat (fun n => ∃ v : Int, 0 ≤ v ∧ a * n + b * v = c) ⟨u.toNat, v, hv, by rw [Int.toNat_of_nonneg hu]; exact e⟩
  obtain ⟨y, ey, hy⟩ := least_nat (fun n => a * x + b * (n : Int) = c) ⟨y0.toNat, by rw [Int.toNat_of_nonneg hy0]; exact ex⟩
  refine ⟨x, y, by omega, by omega, ey, fun u v hu hv e => ?_⟩
  rcases Int.lt_trichotomy (x : Int) u with h1 | h1 | h1
  · exact .inl h1
  · refine .inr ⟨h1, ?_⟩
    subst h1
    rcases Int.lt_or_le v y with h2 | h2
    · exact absurd (by rw [Int.toNat_of_nonneg hv]; exact e) (hy v.toNat (by omega))
    · exact h2
  · exact absurd ⟨v, hv, by rw [Int.toNat_of_nonneg hu]; exact e⟩ (hx u.toNat (by omega))
noncomputable def lsV (a b c : Int) : Int × Int × Bool := open Classical in if h : Solves a b c then (Classical.choose (isLeast_exists h), Classical.choose (Classical.choose_spec (isLeast_exists h)), true) else (0, 0, false)
theorem lsV_yes {a b c x y : Int} (h : IsLeast a b c x y) : lsV a b c = (x, y, true) := by
  have hs : Solves a b c := ⟨x, y, h.1, h.2.1, h.2.2.1⟩
  unfold lsV
  rw [dif_pos hs]
  have := isLeast_unique (Classical.choose_spec (Classical.choose_spec (isLeast_exists hs))) h
  exact Prod.ext this.1 (Prod.ext this.2 rfl)
theorem lsV_no {a b c : Int} (h : ¬ Solves a b c) : lsV a b c = (0, 0, false) := by
  unfold lsV
  rw [dif_neg h]

/-- The first solution is not far, if the coefficients are small. -/
theorem isLeast_near {a b c x y : Int} (ha : -100 ≤ a ∧ a ≤ 100) (hb : -100 ≤ b ∧ b ≤ 100) (hc : -10000 ≤ c ∧ c ≤ 10000) (h : IsLeast a b c x y) : x ≤ 20000 := by
  obtain ⟨hx, hy, e, hl⟩ := h
  apply Decidable.byContradiction
  intro hn
  by_cases h0 : b = 0
  · subst h0
    have hax : a * x = c := by simpa using e
    rcases Int.lt_trichotomy a 0 with h | h | h
    · have : a * x ≤ (-1) * x := Int.mul_le_mul_of_nonneg_right (by omega) (by omega)
      omega
    · subst h
      have := hl 0 y (by omega) hy (by simpa using e)
      omega
    · have : 1 * x ≤ a * x := Int.mul_le_mul_of_nonneg_right (by omega) (by omega)
      omega
  · -- one step back
    have hstep : ∀ t : Int, 0 ≤ x - b * t → 0 ≤ y + a * t → ¬ (x - b * t < x) := fun t h1 h2 h3 => by
      have := hl (x - b * t) (y + a * t) h1 h2 (by rw [← e]; grind)
      omega
    rcases Int.lt_or_le b 0 with hb0 | hb0
    · by_cases hya : 0 ≤ y + a * (-1)
      · exact hstep (-1) (by omega) hya (by omega)
      · -- y < a, so a * x = c - b * y is small
        have h1 : 1 * x ≤ a * x := Int.mul_le_mul_of_nonneg_right (by omega) (by omega)
        have h2 : (-100) * y ≤ b * y := Int.mul_le_mul_of_nonneg_right (by omega) (by omega)
        omega
    · by_cases hya : 0 ≤ y + a * 1
      · exact hstep 1 (by omega) hya (by omega)
      · have h1 : a * x ≤ (-1) * x := Int.mul_le_mul_of_nonneg_right (by omega) (by omega)
        have h2 : b * y ≤ 100 * y := Int.mul_le_mul_of_nonneg_right (by omega) (by omega)
        omega


theorem lcm_of_gcd {m n : Int} (hm : 0 < m) (hn : 0 < n) : m * (n / (Int.gcd m n : Nat)) = (Int.lcm m n : Nat) := by
  obtain ⟨m', n', e1, e2, _, e3⟩ := gcd_parts (a := m) (m := n) (by omega)
  have hg := gcd_pos_r (a := m) (m := n) (by omega)
  rw [e3]
  have h := Nat.gcd_mul_lcm m.natAbs n.natAbs
  have h' : ((Int.gcd m n : Nat) : Int) * (Int.lcm m n : Nat) = m * n := by
    unfold Int.gcd Int.lcm
    rw [← Int.natCast_mul, h, Int.natCast_mul]
    congr 1 <;> omega
  have : ((Int.gcd m n : Nat) : Int) * (m * n') = (Int.gcd m n : Nat) * (Int.lcm m n : Nat) := by
    rw [h', ← Int.mul_assoc, Int.mul_comm _ m, Int.mul_assoc, ← e2]
  exact Int.eq_of_mul_eq_mul_left (by omega) this

/-- Both congruences by one. -/
theorem isCom_of {r m s n x t r' : Int} (hm : 0 < m) (hn : 0 < n) (hr : 0 ≤ r' ∧ r' < m) (hrr : m ∣ r' - r) (h : IsSol m (s - r') n x t) : IsCom r m s n (r' + m * x) (m * t) := by
  obtain ⟨rfl, x0, x1, hx⟩ := h
  refine ⟨lcm_of_gcd hm hn, ?_, ?_, ?_, ?_⟩
  · have := Int.mul_nonneg (Int.le_of_lt hm) x0
    omega
  · have := Int.mul_le_mul_of_nonneg_left (show x + 1 ≤ n / (Int.gcd m n : Nat) by omega) (Int.le_of_lt hm)
    rw [Int.mul_add] at this
    omega
  · obtain ⟨k, hk⟩ := hrr
    exact ⟨k + x, by rw [Int.mul_add, ← hk]; omega⟩
  · have e : m * x - (s - r') = r' + m * x - s := by omega
    rwa [e] at hx


end Go.Proofs.YtpheihejgnlanaaDoor
