/- Several texts in one: NumA NumC. -/
import Derived.Test.YtmkflokcficmoaaDoorBas

/- Numbers: inverses, congruences, sums of multiples, first solutions. -/
namespace Go.Proofs.YtmkflokcficmoaaDoor

/-- A multiple of m that is nearer to 0 than m is 0. -/
theorem small_dvd {m d : Int} (h : m ∣ d) (h1 : -m < d) (h2 : d < m) : d = 0 := by
  obtain ⟨k, rfl⟩ := h
  rcases Int.lt_trichotomy k 0 with hk | hk | hk
  · exfalso
    have : m * k ≤ m * (-1) := Int.mul_le_mul_of_nonneg_left (by omega) (by omega)
    omega
  · rw [hk, Int.mul_zero]
  · exfalso
    have : m * 1 ≤ m * k := Int.mul_le_mul_of_nonneg_left (by omega) (by omega)
    omega

theorem gcd_step' (a b : Int) : Int.gcd b (a.tmod b) = Int.gcd a b := by
  unfold Int.gcd
  rw [Int.natAbs_tmod, Nat.gcd_comm b.natAbs, ← Nat.gcd_rec, Nat.gcd_comm]

theorem bez_n : ∀ (n : Nat) (a b : Int), b.natAbs ≤ n → ∃ x y : Int, a * x + b * y = (Int.gcd a b : Nat) := by
  intro n
  induction n with
  | zero =>
    intro a b hb
    obtain rfl : b = 0 := by omega
    refine ⟨if 0 ≤ a then 1 else -1, 0, ?_⟩
    simp
    split <;> omega
  | succ n ih =>
    intro a b hb
    by_cases h0 : b = 0
    · subst h0
      refine ⟨if 0 ≤ a then 1 else -1, 0, ?_⟩
      simp
      split <;> omega
    · have ht : (a.tmod b).natAbs < b.natAbs := by
        rw [Int.natAbs_tmod]
        exact Nat.mod_lt _ (by omega)
      obtain ⟨x, y, h⟩ := ih b (a.tmod b) (by omega)
      rw [gcd_step'] at h
      refine ⟨y, x - a.tdiv b * y, ?_⟩
      rw [← h]
      have e := Int.tmod_add_mul_tdiv a b
      have e2 : a.tmod b = a - b * a.tdiv b := by omega
      rw [e2]
      grind

/-- The greatest common divisor is a sum of multiples. -/
theorem bez (a b : Int) : ∃ x y : Int, a * x + b * y = (Int.gcd a b : Nat) := bez_n _ a b (Nat.le_refl _)

/-- What divides a product and has no divisor in common with a factor divides the other one. -/
theorem cop_dvd {m a x : Int} (hc : Int.gcd a m = 1) (h : m ∣ a * x) : m ∣ x := by
  obtain ⟨u, v, e⟩ := bez a m
  obtain ⟨k, hk⟩ := h
  rw [hc] at e
  refine ⟨k * u + v * x, ?_⟩
  have : x = (a * u + m * v) * x := by rw [e]; simp
  rw [this]
  grind

/-- x is the inverse of a modulo m. -/
def IsInv (a m x : Int) : Prop := 0 ≤ x ∧ x < m ∧ m ∣ a * x - 1

theorem isInv_unique {a m x y : Int} (hx : IsInv a m x) (hy : IsInv a m y) : x = y := by
  obtain ⟨x0, x1, k, hk⟩ := hx
  obtain ⟨y0, y1, l, hl⟩ := hy
  have h : m ∣ x - y := ⟨k * y - x * l, by
    have e1 : a * x = m * k + 1 := by omega
    have e2 : a * y = m * l + 1 := by omega
    have : x * (a * y) = y * (a * x) := by grind
    rw [e1, e2] at this
    grind⟩
  have := small_dvd h (by omega) (by omega)
  omega

theorem isInv_gcd {a m x : Int} (h : IsInv a m x) : Int.gcd a m = 1 := by
  obtain ⟨_, _, k, hk⟩ := h
  rw [Int.gcd_eq_one_iff]
  intro c h1 h2
  have : (1 : Int) = a * x - m * k := by omega
  rw [this]
  exact Int.dvd_sub (Int.dvd_mul_of_dvd_left h1) (Int.dvd_mul_of_dvd_left h2)

theorem isInv_exists {a m : Int} (hm : 0 < m) (hc : Int.gcd a m = 1) : ∃ x, IsInv a m x := by
  obtain ⟨u, v, e⟩ := bez a m
  rw [hc] at e
  refine ⟨u % m, Int.emod_nonneg _ (by omega), Int.emod_lt_of_pos _ hm, ?_⟩
  have h := Int.emod_add_mul_ediv u m
  have : a * (u % m) - 1 = m * (-v - a * (u / m)) := by
    have e2 : u % m = u - m * (u / m) := by omega
    rw [e2]
    have e3 : (1 : Int) = a * u + m * v := by omega
    rw [e3]
    grind
  exact ⟨_, this⟩

/-- The inverse and whether there is one. -/
noncomputable def invV (a m : Int) : Int × Bool := open Classical in if h : ∃ x, IsInv a m x then (Classical.choose h, true) else (0, false)
theorem invV_yes {a m x : Int} (h : IsInv a m x) : invV a m = (x, true) := by
  unfold invV
  rw [dif_pos ⟨x, h⟩]
  have := isInv_unique (Classical.choose_spec (⟨x, h⟩ : ∃ x, IsInv a m x)) h
  rw [this]
theorem invV_no {a m : Int} (h : Int.gcd a m ≠ 1) : invV a m = (0, false) := by
  unfold invV
  rw [dif_neg (fun ⟨x, hx⟩ => h (isInv_gcd hx))]

/-- x is the least solution of a congruence, s the step to the next one. -/
def IsSol (a b m x s : Int) : Prop := s = m / (Int.gcd a m : Nat) ∧ 0 ≤ x ∧ x < s ∧ m ∣ a * x - b

theorem gcd_pos_r {a m : Int} (hm : m ≠ 0) : 0 < Int.gcd a m := Int.gcd_pos_of_ne_zero_right a hm

/-- Both numbers divided by their greatest common divisor. -/
theorem gcd_parts {a m : Int} (hm : m ≠ 0) : ∃ a' m' : Int, a = (Int.gcd a m : Nat) * a' ∧ m = (Int.gcd a m : Nat) * m' ∧ Int.gcd a' m' = 1 ∧ m / (Int.gcd a m : Nat) = m' := by
  have hg := gcd_pos_r (a := a) hm
  obtain ⟨a', ha⟩ := Int.gcd_dvd_left a m
  obtain ⟨m', hm'⟩ := Int.gcd_dvd_right a m
  refine ⟨a', m', ha, hm', ?_, ?_⟩
  · have h := Int.gcd_mul_left (Int.gcd a m : Nat) a' m'
    rw [← ha, ← hm'] at h
    simp only [Int.natAbs_natCast] at h
    have : Int.gcd a m * 1 = Int.gcd a m * Int.gcd a' m' := by omega
    exact (Nat.eq_of_mul_eq_mul_left hg this).symm
  · rw [Int.ediv_eq_iff_eq_mul_right (by omega) (Int.gcd_dvd_right a m)]
    exact hm'

theorem isSol_unique {a b m x s y t : Int} (hm : m ≠ 0) (hx : IsSol a b m x s) (hy : IsSol a b m y t) : x = y ∧ s = t := by
  obtain ⟨rfl, x0, x1, hx⟩ := hx
  obtain ⟨rfl, y0, y1, hy⟩ := hy
  obtain ⟨a', m', ha, hm', hc, hd⟩ := gcd_parts (a := a) hm
  have hg := gcd_pos_r (a := a) hm
  have h1 : m ∣ a * (x - y) := by
    have := Int.dvd_sub hx hy
    have e : a * x - b - (a * y - b) = a * (x - y) := by grind
    rwa [e] at this
  have h2 : m' ∣ a' * (x - y) := by
    obtain ⟨k, hk⟩ := h1
    refine ⟨k, ?_⟩
    have : ((Int.gcd a m : Nat) : Int) * (a' * (x - y)) = (Int.gcd a m : Nat) * (m' * k) := by
      rw [← Int.mul_assoc, ← Int.mul_assoc, ← ha, ← hm']
      exact hk
    exact Int.eq_of_mul_eq_mul_left (by omega) this
  have h3 := small_dvd (cop_dvd hc h2) (by omega) (by omega)
  exact ⟨by omega, rfl⟩

theorem isSol_dvd {a b m x s : Int} (h : IsSol a b m x s) : ((Int.gcd a m : Nat) : Int) ∣ b := by
  obtain ⟨_, _, _, k, hk⟩ := h
  have : b = a * x - m * k := by omega
  rw [this]
  exact Int.dvd_sub (Int.dvd_mul_of_dvd_left (Int.gcd_dvd_left a m)) (Int.dvd_mul_of_dvd_left (Int.gcd_dvd_right a m))

/-- A number that solves gives the least one. -/
theorem isSol_of {a b m u : Int} (hm : 0 < m) (h : m ∣ a * u - b) : IsSol a b m (u % (m / (Int.gcd a m : Nat))) (m / (Int.gcd a m : Nat)) := by
  obtain ⟨a', m', ha, hm', hc, hd⟩ := gcd_parts (a := a) (m := m) (by omega)
  have hg := gcd_pos_r (a := a) (m := m) (by omega)
  have hm0 : 0 < m' := by
    rcases Int.lt_trichotomy m' 0 with h0 | h0 | h0
    · exfalso
      have := Int.mul_neg_of_pos_of_neg (show (0 : Int) < (Int.gcd a m : Nat) by omega) h0
      omega
    · rw [h0] at hm'; simp at hm'; omega
    · exact h0
  rw [hd]
  refine ⟨hd.symm, Int.emod_nonneg _ (by omega), Int.emod_lt_of_pos _ hm0, ?_⟩
  obtain ⟨k, hk⟩ := h
  have h := Int.emod_add_mul_ediv u m'
  have e2 : u % m' = u - m' * (u / m') := by omega
  refine ⟨k - a' * (u / m'), ?_⟩
  have e4 : a * m' = m * a' := by
    generalize ((Int.gcd a m : Nat) : Int) = g at ha hm'
    rw [ha, hm']
    simp only [Int.mul_comm, Int.mul_left_comm]
  rw [e2]
  have : a * (u - m' * (u / m')) - b = (a * u - b) - (a * m') * (u / m') := by grind
  rw [this, hk, e4]
  grind

theorem isSol_exists {a b m : Int} (hm : 0 < m) (h : ((Int.gcd a m : Nat) : Int) ∣ b) : ∃ x, IsSol a b m x (m / (Int.gcd a m : Nat)) := by
  obtain ⟨u, v, e⟩ := bez a m
  obtain ⟨k, rfl⟩ := h
  refine ⟨_, isSol_of (u := u * k) hm ⟨-(v * k), ?_⟩⟩
  rw [← e]
  grind

noncomputable def solV (a b m : Int) : Int × Int × Bool := open Classical in if h : ∃ x, IsSol a b m x (m / (Int.gcd a m : Nat)) then (Classical.choose h, m / (Int.gcd a m : Nat), true) else (0, 0, false)
theorem solV_yes {a b m x s : Int} (hm : m ≠ 0) (h : IsSol a b m x s) : solV a b m = (x, s, true) := by
  have h' : IsSol a b m x (m / (Int.gcd a m : Nat)) := by have := h.1; subst this; exact h
  unfold solV
  rw [dif_pos ⟨x, h'⟩]
  have := isSol_unique hm (Classical.choose_spec (⟨x, h'⟩ : ∃ x, IsSol a b m x (m / (Int.gcd a m : Nat)))) h'
  rw [this.1, h.1]
theorem solV_no {a b m : Int} (h : ¬ ((Int.gcd a m : Nat) : Int) ∣ b) : solV a b m = (0, 0, false) := by
  unfold solV
  rw [dif_neg (fun ⟨x, hx⟩ => h (isSol_dvd hx))]

/-- x has the remainders of r and s modulo m and n, and is the least such number; t is the step to the next one. -/
def IsCom (r m s n x t : Int) : Prop := t = (Int.lcm m n : Nat) ∧ 0 ≤ x ∧ x < t ∧ m ∣ x - r ∧ n ∣ x - s

theorem lcm_dvd' {m n x : Int} (h1 : m ∣ x) (h2 : n ∣ x) : ((Int.lcm m n : Nat) : Int) ∣ x := by
  unfold Int.lcm
  have : m.natAbs.lcm n.natAbs ∣ x.natAbs := Nat.lcm_dvd (Int.natAbs_dvd_natAbs.2 h1) (Int.natAbs_dvd_natAbs.2 h2)
  exact Int.natAbs_dvd_natAbs.1 (by simpa using this)
theorem isCom_unique {r m s n x t y u : Int} (hx : IsCom r m s n x t) (hy : IsCom r m s n y u) : x = y ∧ t = u := by
  obtain ⟨rfl, x0, x1, x2, x3⟩ := hx
  obtain ⟨rfl, y0, y1, y2, y3⟩ := hy
  have h1 := Int.dvd_sub x2 y2
  have h2 := Int.dvd_sub x3 y3
  have e1 : x - r - (y - r) = x - y := by omega
  have e2 : x - s - (y - s) = x - y := by omega
  rw [e1] at h1
  rw [e2] at h2
  have := small_dvd (lcm_dvd' h1 h2) (by omega) (by omega)
  exact ⟨by omega, rfl⟩
theorem isCom_dvd {r m s n x t : Int} (h : IsCom r m s n x t) : ((Int.gcd m n : Nat) : Int) ∣ s - r := by
  obtain ⟨_, _, _, h1, h2⟩ := h
  have e : s - r = (x - r) - (x - s) := by omega
  rw [e]
  exact Int.dvd_sub (Int.dvd_trans (Int.gcd_dvd_left m n) h1) (Int.dvd_trans (Int.gcd_dvd_right m n) h2)
noncomputable def comV (r m s n : Int) : Int × Int × Bool := open Classical in if h : ∃ x, IsCom r m s n x (Int.lcm m n : Nat) then (Classical.choose h, (Int.lcm m n : Nat), true) else (0, 0, false)
theorem comV_yes {r m s n x t : Int} (h : IsCom r m s n x t) : comV r m s n = (x, t, true) := by
  have h' : IsCom r m s n x (Int.lcm m n : Nat) := by have := h.1; subst this; exact h
  unfold comV
  rw [dif_pos ⟨x, h'⟩]
  have := isCom_unique (Classical.choose_spec (⟨x, h'⟩ : ∃ x, IsCom r m s n x (Int.lcm m n : Nat))) h'
  rw [this.1, h.1]
theorem comV_no {r m s n : Int} (h : ¬ ((Int.gcd m n : Nat) : Int) ∣ s - r) : comV r m s n = (0, 0, false) := by
  unfold comV
  rw [dif_neg (fun ⟨x, hx⟩ => h (isCom_dvd hx))]

/-- g is the greatest common divisor, and x the least factor of a that is not negative; without b it is 1 or -1. -/
def IsBez (a b g x y : Int) : Prop := g = (Int.gcd a b : Nat) ∧ a * x + b * y = g ∧ (b ≠ 0 → 0 ≤ x ∧ x < (b.natAbs : Int) / g) ∧ (b = 0 → y = 0)

theorem gcd_parts_abs {a b : Int} (hb : b ≠ 0) : ∃ a' b' : Int, a = (Int.gcd a b : Nat) * a' ∧ b = (Int.gcd a b : Nat) * b' ∧ Int.gcd a' b' = 1 ∧ (b.natAbs : Int) / (Int.gcd a b : Nat) = b'.natAbs := by
  obtain ⟨a', b', h1, h2, h3, h4⟩ := gcd_parts (a := a) hb
  refine ⟨a', b', h1, h2, h3, ?_⟩
  have hg := gcd_pos_r (a := a) hb
  generalize hG : ((Int.gcd a b : Nat) : Int) = g at h1 h2 h4 ⊢
  have hg' : 0 < g := by omega
  have e : (b.natAbs : Int) = g * (b'.natAbs : Int) := by
    rw [h2, Int.natAbs_mul, Int.natCast_mul]
    congr 1
    omega
  rw [e, Int.mul_ediv_cancel_left _ (by omega)]

theorem isBez_unique {a b g x y g' x' y' : Int} (h0 : ¬ (a = 0 ∧ b = 0)) (h : IsBez a b g x y) (h' : IsBez a b g' x' y') : g = g' ∧ x = x' ∧ y = y' := by
  obtain ⟨rfl, e, h1, h2⟩ := h
  obtain ⟨rfl, e', h1', h2'⟩ := h'
  refine ⟨rfl, ?_⟩
  by_cases hb : b = 0
  · subst hb
    have ha : a ≠ 0 := fun h => h0 ⟨h, rfl⟩
    have : a * x = a * x' := by
      simp only [Int.zero_mul, Int.add_zero] at e e'
      rw [e, e']
    exact ⟨Int.eq_of_mul_eq_mul_left ha this, by rw [h2 rfl, h2' rfl]⟩
  · obtain ⟨a', b', ea, eb, hc, hd⟩ := gcd_parts_abs (a := a) hb
    have hg := gcd_pos_r (a := a) hb
    obtain ⟨x0, x1⟩ := h1 hb
    obtain ⟨y0, y1⟩ := h1' hb
    rw [hd] at x1 y1
    have hx : x = x' := by
      have e1 : a * (x - x') = b * (y' - y) := by grind
      have e2 : a' * (x - x') = b' * (y' - y) := by
        have : ((Int.gcd a b : Nat) : Int) * (a' * (x - x')) = (Int.gcd a b : Nat) * (b' * (y' - y)) := by
          rw [← Int.mul_assoc, ← Int.mul_assoc, ← ea, ← eb]
          exact e1
        exact Int.eq_of_mul_eq_mul_left (by omega) this
      have h3 : b' ∣ x - x' := cop_dvd hc ⟨_, e2⟩
      have h4 : (b'.natAbs : Int) ∣ x - x' := Int.natAbs_dvd_natAbs.1 (by simpa using Int.natAbs_dvd_natAbs.2 h3)
      have := small_dvd h4 (by omega) (by omega)
      omega
    subst hx
    refine ⟨rfl, ?_⟩
    have : b * y = b * y' := by omega
    exact Int.eq_of_mul_eq_mul_left hb this

theorem isBez_exists {a b : Int} : ∃ x y, IsBez a b (Int.gcd a b : Nat) x y := by
  by_cases hb : b = 0
  · subst hb
    refine ⟨if 0 ≤ a then 1 else -1, 0, rfl, ?_, fun h => absurd rfl h, fun _ => rfl⟩
    simp
    split <;> omega
  · obtain ⟨u, v, e⟩ := bez a b
    obtain ⟨a', b', ea, eb, hc, hd⟩ := gcd_parts_abs (a := a) hb
    have hg := gcd_pos_r (a := a) hb
    have hb' : 0 < (b'.natAbs : Int) := by
      have : b' ≠ 0 := by
        rintro rfl
        exact hb (by rw [eb]; simp)
      omega
    have hm := Int.emod_add_mul_ediv u (b'.natAbs : Int)
    obtain ⟨s, hs⟩ : ∃ s : Int, (b'.natAbs : Int) = b' * s := Int.natAbs_dvd_natAbs.1 (by simp)
    refine ⟨u % (b'.natAbs : Int), v + a' * s * (u / (b'.natAbs : Int)), rfl, ?_, fun _ => ⟨Int.emod_nonneg _ (by omega), by rw [hd]; exact Int.emod_lt_of_pos _ hb'⟩, fun h => absurd h hb⟩
    have e2 : u % (b'.natAbs : Int) = u - b' * s * (u / (b'.natAbs : Int)) := by rw [← hs]; omega
    rw [e2, ← e]
    have e3 : a * b' = b * a' := by
      generalize ((Int.gcd a b : Nat) : Int) = g at ea eb
      rw [ea, eb]
      simp only [Int.mul_comm, Int.mul_left_comm]
    generalize u / (b'.natAbs : Int) = q
    have : a * (u - b' * s * q) + b * (v + a' * s * q) = a * u + b * v + (b * a' - a * b') * (s * q) := by grind
    rw [this, e3]
    simp

noncomputable def bezV (a b : Int) : Int × Int × Int := ((Int.gcd a b : Nat), Classical.choose (isBez_exists (a := a) (b := b)), Classical.choose (Classical.choose_spec (isBez_exists (a := a) (b := b))))
theorem bezV_is {a b g x y : Int} (h0 : ¬ (a = 0 ∧ b = 0)) (h : IsBez a b g x y) : bezV a b = (g, x, y) := by
  obtain ⟨rfl, rfl, rfl⟩ := isBez_unique h0 (Classical.choose_spec (Classical.choose_spec (isBez_exists (a := a) (b := b)))) h
  rfl

/-- The first solution of an equation: x is the least one, and then y. -/
def IsLeast (a b c x y : Int) : Prop := 0 ≤ x ∧ 0 ≤ y ∧ a * x + b * y = c ∧ ∀ u v : Int, 0 ≤ u → 0 ≤ v → a * u + b * v = c → x < u ∨ (x = u ∧ y ≤ v)
theorem isLeast_unique {a b c x y u v : Int} (h : IsLeast a b c x y) (h' : IsLeast a b c u v) : x = u ∧ y = v := by
  have h1 := h.2.2.2 u v h'.1 h'.2.1 h'.2.2.1
  have h2 := h'.2.2.2 x y h.1 h.2.1 h.2.2.1
  omega
/-- Whether there is a solution. -/
def Solves (a b c : Int) : Prop := ∃ u v : Int, 0 ≤ u ∧ 0 ≤ v ∧ a * u + b * v = c
theorem least_nat (P : Nat → Prop) (h : ∃ n, P n) : ∃ n, P n ∧ ∀ m, m < n → ¬ P m := by
  obtain ⟨n, hn⟩ := h
  induction n using Nat.strongRecOn with
  | _ n ih =>
    by_cases hm : ∃ m, m < n ∧ P m
    · obtain ⟨m, hm, hp⟩ := hm
      exact ih m hm hp
    · exact ⟨n, hn, fun m hm' hp => hm ⟨m, hm', hp⟩⟩
theorem isLeast_exists {a b c : Int} (h : Solves a b c) : ∃ x y, IsLeast a b c x y := by
  obtain ⟨u, v, hu, hv, e⟩ := h
  obtain ⟨x, ⟨y0, hy0, ex⟩, hx⟩ := least_nat (fun n => ∃ v : Int, 0 ≤ v ∧ a * n + b * v = c) ⟨u.toNat, v, hv, by rw [Int.toNat_of_nonneg hu]; exact e⟩
  obtain ⟨y, ey, hy⟩ := least_nat (fun n => a * x + b * (n : Int) = c) ⟨y0.toNat, by rw [Int.toNat_of_nonneg hy0]; exact ex⟩
  refine ⟨x, y, by omega, by omega, ey, fun u v hu hv e => ?_⟩
  rcases Int.lt_trichotomy (x : Int) u with h1 | h1 | h1
  · exact .inl h1
  · refine .inr ⟨h1, ?_⟩
    subst h1
    rcases Int.lt_or_le v y with h2 | h2
    · exact absurd (by rw [Int.toNat_of_nonneg hv]; exact e) (hy v.toNat (by omega))
    · exact h2
  · exact absurd ⟨v, hv, by rw [Int.toNat_of_nonneg hu]; exact e⟩ (hx u.toNat (by omega))
noncomputable def lsV (a b c : Int) : Int × Int × Bool := open Classical in if h : Solves a b c then (Classical.choose (isLeast_exists h), Classical.choose (Classical.choose_spec (isLeast_exists h)), true) else (0, 0, false)
theorem lsV_yes {a b c x y : Int} (h : IsLeast a b c x y) : lsV a b c = (x, y, true) := by
  have hs : Solves a b c := ⟨x, y, h.1, h.2.1, h.2.2.1⟩
  unfold lsV
  rw [dif_pos hs]
  have := isLeast_unique (Classical.choose_spec (Classical.choose_spec (isLeast_exists hs))) h
  exact Prod.ext this.1 (Prod.ext this.2 rfl)
theorem lsV_no {a b c : Int} (h : ¬ Solves a b c) : lsV a b c = (0, 0, false) := by
  unfold lsV
  rw [dif_neg h]

/-- The first solution is not far, if the coefficients are small. -/
theorem isLeast_near {a b c x y : Int} (ha : -100 ≤ a ∧ a ≤ 100) (hb : -100 ≤ b ∧ b ≤ 100) (hc : -10000 ≤ c ∧ c ≤ 10000) (h : IsLeast a b c x y) : x ≤ 20000 := by
  obtain ⟨hx, hy, e, hl⟩ := h
  apply Decidable.byContradiction
  intro hn
  by_cases h0 : b = 0
  · subst h0
    have hax : a * x = c := by simpa using e
    rcases Int.lt_trichotomy a 0 with h | h | h
    · have : a * x ≤ (-1) * x := Int.mul_le_mul_of_nonneg_right (by omega) (by omega)
      omega
    · subst h
      have := hl 0 y (by omega) hy (by simpa using e)
      omega
    · have : 1 * x ≤ a * x := Int.mul_le_mul_of_nonneg_right (by omega) (by omega)
      omega
  · -- one step back
    have hstep : ∀ t : Int, 0 ≤ x - b * t → 0 ≤ y + a * t → ¬ (x - b * t < x) := fun t h1 h2 h3 => by
      have := hl (x - b * t) (y + a * t) h1 h2 (by rw [← e]; grind)
      omega
    rcases Int.lt_or_le b 0 with hb0 | hb0
    · by_cases hya : 0 ≤ y + a * (-1)
      · exact hstep (-1) (by omega) hya (by omega)
      · -- y < a, so a * x = c - b * y is small
        have h1 : 1 * x ≤ a * x := Int.mul_le_mul_of_nonneg_right (by omega) (by omega)
        have h2 : (-100) * y ≤ b * y := Int.mul_le_mul_of_nonneg_right (by omega) (by omega)
        omega
    · by_cases hya : 0 ≤ y + a * 1
      · exact hstep 1 (by omega) hya (by omega)
      · have h1 : a * x ≤ (-1) * x := Int.mul_le_mul_of_nonneg_right (by omega) (by omega)
        have h2 : b * y ≤ 100 * y := Int.mul_le_mul_of_nonneg_right (by omega) (by omega)
        omega


theorem lcm_of_gcd {m n : Int} (hm : 0 < m) (hn : 0 < n) : m * (n / (Int.gcd m n : Nat)) = (Int.lcm m n : Nat) := by
  obtain ⟨m', n', e1, e2, _, e3⟩ := gcd_parts (a := m) (m := n) (by omega)
  have hg := gcd_pos_r (a := m) (m := n) (by omega)
  rw [e3]
  have h := Nat.gcd_mul_lcm m.natAbs n.natAbs
  have h' : ((Int.gcd m n : Nat) : Int) * (Int.lcm m n : Nat) = m * n := by
    unfold Int.gcd Int.lcm
    rw [← Int.natCast_mul, h, Int.natCast_mul]
    congr 1 <;> omega
  have : ((Int.gcd m n : Nat) : Int) * (m * n') = (Int.gcd m n : Nat) * (Int.lcm m n : Nat) := by
    rw [h', ← Int.mul_assoc, Int.mul_comm _ m, Int.mul_assoc, ← e2]
  exact Int.eq_of_mul_eq_mul_left (by omega) this

/-- Both congruences by one. -/
theorem isCom_of {r m s n x t r' : Int} (hm : 0 < m) (hn : 0 < n) (hr : 0 ≤ r' ∧ r' < m) (hrr : m ∣ r' - r) (h : IsSol m (s - r') n x t) : IsCom r m s n (r' + m * x) (m * t) := by
  obtain ⟨rfl, x0, x1, hx⟩ := h
  refine ⟨lcm_of_gcd hm hn, ?_, ?_, ?_, ?_⟩
  · have := Int.mul_nonneg (Int.le_of_lt hm) x0
    omega
  · have := Int.mul_le_mul_of_nonneg_left (show x + 1 ≤ n / (Int.gcd m n : Nat) by omega) (Int.le_of_lt hm)
    rw [Int.mul_add] at this
    omega
  · obtain ⟨k, hk⟩ := hrr
    exact ⟨k + x, by rw [Int.mul_add, ← hk]; omega⟩
  · have e : m * x - (s - r') = r' + m * x - s := by omega
    rwa [e] at hx


end Go.Proofs.YtmkflokcficmoaaDoor

/- Numbers: Euclid with factors, and how both sides find inverses, solutions and common remainders. -/
namespace Go.Proofs.YtmkflokcficmoaaDoor

/-! Euclid with factors, and the answers of chapter 5. -/

/-- n is a x + b y, d is a u + b v, both have the greatest common divisor of a and b, and no factor is great. -/
def Eu (a b n x y d u v : Int) : Prop :=
  a * x + b * y = n ∧ a * u + b * v = d ∧ Int.gcd n d = Int.gcd a b ∧
  u.natAbs * n.natAbs + x.natAbs * d.natAbs ≤ b.natAbs ∧ v.natAbs * n.natAbs + y.natAbs * d.natAbs ≤ a.natAbs ∧
  (-1000000 ≤ n ∧ n ≤ 1000000) ∧ (-1000000 ≤ d ∧ d ≤ 1000000) ∧ (-1000000 ≤ x ∧ x ≤ 1000000) ∧ (-1000000 ≤ y ∧ y ≤ 1000000) ∧ (-1000000 ≤ u ∧ u ≤ 1000000) ∧ (-1000000 ≤ v ∧ v ≤ 1000000) ∧
  (b = 0 → d = 0 ∧ y = 0)

theorem eu_start {a b : Int} (ha : -1000000 ≤ a ∧ a ≤ 1000000) (hb : -1000000 ≤ b ∧ b ≤ 1000000) : Eu a b a 1 0 b 0 1 := by
  refine ⟨by simp, by simp, rfl, by simp, by simp, ha, hb, by omega, by omega, by omega, by omega, fun h => ⟨h, rfl⟩⟩

theorem tdiv_parts (n d : Int) : n.natAbs = (n.tdiv d).natAbs * d.natAbs + (n.tmod d).natAbs := by
  rw [Int.natAbs_tdiv, Int.natAbs_tmod, Nat.mul_comm]
  exact (Nat.div_add_mod _ _).symm

theorem eu_grow {q u x n d r B : Nat} (hn : n = q * d + r) (h : u * n + x * d ≤ B) : (q * u) * d ≤ B ∧ (x + q * u) * d + u * r ≤ B := by
  subst hn
  have e : u * (q * d + r) + x * d = (x + q * u) * d + u * r := by grind
  rw [e] at h
  refine ⟨?_, h⟩
  have : (x + q * u) * d = x * d + (q * u) * d := by grind
  omega

/-- One step: the rest's factors. k times the divisor's parts stay small, too. -/
theorem eu_step {a b n x y d u v : Int} (ha : -1000000 ≤ a ∧ a ≤ 1000000) (hb : -1000000 ≤ b ∧ b ≤ 1000000) (h : Eu a b n x y d u v) (hd : d ≠ 0) :
    (-1000000 ≤ n.tdiv d ∧ n.tdiv d ≤ 1000000) ∧
    (-1000000 ≤ n.tdiv d * d ∧ n.tdiv d * d ≤ 1000000) ∧ (-1000000 ≤ n.tdiv d * u ∧ n.tdiv d * u ≤ 1000000) ∧ (-1000000 ≤ n.tdiv d * v ∧ n.tdiv d * v ≤ 1000000) ∧
    (n - n.tdiv d * d).natAbs < d.natAbs ∧ Eu a b d u v (n - n.tdiv d * d) (x - n.tdiv d * u) (y - n.tdiv d * v) := by
  obtain ⟨e1, e2, hg, i1, i2, hn, hdd, hx, hy, hu, hv, h0⟩ := h
  have hp := tdiv_parts n d
  have hmod : n - n.tdiv d * d = n.tmod d := by
    have := Int.tmod_add_mul_tdiv n d
    have e : n.tdiv d * d = d * n.tdiv d := Int.mul_comm _ _
    omega
  have hlt : (n.tmod d).natAbs < d.natAbs := by
    rw [Int.natAbs_tmod]
    exact Nat.mod_lt _ (by omega)
  have hd1 : 1 ≤ d.natAbs := by omega
  obtain ⟨g1, g2⟩ := eu_grow hp i1
  obtain ⟨g3, g4⟩ := eu_grow hp i2
  rw [hmod]
  generalize hq : n.tdiv d = q at *
  generalize hr : n.tmod d = r at *
  have le1 : ∀ {X : Nat}, X ≤ X * d.natAbs := fun {X} => Nat.le_mul_of_pos_right X hd1
  have q0 : q.natAbs ≤ q.natAbs * d.natAbs := le1
  have q1 : (q * u).natAbs ≤ (q.natAbs * u.natAbs) * d.natAbs := by rw [Int.natAbs_mul]; exact le1
  have q2 : (q * v).natAbs ≤ (q.natAbs * v.natAbs) * d.natAbs := by rw [Int.natAbs_mul]; exact le1
  have q3 : (q * d).natAbs = q.natAbs * d.natAbs := Int.natAbs_mul _ _
  have q4 : (x - q * u).natAbs ≤ x.natAbs + q.natAbs * u.natAbs := by
    rw [← Int.natAbs_mul q u]
    omega
  have q5 : (y - q * v).natAbs ≤ y.natAbs + q.natAbs * v.natAbs := by
    rw [← Int.natAbs_mul q v]
    omega
  have m4 : (x - q * u).natAbs * d.natAbs ≤ (x.natAbs + q.natAbs * u.natAbs) * d.natAbs := Nat.mul_le_mul_right _ q4
  have m5 : (y - q * v).natAbs * d.natAbs ≤ (y.natAbs + q.natAbs * v.natAbs) * d.natAbs := Nat.mul_le_mul_right _ q5
  have l4 : (x - q * u).natAbs ≤ (x - q * u).natAbs * d.natAbs := le1
  have l5 : (y - q * v).natAbs ≤ (y - q * v).natAbs * d.natAbs := le1
  have f1 : (x - q * u).natAbs * d.natAbs + u.natAbs * r.natAbs ≤ b.natAbs := Nat.le_trans (Nat.add_le_add_right m4 _) g2
  have f2 : (y - q * v).natAbs * d.natAbs + v.natAbs * r.natAbs ≤ a.natAbs := Nat.le_trans (Nat.add_le_add_right m5 _) g4
  have b1 : (q * u).natAbs ≤ b.natAbs := Nat.le_trans q1 g1
  have b2 : (q * v).natAbs ≤ a.natAbs := Nat.le_trans q2 g3
  have b3 : (x - q * u).natAbs ≤ b.natAbs := Nat.le_trans l4 (Nat.le_trans (Nat.le_add_right _ _) f1)
  have b4 : (y - q * v).natAbs ≤ a.natAbs := Nat.le_trans l5 (Nat.le_trans (Nat.le_add_right _ _) f2)
  have b5 : (q * d).natAbs ≤ n.natAbs := by rw [q3, hp]; exact Nat.le_add_right _ _
  have b6 : q.natAbs ≤ n.natAbs := Nat.le_trans q0 (by rw [← q3]; exact b5)
  have h9 : a * (x - q * u) + b * (y - q * v) = r := by
    have : a * (x - q * u) + b * (y - q * v) = (a * x + b * y) - q * (a * u + b * v) := by grind
    rw [this, e1, e2]
    exact hmod
  have h8 : Int.gcd d r = Int.gcd a b := by
    rw [← hg, ← hr]
    exact gcd_step' n d
  clear e1 hg i1 i2 hp hr g1 g2 g3 g4 le1 q0 q1 q2 q3 q4 q5 m4 m5 l4 l5 hmod
  have bd : ∀ {z : Int} {c : Int}, -1000000 ≤ c ∧ c ≤ 1000000 → z.natAbs ≤ c.natAbs → -1000000 ≤ z ∧ z ≤ 1000000 := fun {z c} _ _ => by omega
  refine ⟨bd hn b6, bd hn b5, bd hb b1, bd ha b2, hlt, e2, h9, h8, ?_, ?_, hdd, bd hdd (Nat.le_of_lt hlt), hu, hv, bd hb b3, bd ha b4, fun hb0 => absurd (h0 hb0).1 hd⟩
  · rw [Nat.add_comm, Nat.add_comm] at f1 ⊢
    exact f1
  · exact f2

theorem eu_end {a b n x y : Int} {u v : Int} (h : Eu a b n x y 0 u v) : ((n.natAbs : Nat) : Int) = (Int.gcd a b : Nat) := by
  obtain ⟨_, _, hg, _⟩ := h
  rw [← hg]
  simp

/-- The signs, and the least factor. -/
theorem bez_b0 {a n x y u v : Int} (h : Eu a 0 n x y 0 u v) (hn : n ≠ 0) : IsBez a 0 (n.tdiv n.natAbs * n) (n.tdiv n.natAbs * x) (n.tdiv n.natAbs * y) := by
  have he := eu_end h
  obtain ⟨e1, _, _, _, _, _, _, _, _, _, _, h0⟩ := h
  obtain ⟨_, rfl⟩ := h0 rfl
  have hs : n.tdiv n.natAbs * n = n.natAbs := by
    rcases Int.lt_or_le n 0 with hn0 | hn0
    · have : (n.natAbs : Int) = -n := by omega
      rw [this, Int.tdiv_neg, Int.tdiv_self hn]
      omega
    · have : (n.natAbs : Int) = n := by omega
      rw [this, Int.tdiv_self hn]
      omega
  refine ⟨by rw [hs, he], ?_, fun h => absurd rfl h, fun _ => by simp⟩
  simp only [Int.add_zero, Int.mul_zero] at e1 ⊢
  rw [← e1]
  grind

theorem bez_of {a b X Y g : Int} (hb : b ≠ 0) (hg : g = (Int.gcd a b : Nat)) (e : a * X + b * Y = g) :
    0 < (b.natAbs : Int) / g ∧ b ∣ g - a * (X % ((b.natAbs : Int) / g)) ∧ IsBez a b g (X % ((b.natAbs : Int) / g)) ((g - a * (X % ((b.natAbs : Int) / g))) / b) := by
  obtain ⟨a', b', ea, eb, hc, hd⟩ := gcd_parts_abs (a := a) hb
  have hgp := gcd_pos_r (a := a) hb
  rw [← hg] at ea eb hd
  rw [hd]
  have hb' : 0 < (b'.natAbs : Int) := by
    have : b' ≠ 0 := by
      rintro rfl
      exact hb (by rw [eb]; simp)
    omega
  obtain ⟨s, hs⟩ : ∃ s : Int, (b'.natAbs : Int) = b' * s := Int.natAbs_dvd_natAbs.1 (by simp)
  have hm := Int.emod_add_mul_ediv X (b'.natAbs : Int)
  have hdv : g - a * (X % (b'.natAbs : Int)) = b * (Y + a' * s * (X / (b'.natAbs : Int))) := by
    have e2 : X % (b'.natAbs : Int) = X - b' * s * (X / (b'.natAbs : Int)) := by rw [← hs]; omega
    rw [e2]
    have e3 : a * b' = b * a' := by
      rw [ea, eb]
      simp only [Int.mul_comm, Int.mul_left_comm]
    generalize X / (b'.natAbs : Int) = q
    have : g - a * (X - b' * s * q) = (g - a * X) + a * b' * (s * q) := by grind
    rw [this, e3]
    have : g - a * X = b * Y := by omega
    rw [this]
    grind
  refine ⟨hb', ⟨_, hdv⟩, hg, ?_, fun _ => ⟨Int.emod_nonneg _ (by omega), by rw [hd]; exact Int.emod_lt_of_pos _ hb'⟩, fun h => absurd h hb⟩
  rw [hdv, Int.mul_ediv_cancel_left _ hb, ← hdv]
  omega

/-- How great the numbers of Bezout are. -/
theorem bez_bd {a b g x y : Int} (hb : -1000000 ≤ b ∧ b ≤ 1000000) (h : IsBez a b g x y) (h0 : b ≠ 0) : 1 ≤ g ∧ g ≤ 1000000 ∧ 0 ≤ x ∧ x ≤ 1000000 := by
  obtain ⟨hg, e, h1, _⟩ := h
  obtain ⟨x0, x1⟩ := h1 h0
  have hgp := gcd_pos_r (a := a) h0
  have hgl : Int.gcd a b ≤ b.natAbs := Nat.le_of_dvd (by omega) (Nat.gcd_dvd_right _ _)
  have : (b.natAbs : Int) / g ≤ b.natAbs := Int.ediv_le_self _ (by omega)
  omega

theorem tmod_zero' {x m : Int} : x.tmod m = 0 ↔ m ∣ x := ⟨Int.dvd_of_tmod_eq_zero, Int.tmod_eq_zero_of_dvd⟩
theorem tdiv_of_dvd {x m : Int} (h : m ∣ x) : m * x.tdiv m = x := Int.mul_tdiv_cancel' h
theorem tdiv_eq_ediv {x m : Int} (h : m ∣ x) : x.tdiv m = x / m := Int.tdiv_eq_ediv_of_dvd h
theorem tdiv_nat {x m : Int} (h : 0 ≤ x) : x.tdiv m = x / m := Int.tdiv_eq_ediv_of_nonneg h
theorem tdiv_le (x m : Int) : (x.tdiv m).natAbs ≤ x.natAbs := by
  rw [Int.natAbs_tdiv]
  exact Nat.div_le_self _ _

/-- The program's solution of a congruence. -/
theorem sol_impl {a b m g X Y : Int} (hm : 0 < m) (h : IsBez a m g X Y) (hd : g ∣ b) : IsSol a b m ((X * b.tdiv g) % (m / g)) (m / g) := by
  obtain ⟨hg, e, _, _⟩ := h
  have hb := tdiv_of_dvd hd
  rw [hg] at e hb hd ⊢
  refine isSol_of (u := X * b.tdiv (Int.gcd a m : Nat)) hm ⟨-(Y * b.tdiv (Int.gcd a m : Nat)), ?_⟩
  generalize b.tdiv (Int.gcd a m : Nat) = k at *
  rw [← hb, ← e]
  grind

/-- The remainder of a by m has the same divisors in common with m. -/
theorem gcd_emod (a m : Int) : Int.gcd (a % m) m = Int.gcd a m := by
  rw [Int.gcd_comm, Int.gcd_comm a m]
  apply Nat.dvd_antisymm
  · have h1 := Int.gcd_dvd_left m (a % m)
    have h2 := Int.gcd_dvd_right m (a % m)
    have : ((Int.gcd m (a % m) : Nat) : Int) ∣ a := by
      have e := Int.dvd_add h2 (Int.dvd_mul_of_dvd_left (b := m) (c := a / m) h1)
      rwa [Int.emod_add_mul_ediv a m] at e
    exact Int.ofNat_dvd.1 (Int.dvd_coe_gcd h1 this)
  · have h1 := Int.gcd_dvd_left m a
    have h2 := Int.gcd_dvd_right m a
    have : ((Int.gcd m a : Nat) : Int) ∣ a % m := by
      have e := Int.emod_add_mul_ediv a m
      have e2 : a % m = a - m * (a / m) := by omega
      rw [e2]
      exact Int.dvd_sub h2 (Int.dvd_mul_of_dvd_left h1)
    exact Int.ofNat_dvd.1 (Int.dvd_coe_gcd h1 this)

/-- The model's solution of a congruence: A is the remainder of a, without the common divisor; x its inverse. -/
theorem sol_spec {a b m x : Int} (hm : 0 < m) (hd : ((Int.gcd a m : Nat) : Int) ∣ b)
    (hx : (m / (Int.gcd a m : Nat)) ∣ ((a % m) / (Int.gcd a m : Nat) % (m / (Int.gcd a m : Nat))) * x - 1) :
    IsSol a b m ((b / (Int.gcd a m : Nat) % (m / (Int.gcd a m : Nat)) * x) % (m / (Int.gcd a m : Nat))) (m / (Int.gcd a m : Nat)) := by
  obtain ⟨a', m', ea, em, hc, e⟩ := gcd_parts (a := a) (m := m) (by omega)
  have hg := gcd_pos_r (a := a) (m := m) (by omega)
  have hda : ((Int.gcd a m : Nat) : Int) ∣ a % m := by
    have := Int.gcd_dvd_left (a % m) m
    rwa [gcd_emod] at this
  refine isSol_of hm ?_
  rw [e] at hx ⊢
  obtain ⟨b', hb'⟩ := hd
  obtain ⟨A, hA⟩ := hda
  have hq := Int.emod_add_mul_ediv a m
  generalize a / m = t at hq
  generalize hG : ((Int.gcd a m : Nat) : Int) = g at *
  have hb2 : b / g = b' := by rw [hb', Int.mul_ediv_cancel_left _ (by omega)]
  have hA2 : a % m / g = A := by rw [hA, Int.mul_ediv_cancel_left _ (by omega)]
  rw [hb2]
  rw [hA2] at hx
  obtain ⟨k, hk⟩ := hx
  have h1 := Int.emod_add_mul_ediv A m'
  have h2 := Int.emod_add_mul_ediv b' m'
  generalize A / m' = i at h1
  generalize b' / m' = j at h2
  generalize A % m' = A0 at *
  generalize b' % m' = b0 at *
  -- a = g A + m t, A = A0 + m' i, b' = b0 + m' j, A0 x = 1 + m' k
  refine ⟨t * (b0 * x) + i * b0 * x + k * b0 - j, ?_⟩
  have e1 : a = g * (A0 + m' * i) + m * t := by rw [h1, ← hA]; exact hq.symm
  have e2 : b = g * (b0 + m' * j) := by rw [h2, ← hb']
  have e3 : A0 * x = 1 + m' * k := by omega
  rw [e1, e2, em]
  have : (g * (A0 + m' * i) + g * m' * t) * (b0 * x) = g * (b0 * (A0 * x)) + g * m' * (i * (b0 * x)) + g * m' * (t * (b0 * x)) := by grind
  rw [this, e3]
  grind

/-- Bezout's numbers from an inverse. -/
theorem bez_inv {a b x : Int} (hb : b ≠ 0) (h0 : 0 ≤ x) (h1 : x < (b.natAbs : Int) / (Int.gcd a b : Nat)) (h : ((b.natAbs : Int) / (Int.gcd a b : Nat)) ∣ (a / (Int.gcd a b : Nat)) * x - 1) :
    b ∣ (Int.gcd a b : Nat) - a * x ∧ IsBez a b (Int.gcd a b : Nat) x ((((Int.gcd a b : Nat) : Int) - a * x) / b) := by
  obtain ⟨a', b', ea, eb, hc, hd⟩ := gcd_parts_abs (a := a) hb
  have hg := gcd_pos_r (a := a) hb
  have e1 : a / (Int.gcd a b : Nat) = a' := by
    rw [Int.ediv_eq_iff_eq_mul_right (by omega) (Int.gcd_dvd_left a b)]
    exact ea
  rw [e1, hd] at h
  have h' : b' ∣ a' * x - 1 := Int.natAbs_dvd.1 h
  obtain ⟨k, hk⟩ := h'
  have hdv : ((Int.gcd a b : Nat) : Int) - a * x = b * (-k) := by
    have e3 : a' * x = 1 + b' * k := by omega
    generalize hG : ((Int.gcd a b : Nat) : Int) = g at *
    rw [ea, eb, Int.mul_assoc, e3]
    grind
  refine ⟨⟨_, hdv⟩, rfl, ?_, fun _ => ⟨h0, h1⟩, fun h => absurd h hb⟩
  rw [hdv, Int.mul_ediv_cancel_left _ hb, ← hdv]
  omega

/-- Without b. -/
theorem bez_none {a : Int} (ha : a ≠ 0) : IsBez a 0 (a.natAbs : Int) (a.tdiv a.natAbs) 0 := by
  have hs : a * a.tdiv a.natAbs = a.natAbs := by
    rcases Int.lt_or_le a 0 with hn0 | hn0
    · have : (a.natAbs : Int) = -a := by omega
      rw [this, Int.tdiv_neg, Int.tdiv_self ha]
      omega
    · have : (a.natAbs : Int) = a := by omega
      rw [this, Int.tdiv_self ha]
      omega
  exact ⟨by simp, by rw [hs]; simp, fun h => absurd rfl h, fun _ => rfl⟩

theorem dvd_lcm_r (m n : Int) : n ∣ ((Int.lcm m n : Nat) : Int) := by
  unfold Int.lcm
  exact Int.natAbs_dvd_natAbs.1 (by simpa using Nat.dvd_lcm_right _ _)
theorem com_impl {r m s n x t : Int} (hm : 0 < m) (hn : 0 < n) (h : IsSol m (s - r) n x t) : IsCom r m s n ((r + m * x) % (m * t)) (m * t) := by
  obtain ⟨rfl, x0, x1, hx⟩ := h
  have hl := lcm_of_gcd hm hn
  have hg := gcd_pos_r (a := m) (m := n) (by omega)
  have ht : 0 < m * (n / (Int.gcd m n : Nat)) := Int.mul_pos hm (by omega)
  have hq := Int.emod_add_mul_ediv (r + m * x) (m * (n / (Int.gcd m n : Nat)))
  have hdm : m ∣ m * (n / (Int.gcd m n : Nat)) := Int.dvd_mul_right _ _
  have hdn : n ∣ m * (n / (Int.gcd m n : Nat)) := by rw [hl]; exact dvd_lcm_r m n
  refine ⟨hl, Int.emod_nonneg _ (by omega), Int.emod_lt_of_pos _ ht, ?_, ?_⟩
  · have e : (r + m * x) % (m * (n / (Int.gcd m n : Nat))) - r = m * x - m * (n / (Int.gcd m n : Nat)) * ((r + m * x) / (m * (n / (Int.gcd m n : Nat)))) := by omega
    rw [e]
    exact Int.dvd_sub (Int.dvd_mul_right _ _) (Int.dvd_mul_of_dvd_left hdm)
  · have e : (r + m * x) % (m * (n / (Int.gcd m n : Nat))) - s = (m * x - (s - r)) - m * (n / (Int.gcd m n : Nat)) * ((r + m * x) / (m * (n / (Int.gcd m n : Nat)))) := by omega
    rw [e]
    exact Int.dvd_sub hx (Int.dvd_mul_of_dvd_left hdn)

/-- A congruence by the remainder of its number. -/
theorem sol_emod {a b m x s : Int} : IsSol a (b % m) m x s ↔ IsSol a b m x s := by
  have hq := Int.emod_add_mul_ediv b m
  have e : (m ∣ a * x - b % m) ↔ (m ∣ a * x - b) := by
    constructor
    · intro h
      have : a * x - b = (a * x - b % m) - m * (b / m) := by omega
      rw [this]
      exact Int.dvd_sub h (Int.dvd_mul_right _ _)
    · intro h
      have : a * x - b % m = (a * x - b) + m * (b / m) := by omega
      rw [this]
      exact Int.dvd_add h (Int.dvd_mul_right _ _)
  unfold IsSol
  rw [e]

theorem dvd_emod {g b m : Int} (h : g ∣ m) : g ∣ b % m ↔ g ∣ b := by
  have hq := Int.emod_add_mul_ediv b m
  constructor
  · intro hb
    rw [← hq]
    exact Int.dvd_add hb (Int.dvd_mul_of_dvd_left h)
  · intro hb
    have : b % m = b - m * (b / m) := by omega
    rw [this]
    exact Int.dvd_sub hb (Int.dvd_mul_of_dvd_left h)

end Go.Proofs.YtmkflokcficmoaaDoor
