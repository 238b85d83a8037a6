/- Numbers: Euclid with factors, and how both sides find inverses, solutions and common remainders. -/
import Derived.Test.YtpheihejgnlanaaDoorNumA
namespace Go.Proofs.YtpheihejgnlanaaDoor

/-! Euclid with factors, and the answers of chapter 5. -/

/-- n is a x + b y, d is a u + b v, both have the greatest common divisor of a and b, and no factor is great. -/
def Eu (a b n x y d u v : Int) : Prop :=
  a * x + b * y = n ∧ a * u + b * v = d ∧ Int.gcd n d = Int.gcd a b ∧
  u.natAbs * n.natAbs + x.natAbs * d.natAbs ≤ b.natAbs ∧ v.natAbs * n.natAbs + y.natAbs * d.natAbs ≤ a.natAbs ∧
  (-1000000 ≤ n ∧ n ≤ 1000000) ∧ (-1000000 ≤ d ∧ d ≤ 1000000) ∧ (-1000000 ≤ x ∧ x ≤ 1000000) ∧ (-1000000 ≤ y ∧ y ≤ 1000000) ∧ (-1000000 ≤ u ∧ u ≤ 1000000) ∧ (-1000000 ≤ v ∧ v ≤ 1000000) ∧
  (b = 0 → d = 0 ∧ y = 0)

theorem eu_start {a b : Int} (ha : -1000000 ≤ a ∧ a ≤ 1000000) (hb : -1000000 ≤ b ∧ b ≤ 1000000) : Eu a b a 1 0 b 0 1 := by
  refine ⟨by simp, by simp, rfl, by simp, by simp, ha, hb, by omega, by omega, by omega, by omega, fun h => ⟨h, rfl⟩⟩

theorem tdiv_parts (n d : Int) : n.natAbs = (n.tdiv d).natAbs * d.natAbs + (n.tmod d).natAbs := by
  rw [Int.natAbs_tdiv, Int.natAbs_tmod, Nat.mul_comm]
  exact (Nat.div_add_mod _ _).symm

theorem eu_grow {q u x n d r B : Nat} (hn : n = q * d + r) (h : u * n + x * d ≤ B) : (q * u) * d ≤ B ∧ (x + q * u) * d + u * r ≤ B := by
  subst hn
  have e : u * (q * d + r) + x * d = (x + q * u) * d + u * r := by grind
  rw [e] at h
  refine ⟨?_, h⟩
  have : (x + q * u) * d = x * d + (q * u) * d := by grind
  omega

/-- One step: the rest's factors. k times the divisor's parts stay small, too. -/
theorem eu_step {a b n x y d u v : Int} (ha : -1000000 ≤ a ∧ a ≤ 1000000) (hb : -1000000 ≤ b ∧ b ≤ 1000000) (h : Eu a b n x y d u v) (hd : d ≠ 0) :
    (-1000000 ≤ n.tdiv d ∧ n.tdiv d ≤ 1000000) ∧
    (-1000000 ≤ n.tdiv d * d ∧ n.tdiv d * d ≤ 1000000) ∧ (-1000000 ≤ n.tdiv d * u ∧ n.tdiv d * u ≤ 1000000) ∧ (-1000000 ≤ n.tdiv d * v ∧ n.tdiv d * v ≤ 1000000) ∧
    (n - n.tdiv d * d).natAbs < d.natAbs ∧ Eu a b d u v (n - n.tdiv d * d) (x - n.tdiv d * u) (y - n.tdiv d * v) := by
  obtain ⟨e1, e2, hg, i1, i2, hn, hdd, hx, hy, hu, hv, h0⟩ := h
  have hp := tdiv_parts n d
  have hmod : n - n.tdiv d * d = n.tmod d := by
    have := Int.tmod_add_mul_tdiv n d
    have e : n.tdiv d * d = d * n.tdiv d := Int.mul_comm _ _
    omega
  have hlt : (n.tmod d).natAbs < d.natAbs := by
    rw [Int.natAbs_tmod]
    exact Nat.mod_lt _ (by omega)
  have hd1 : 1 ≤ d.natAbs := by omega
  obtain ⟨g1, g2⟩ := eu_grow hp i1
  obtain ⟨g3, g4⟩ := eu_grow hp i2
  rw [hmod]
  generalize hq : n.tdiv d = q at *
  generalize hr : n.tmod d = r at *
  have le1 : ∀ {X : Nat}, X ≤ X * d.natAbs := fun {X} => Nat.le_mul_of_pos_right X hd1
  have q0 : q.natAbs ≤ q.natAbs * d.natAbs := le1
  have q1 : (q * u).natAbs ≤ (q.natAbs * u.natAbs) * d.natAbs := by rw [Int.natAbs_mul]; exact le1
  have q2 : (q * v).natAbs ≤ (q.natAbs * v.natAbs) * d.natAbs := by rw [Int.natAbs_mul]; exact le1
  have q3 : (q * d).natAbs = q.natAbs * d.natAbs := Int.natAbs_mul _ _
  have q4 : (x - q * u).natAbs ≤ x.natAbs + q.natAbs * u.natAbs := by
    rw [← Int.natAbs_mul q u]
    omega
  have q5 : (y - q * v).natAbs ≤ y.natAbs + q.natAbs * v.natAbs := by
    rw [← Int.natAbs_mul q v]
    omega
  have m4 : (x - q * u).natAbs * d.natAbs ≤ (x.natAbs + q.natAbs * u.natAbs) * d.natAbs := Nat.mul_le_mul_right _ q4
  have m5 : (y - q * v).natAbs * d.natAbs ≤ (y.natAbs + q.natAbs * v.natAbs) * d.natAbs := Nat.mul_le_mul_right _ q5
  have l4 : (x - q * u).natAbs ≤ (x - q * u).natAbs * d.natAbs := le1
  have l5 : (y - q * v).natAbs ≤ (y - q * v).natAbs * d.natAbs := le1
  have f1 : (x - q * u).natAbs * d.natAbs + u.natAbs * r.natAbs ≤ b.natAbs := Nat.le_trans (Nat.add_le_add_right m4 _) g2
  have f2 : (y - q * v).natAbs * d.natAbs + v.natAbs * r.natAbs ≤ a.natAbs := Nat.le_trans (Nat.add_le_add_right m5 _) g4
  have b1 : (q * u).natAbs ≤ b.natAbs := Nat.le_trans q1 g1
  have b2 : (q * v).natAbs ≤ a.natAbs := Nat.le_trans q2 g3
  have b3 : (x - q * u).natAbs ≤ b.natAbs := Nat.le_trans l4 (Nat.le_trans (Nat.le_add_right _ _) f1)
  have b4 : (y - q * v).natAbs ≤ a.natAbs := Nat.le_trans l5 (Nat.le_trans (Nat.le_add_right _ _) f2)
  have b5 : (q * d).natAbs ≤ n.natAbs := by rw [q3, hp]; exact Nat.le_add_right _ _
  have b6 : q.natAbs ≤ n.natAbs := Nat.le_trans q0 (by rw [← q3]; exact b5)
  have h9 : a * (x - q * u) + b * (y - q * v) = r := by
    have : a * (x - q * u) + b * (y - q * v) = (a * x + b * y) - q * (a * u + b * v) := by grind
    rw [this, e1, e2]
    exact hmod
  have h8 : Int.gcd d r = Int.gcd a b := by
    rw [← hg, ← hr]
    exact gcd_step' n d
  clear e1 hg i1 i2 hp hr g1 g2 g3 g4 le1 q0 q1 q2 q3 q4 q5 m4 m5 l4 l5 hmod
  have bd : ∀ {z : Int} {c : Int}, -1000000 ≤ c ∧ c ≤ 1000000 → z.natAbs ≤ c.natAbs → -1000000 ≤ z ∧ z ≤ 1000000 := fun {z c} _ _ => by omega
  refine ⟨bd hn b6, bd hn b5, bd hb b1, bd ha b2, hlt, e2, h9, h8, ?_, ?_, hdd, bd hdd (Nat.le_of_lt hlt), hu, hv, bd hb b3, bd ha b4, fun hb0 => absurd (h0 hb0).1 hd⟩
  · rw [Nat.add_comm, Nat.add_comm] at f1 ⊢
    exact f1
  · exact f2

theorem eu_end {a b n x y : Int} {u v : Int} (h : Eu a b n x y 0 u v) : ((n.natAbs : Nat) : Int) = (Int.gcd a b : Nat) := by
  obtain ⟨_, _, hg, _⟩ := h
  rw [← hg]
  simp

/-- The signs, and the least factor. -/
theorem bez_b0 {a n x y u v : Int} (h : Eu a 0 n x y 0 u v) (hn : n ≠ 0) : IsBez a 0 (n.tdiv n.natAbs * n) (n.tdiv n.natAbs * x) (n.tdiv n.natAbs * y) := by
  have he := eu_end h
  obtain ⟨e1, _, _, _, _, _, _, _, _, _, _, h0⟩ := h
  obtain ⟨_, rfl⟩ := h0 rfl
  have hs : n.tdiv n.natAbs * n = n.natAbs := by
    rcases Int.lt_or_le n 0 with hn0 | hn0
    · have : (n.natAbs : Int) = -n := by omega
      rw [this, Int.tdiv_neg, Int.tdiv_self hn]
      omega
    · have : (n.natAbs : Int) = n := by omega
      rw [this, Int.tdiv_self hn]
      omega
  refine ⟨by rw [hs, he], ?_, fun h => absurd rfl h, fun _ => by simp⟩
  simp only [Int.add_zero, Int.mul_zero] at e1 ⊢
  rw [← e1]
  grind

theorem bez_of {a b X Y g : Int} (hb : b ≠ 0) (hg : g = (Int.gcd a b : Nat)) (e : a * X + b * Y = g) :
    0 < (b.natAbs : Int) / g ∧ b ∣ g - a * (X % ((b.natAbs : Int) / g)) ∧ IsBez a b g (X % ((b.natAbs : Int) / g)) ((g - a * (X % ((b.natAbs : Int) / g))) / b) := by
  obtain ⟨a', b', ea, eb, hc, hd⟩ := gcd_parts_abs (a := a) hb
  have hgp := gcd_pos_r (a := a) hb
  rw [← hg] at ea eb hd
  rw [hd]
  have hb' : 0 < (b'.natAbs : Int) := by
    have : b' ≠ 0 := by
      rintro rfl
      exact hb (by rw [eb]; simp)
    omega
  obtain ⟨s, hs⟩ : ∃ s : Int, (b'.natAbs : Int) = b' * s := Int.natAbs_dvd_natAbs.1 (by simp)
  have hm := Int.emod_add_mul_ediv X (b'.natAbs : Int)
  have hdv : g - a * (X % (b'.natAbs : Int)) = b * (Y + a' * s * (X / (b'.natAbs : Int))) := by
    have e2 : X % (b'.natAbs : Int) = X - b' * s * (X / (b'.natAbs : Int)) := by rw [← hs]; omega
    rw [e2]
    have e3 : a * b' = b * a' := by
      rw [ea, eb]
      simp only [Int.mul_comm, Int.mul_left_comm]
    generalize X / (b'.natAbs : Int) = q
    have : g - a * (X - b' * s * q) = (g - a * X) + a * b' * (s * q) := by grind
    rw [this, e3]
    have : g - a * X = b * Y := by omega
    rw [this]
    grind
  refine ⟨hb', ⟨_, hdv⟩, hg, ?_, fun _ => ⟨Int.emod_nonneg _ (by omega), by rw [hd]; exact Int.emod_lt_of_pos _ hb'⟩, fun h => absurd h hb⟩
  rw [hdv, Int.mul_ediv_cancel_left _ hb, ← hdv]
  omega

/-- How great the numbers of Bezout are. -/
theorem bez_bd {a b g x y : Int} (hb : -1000000 ≤ b ∧ b ≤ 1000000) (h : IsBez a b g x y) (h0 : b ≠ 0) : 1 ≤ g ∧ g ≤ 1000000 ∧ 0 ≤ x ∧ x ≤ 1000000 := by
  obtain ⟨hg, e, h1, _⟩ := h
  obtain ⟨x0, x1⟩ := h1 h0
  have hgp := gcd_pos_r (a := a) h0
  have hgl : Int.gcd a b ≤ b.natAbs := Nat.le_of_dvd (by omega) (Nat.gcd_dvd_right _ _)
  have : (b.natAbs : Int) / g ≤ b.natAbs := Int.ediv_le_self _ (by omega)
  omega

theorem tmod_zero' {x m : Int} : x.tmod m = 0 ↔ m ∣ x := ⟨Int.dvd_of_tmod_eq_zero, Int.tmod_eq_zero_of_dvd⟩
theorem tdiv_of_dvd {x m : Int} (h : m ∣ x) : m * x.tdiv m = x := Int.mul_tdiv_cancel' h
theorem tdiv_eq_ediv {x m : Int} (h : m ∣ x) : x.tdiv m = x / m := Int.tdiv_eq_ediv_of_dvd h
theorem tdiv_nat {x m : Int} (h : 0 ≤ x) : x.tdiv m = x / m := Int.tdiv_eq_ediv_of_nonneg h
theorem tdiv_le (x m : Int) : (x.tdiv m).natAbs ≤ x.natAbs := by
  rw [Int.natAbs_tdiv]
  exact Nat.div_le_self _ _

/-- The program's solution of a congruence. -/
theorem sol_impl {a b m g X Y : Int} (hm : 0 < m) (h : IsBez a m g X Y) (hd : g ∣ b) : IsSol a b m ((X * b.tdiv g) % (m / g)) (m / g) := by
  obtain ⟨hg, e, _, _⟩ := h
  have hb := tdiv_of_dvd hd
  rw [hg] at e hb hd ⊢
  refine isSol_of (u := X * b.tdiv (Int.gcd a m : Nat)) hm ⟨-(Y * b.tdiv (Int.gcd a m : Nat)), ?_⟩
  generalize b.tdiv (Int.gcd a m : Nat) = k at *
  rw [← hb, ← e]
  grind

/-- The remainder of a by m has the same divisors in common with m. -/
theorem gcd_emod (a m : Int) : Int.gcd (a % m) m = Int.gcd a m := by
  rw [Int.gcd_comm, Int.gcd_comm a m]
  apply Nat.dvd_antisymm
  · have h1 := Int.gcd_dvd_left m (a % m)
    have h2 := Int.gcd_dvd_right m (a % m)
    have : ((Int.gcd m (a % m) : Nat) : Int) ∣ a := by
      have e := Int.dvd_add h2 (Int.dvd_mul_of_dvd_left (b := m) (c := a / m) h1)
      rwa [Int.emod_add_mul_ediv a m] at e
    exact Int.ofNat_dvd.1 (Int.dvd_coe_gcd h1 this)
  · have h1 := Int.gcd_dvd_left m a
    have h2 := Int.gcd_dvd_right m a
    have : ((Int.gcd m a : Nat) : Int) ∣ a % m := by
      have e := Int.emod_add_mul_ediv a m
      have e2 : a % m = a - m * (a / m) := by omega
      rw [e2]
      exact Int.dvd_sub h2 (Int.dvd_mul_of_dvd_left h1)
    exact Int.ofNat_dvd.1 (Int.dvd_coe_gcd h1 this)

/-- The model's solution of a congruence: A is the remainder of a, without the common divisor; x its inverse. -/
theorem sol_spec {a b m x : Int} (hm : 0 < m) (hd : ((Int.gcd a m : Nat) : Int) ∣ b)
    (hx : (m / (Int.gcd a m : Nat)) ∣ ((a % m) / (Int.gcd a m : Nat) % (m / (Int.gcd a m : Nat))) * x - 1) :
    IsSol a b m ((b / (Int.gcd a m : Nat) % (m / (Int.gcd a m : Nat)) * x) % (m / (Int.gcd a m : Nat))) (m / (Int.gcd a m : Nat)) := by
  obtain ⟨a', m', ea, em, hc, e⟩ := gcd_parts (a := a) (m := m) (by omega)
  have hg := gcd_pos_r (a := a) (m := m) (by omega)
  have hda : ((Int.gcd a m : Nat) : Int) ∣ a % m := by
    have := Int.gcd_dvd_left (a % m) m
    rwa [gcd_emod] at this
  refine isSol_of hm ?_
  rw [e] at hx ⊢
  obtain ⟨b', hb'⟩ := hd
  obtain ⟨A, hA⟩ := hda
  have hq := Int.emod_add_mul_ediv a m
  generalize a / m = t at hq
  generalize hG : ((Int.gcd a m : Nat) : Int) = g at *
  have hb2 : b / g = b' := by rw [hb', Int.mul_ediv_cancel_left _ (by omega)]
  have hA2 : a % m / g = A := by rw [hA, Int.mul_ediv_cancel_left _ (by omega)]
  rw [hb2]
  rw [hA2] at hx
  obtain ⟨k, hk⟩ := hx
  have h1 := Int.emod_add_mul_ediv A m'
  have h2 := Int.emod_add_mul_ediv b' m'
  generalize A / m' = i at h1
  generalize b' / m' = j at h2
  generalize A % m' = A0 at *
  generalize b' % m' = b0 at *
  -- a = g A + m t, A = A0 + m' i, b' = b0 + m' j, A0 x = 1 + m' k
  refine ⟨t * (b0 * x) + i * b0 * x + k * b0 - j, ?_⟩
  have e1 : a = g * (A0 + m' * i) + m * t := by rw [h1, ← hA]; exact hq.symm
  have e2 : b = g * (b0 + m' * j) := by rw [h2, ← hb']
  have e3 : A0 * x = 1 + m' * k := by omega
  rw [e1, e2, em]
  have : (g * (A0 + m' * i) + g * m' * t) * (b0 * x) = g * (b0 * (A0 * x)) + g * m' * (i * (b0 * x)) + g * m' * (t * (b0 * x)) := by grind
  rw [this, e3]
  grind

/-- Bezout's numbers from an inverse. -/
theorem bez_inv {a b x : Int} (hb : b ≠ 0) (h0 : 0 ≤ x) (h1 : x < (b.natAbs : Int) / (Int.gcd a b : Nat)) (h : ((b.natAbs : Int) / (Int.gcd a b : Nat)) ∣ (a / (Int.gcd a b : Nat)) * x - 1) :
    b ∣ (Int.gcd a b : Nat) - a * x ∧ IsBez a b (Int.gcd a b : Nat) x ((((Int.gcd a b : Nat) : Int) - a * x) / b) := by
  obtain ⟨a', b', ea, eb, hc, hd⟩ := gcd_parts_abs (a := a) hb
  have hg := gcd_pos_r (a := a) hb
  have e1 : a / (Int.gcd a b : Nat) = a' := by
    rw [Int.ediv_eq_iff_eq_mul_right (by omega) (Int.gcd_dvd_left a b)]
    exact ea
  rw [e1, hd] at h
  have h' : b' ∣ a' * x - 1 := Int.natAbs_dvd.1 h
  obtain ⟨k, hk⟩ := h'
  have hdv : ((Int.gcd a b : Nat) : Int) - a * x = b * (-k) := by
    have e3 : a' * x = 1 + b' * k := by omega
    generalize hG : ((Int.gcd a b : Nat) : Int) = g at *
    rw [ea, eb, Int.mul_assoc, e3]
    grind
  refine ⟨⟨_, hdv⟩, rfl, ?_, fun _ => ⟨h0, h1⟩, fun h => absurd h hb⟩
  rw [hdv, Int.mul_ediv_cancel_left _ hb, ← hdv]
  omega

/-- Without b. -/
theorem bez_none {a : Int} (ha : a ≠ 0) : IsBez a 0 (a.natAbs : Int) (a.tdiv a.natAbs) 0 := by
  have hs : a * a.tdiv a.natAbs = a.natAbs := by
    rcases Int.lt_or_le a 0 with hn0 | hn0
    · have : (a.natAbs : Int) = -a := by omega
      rw [this, Int.tdiv_neg, Int.tdiv_self ha]
      omega
    · have : (a.natAbs : Int) = a := by omega
      rw [this, Int.tdiv_self ha]
      omega
  exact ⟨by simp, by rw [hs]; simp, fun h => absurd rfl h, fun _ => rfl⟩

theorem dvd_lcm_r (m n : Int) : n ∣ ((Int.lcm m n : Nat) : Int) := by
  unfold Int.lcm
  exact Int.natAbs_dvd_natAbs.1 (by simpa using Nat.dvd_lcm_right _ _)
theorem com_impl {r m s n x t : Int} (hm : 0 < m) (hn : 0 < n) (h : IsSol m (s - r) n x t) : IsCom r m s n ((r + m * x) % (m * t)) (m * t) := by
  obtain ⟨rfl, x0, x1, hx⟩ := h
  have hl := lcm_of_gcd hm hn
  have hg := gcd_pos_r (a := m) (m := n) (by omega)
  have ht : 0 < m * (n / (Int.gcd m n : Nat)) := Int.mul_pos hm (by omega)
  have hq := Int.emod_add_mul_ediv (r + m * x) (m * (n / (Int.gcd m n : Nat)))
  have hdm : m ∣ m * (n / (Int.gcd m n : Nat)) := Int.dvd_mul_right _ _
  have hdn : n ∣ m * (n / (Int.gcd m n : Nat)) := by rw [hl]; exact dvd_lcm_r m n
  refine ⟨hl, Int.emod_nonneg _ (by omega), Int.emod_lt_of_pos _ ht, ?_, ?_⟩
  · have e : (r + m * x) % (m * (n / (Int.gcd m n : Nat))) - r = m * x - m * (n / (Int.gcd m n : Nat)) * ((r + m * x) / (m * (n / (Int.gcd m n : Nat)))) := by omega
    rw [e]
    exact Int.dvd_sub (Int.dvd_mul_right _ _) (Int.dvd_mul_of_dvd_left hdm)
  · have e : (r + m * x) % (m * (n / (Int.gcd m n : Nat))) - s = (m * x - (s - r)) - m * (n / (Int.gcd m n : Nat)) * ((r + m * x) / (m * (n / (Int.gcd m n : Nat)))) := by omega
    rw [e]
    exact Int.dvd_sub hx (Int.dvd_mul_of_dvd_left hdn)

/-- A congruence by the remainder of its number. -/
theorem sol_emod {a b m x s : Int} : IsSol a (b % m) m x s ↔ IsSol a b m x s := by
  have hq := Int.emod_add_mul_ediv b m
  have e : (m ∣ a * x - b % m) ↔ (m ∣ a * x - b) := by
    constructor
    · intro h
      have : a * x - b = (a * x - b % m) - m * (b / m) := by omega
      rw [this]
      exact Int.dvd_sub h (Int.dvd_mul_right _ _)
    · intro h
      have : a * x - b % m = (a * x - b) + m * (b / m) := by omega
      rw [this]
      exact Int.dvd_add h (Int.dvd_mul_right _ _)
  unfold IsSol
  rw [e]

theorem dvd_emod {g b m : Int} (h : g ∣ m) : g ∣ b % m ↔ g ∣ b := by
  have hq := Int.emod_add_mul_ediv b m
  constructor
  · intro hb
    rw [← hq]
    exact Int.dvd_add hb (Int.dvd_mul_of_dvd_left h)
  · intro hb
    have : b % m = b - m * (b / m) := by omega
    rw [this]
    exact Int.dvd_sub hb (Int.dvd_mul_of_dvd_left h)

end Go.Proofs.YtpheihejgnlanaaDoor
