/- What the laws of chapter 7 say of sequences: connectives, sums, shifts, multiples, counts, the least and the greatest. Over core Lean alone. -/
import Derived.Test.YtkhnninnmpffmaaDoorSetO
namespace Go.Proofs.YtkhnninnmpffmaaDoor
/-- A sequence of bits. -/
def Bits (a : Nat → UInt8) : Prop := ∀ n, a n = 48 ∨ a n = 49
theorem bits_bit {f : Nat → Bool} : Bits fun n => bitS (f n) := fun n => by dsimp only; cases f n <;> simp [bitS]
theorem bits_in {a : Nat → UInt8} (h : Bits a) (n : Nat) : bitS (inS a n) = a n := by
  unfold inS
  rcases h n with e | e <;> rw [e] <;> rfl
theorem in_or (a b : Nat → UInt8) (n : Nat) : inS (orA a b) n = (inS a n || inS b n) := in_bit _
theorem in_and (a b : Nat → UInt8) (n : Nat) : inS (andA a b) n = (inS a n && inS b n) := in_bit _
theorem in_not (a : Nat → UInt8) (n : Nat) : inS (notA a) n = !inS a n := in_bit _
theorem in_sm (a b : Nat → UInt8) (n : Nat) : inS (smA a b) n = sumB a b n := in_bit _
theorem in_pr (f s n : Nat) : inS (prA f s) n = (decide (f ≤ n) && (if s = 0 then decide (n = f) else decide ((n - f) % s = 0))) := in_bit _
theorem or_comm' (a b : Nat → UInt8) : orA a b = orA b a := by funext n; unfold orA; rw [Bool.or_comm]
theorem and_comm' (a b : Nat → UInt8) : andA a b = andA b a := by funext n; unfold andA; rw [Bool.and_comm]
theorem or_again (a b : Nat → UInt8) : orA (orA a b) a = orA a b := by
  funext n
  show bitS (inS (orA a b) n || inS a n) = bitS (inS a n || inS b n)
  rw [in_or]
  cases inS a n <;> simp
theorem not_not' {a : Nat → UInt8} (h : Bits a) : notA (notA a) = a := by
  funext n
  show bitS (!inS (notA a) n) = a n
  rw [in_not, Bool.not_not]
  exact bits_in h n
theorem not_or' (a b : Nat → UInt8) : notA (orA a b) = andA (notA a) (notA b) := by
  funext n
  show bitS (!inS (orA a b) n) = bitS (inS (notA a) n && inS (notA b) n)
  rw [in_or, in_not, in_not, Bool.not_or]
theorem sm_comm (a b : Nat → UInt8) : smA a b = smA b a := by
  funext n
  unfold smA
  congr 1
  rw [Bool.eq_iff_iff, sumB_iff, sumB_iff]
  constructor
  · rintro ⟨i, j, e, h1, h2⟩; exact ⟨j, i, by omega, h2, h1⟩
  · rintro ⟨i, j, e, h1, h2⟩; exact ⟨j, i, by omega, h2, h1⟩
theorem sm_or (a b c : Nat → UInt8) : smA a (orA b c) = orA (smA a b) (smA a c) := by
  funext n
  show bitS (sumB a (orA b c) n) = bitS (inS (smA a b) n || inS (smA a c) n)
  rw [in_sm, in_sm]
  congr 1
  rw [Bool.eq_iff_iff, Bool.or_eq_true, sumB_iff, sumB_iff, sumB_iff]
  constructor
  · rintro ⟨i, j, e, h1, h2⟩
    rw [in_or, Bool.or_eq_true] at h2
    rcases h2 with h2 | h2
    · exact .inl ⟨i, j, e, h1, h2⟩
    · exact .inr ⟨i, j, e, h1, h2⟩
  · rintro (⟨i, j, e, h1, h2⟩ | ⟨i, j, e, h1, h2⟩)
    · exact ⟨i, j, e, h1, by rw [in_or, h2]; rfl⟩
    · exact ⟨i, j, e, h1, by rw [in_or, h2, Bool.or_true]⟩
/-- The sum with one number is a shift. -/
theorem sm_one {a : Nat → UInt8} (h : Bits a) (k : Nat) : smA a (prA k 0) = shA a k := by
  funext n
  unfold smA shA
  have e : sumB a (prA k 0) n = (if n < k then false else inS a (n - k)) := by
    rw [Bool.eq_iff_iff, sumB_iff]
    constructor
    · rintro ⟨i, j, e, h1, h2⟩
      rw [in_pr, if_pos rfl, Bool.and_eq_true, decide_eq_true_eq, decide_eq_true_eq] at h2
      obtain ⟨_, rfl⟩ := h2
      rw [if_neg (by omega), show n - j = i by omega]
      exact h1
    · intro h1
      by_cases hk : n < k
      · rw [if_pos hk] at h1
        exact absurd h1 (by decide)
      · rw [if_neg hk] at h1
        exact ⟨n - k, k, by omega, h1, by rw [in_pr, if_pos rfl]; simp⟩
  rw [e]
  by_cases hk : n < k
  · rw [if_pos hk, if_pos hk]
    rfl
  · rw [if_neg hk, if_neg hk]
    exact bits_in h _
theorem sh_zero (a : Nat → UInt8) : shA a 0 = a := by funext n; unfold shA; simp
theorem sh_sh (a : Nat → UInt8) (k m : Nat) : shA (shA a k) m = shA a (k + m) := by
  funext n
  unfold shA
  by_cases h1 : n < m
  · rw [if_pos h1, if_pos (by omega)]
  · rw [if_neg h1]
    by_cases h2 : n - m < k
    · rw [if_pos h2, if_pos (by omega)]
    · rw [if_neg h2, if_neg (by omega), show n - m - k = n - (k + m) by omega]
theorem dv_st {a : Nat → UInt8} {k : Nat} (hk : 1 ≤ k) : dvA (stA a k) k = a := by
  funext n
  unfold dvA stA
  rw [if_pos (Nat.mul_mod_right k n), Nat.mul_div_cancel_left n (by omega)]
theorem st_dv {a : Nat → UInt8} {k : Nat} (h : Bits a) (hk : 1 ≤ k) : stA (dvA a k) k = andA a (prA 0 k) := by
  funext n
  show _ = bitS (inS a n && inS (prA 0 k) n)
  rw [in_pr, if_neg (by omega), decide_eq_true (Nat.zero_le n), Bool.true_and, Nat.sub_zero]
  unfold stA dvA
  by_cases h1 : n % k = 0
  · rw [if_pos h1, decide_eq_true h1, Bool.and_true, bits_in h, Nat.mul_div_cancel' (Nat.dvd_of_mod_eq_zero h1)]
  · rw [if_neg h1, decide_eq_false h1, Bool.and_false]
    rfl
theorem bits_at {h l : List UInt8} (hl : l ≠ []) (h1 : ∀ x ∈ h, x = 48 ∨ x = 49) (h2 : ∀ x ∈ l, x = 48 ∨ x = 49) : Bits (atS h l) := at_bit hl h1 h2

/-- How many numbers of a set are below another one. -/
def cntA (a : Nat → UInt8) : Nat → Nat
  | 0 => 0
  | n + 1 => cntA a n + (inS a n).toNat
theorem cnt_le (a : Nat → UInt8) (n : Nat) : cntA a n ≤ n := by
  induction n with
  | zero => exact Nat.le_refl _
  | succ n ih =>
    unfold cntA
    have : (inS a n).toNat ≤ 1 := by cases inS a n <;> simp
    omega
theorem cnt_both (a b : Nat → UInt8) (n : Nat) : cntA (orA a b) n + cntA (andA a b) n = cntA a n + cntA b n := by
  induction n with
  | zero => rfl
  | succ n ih =>
    simp only [cntA, in_or, in_and]
    cases inS a n <;> cases inS b n <;> simp <;> omega
theorem cnt_not (a : Nat → UInt8) (n : Nat) : cntA a n + cntA (notA a) n = n := by
  induction n with
  | zero => rfl
  | succ n ih =>
    simp only [cntA, in_not]
    cases inS a n <;> simp <;> omega
/-- The least number of a set, or -1. -/
def IsLeastA (a : Nat → UInt8) (r : Int) : Prop := (r = -1 ∧ ∀ n, inS a n = false) ∨ ∃ n : Nat, r = n ∧ inS a n = true ∧ ∀ m, m < n → inS a m = false
theorem least_one {a : Nat → UInt8} {r s : Int} (h1 : IsLeastA a r) (h2 : IsLeastA a s) : r = s := by
  rcases h1 with ⟨e1, h1⟩ | ⟨n, e1, h1, k1⟩ <;> rcases h2 with ⟨e2, h2⟩ | ⟨m, e2, h2, k2⟩
  · omega
  · rw [h1 m] at h2; exact absurd h2 (by decide)
  · rw [h2 n] at h1; exact absurd h1 (by decide)
  · rcases Nat.lt_trichotomy n m with h | h | h
    · rw [k2 n h] at h1; exact absurd h1 (by decide)
    · omega
    · rw [k1 m h] at h2; exact absurd h2 (by decide)
/-- The greatest number of a set, or -1; -2 where there is none that is greatest. -/
def IsMostA (a : Nat → UInt8) (r : Int) : Prop := (r = -1 ∧ ∀ n, inS a n = false) ∨ (r = -2 ∧ ∀ n, ∃ m, n ≤ m ∧ inS a m = true) ∨ ∃ n : Nat, r = n ∧ inS a n = true ∧ ∀ m, n < m → inS a m = false
theorem most_one {a : Nat → UInt8} {r s : Int} (h1 : IsMostA a r) (h2 : IsMostA a s) : r = s := by
  rcases h1 with ⟨e1, h1⟩ | ⟨e1, h1⟩ | ⟨n, e1, h1, k1⟩ <;> rcases h2 with ⟨e2, h2⟩ | ⟨e2, h2⟩ | ⟨m, e2, h2, k2⟩
  · omega
  · obtain ⟨m, _, h⟩ := h2 0
    rw [h1 m] at h; exact absurd h (by decide)
  · rw [h1 m] at h2; exact absurd h2 (by decide)
  · obtain ⟨m, _, h⟩ := h1 0
    rw [h2 m] at h; exact absurd h (by decide)
  · omega
  · obtain ⟨n, hn, h⟩ := h1 (m + 1)
    rw [k2 n (by omega)] at h; exact absurd h (by decide)
  · rw [h2 n] at h1; exact absurd h1 (by decide)
  · obtain ⟨m, hm, h⟩ := h2 (n + 1)
    rw [k1 m (by omega)] at h; exact absurd h (by decide)
  · rcases Nat.lt_trichotomy n m with h | h | h
    · rw [k1 m h] at h2; exact absurd h2 (by decide)
    · omega
    · rw [k2 n h] at h1; exact absurd h1 (by decide)
/-- A number that repeats: there is none that is greatest. -/
theorem most_loop {a : Nat → UInt8} {N p : Nat} (hp0 : 0 < p) (hp : PerS a N p) {i : Nat} (hi : N ≤ i) (h : inS a i = true) : IsMostA a (-2) := by
  refine .inr (.inl ⟨rfl, fun n => ⟨i + n * p, ?_, ?_⟩⟩)
  · have := Nat.mul_le_mul_left n hp0
    omega
  · unfold inS at h ⊢
    rw [per_mul hp n i hi]
    exact h
end Go.Proofs.YtkhnninnmpffmaaDoor
