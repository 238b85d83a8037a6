/- From where, and after how many numbers, the sequences of chapter 7 repeat. Over core Lean alone. -/
import Derived.Test.YtkhnninnmpffmaaDoorSetQ
namespace Go.Proofs.YtkhnninnmpffmaaDoor
theorem per_sh (h l : List UInt8) (k : Nat) : PerS (shA (atS h l) k) (h.length + k) l.length := by
  have e : shA (atS h l) k = atS (List.replicate k 48 ++ h) l := (funext (sh_at h l k)).symm
  have := per_at (List.replicate k 48 ++ h) l
  rw [e]
  simpa [Nat.add_comm] using this
theorem per_st (h l : List UInt8) {k : Nat} (hk : 1 ≤ k) (hl : l ≠ []) : PerS (stA (atS h l) k) (h.length * k) (l.length * k) := by
  have e : stA (atS h l) k = atS (strL h k) (strL l k) := (funext (st_at h l hk hl)).symm
  have := per_at (strL h k) (strL l k)
  rw [e]
  rwa [str_len h hk, str_len l hk] at this
theorem per_pr0 (f : Nat) : PerS (prA f 0) (f + 1) 1 := by
  have e : prA f 0 = atS (List.replicate f 48 ++ [49]) [48] := (funext (pr_at0 f)).symm
  have := per_at (List.replicate f 48 ++ [49]) [48]
  rw [e]
  simpa using this
theorem per_pr1 (f : Nat) {s : Nat} (hs : 1 ≤ s) : PerS (prA f s) f s := by
  have e : prA f s = atS (List.replicate f 48) (49 :: List.replicate (s - 1) 48) := (funext fun n => pr_at1 f s n hs).symm
  have := per_at (List.replicate f 48) (49 :: List.replicate (s - 1) 48)
  rw [e]
  rw [List.length_replicate, List.length_cons, List.length_replicate, show s - 1 + 1 = s by omega] at this
  exact this
/-- Of multiples: the head is divided and rounded up, the loop is divided by what it has in common with the factor. -/
theorem per_dv2 {a : Nat → UInt8} {N p k M q : Nat} (ha : PerS a N p) (hM : N ≤ k * M) (hq : p ∣ k * q) : PerS (dvA a k) M q := fun n hn => by
  unfold dvA
  obtain ⟨c, hc⟩ := hq
  have hkn : k * M ≤ k * n := Nat.mul_le_mul_left k hn
  rw [Nat.mul_add, hc, Nat.mul_comm p c, per_mul ha c _ (by omega)]
theorem dvd_gcd (p k : Nat) : p ∣ k * (p / Nat.gcd p k) := by
  obtain ⟨x, hx⟩ := Nat.gcd_dvd_left p k
  obtain ⟨y, hy⟩ := Nat.gcd_dvd_right p k
  rcases Nat.eq_zero_or_pos (Nat.gcd p k) with h0 | h0
  · have : p = 0 := Nat.eq_zero_of_gcd_eq_zero_left h0
    subst this
    simp
  · have e : p / Nat.gcd p k = x := by conv => lhs; arg 1; rw [hx]
                                       exact Nat.mul_div_cancel_left _ h0
    rw [e]
    exact ⟨y, by conv => rhs; rw [hx]
                 conv => lhs; rw [hy]
                 rw [Nat.mul_right_comm]⟩
theorem lcm_both (p q : Nat) : p ∣ p / Nat.gcd p q * q ∧ q ∣ p / Nat.gcd p q * q := by
  refine ⟨?_, ⟨p / Nat.gcd p q, Nat.mul_comm _ _⟩⟩
  have := dvd_gcd p q
  rwa [Nat.mul_comm] at this
theorem lcm_pos {p q : Nat} (hp : 0 < p) (hq : 0 < q) : 0 < p / Nat.gcd p q * q := by
  have := Nat.div_pos (Nat.gcd_le_left q hp) (Nat.gcd_pos_of_pos_left q hp)
  exact Nat.mul_pos this hq
theorem lcm_le (p q : Nat) : p / Nat.gcd p q * q ≤ p * q := Nat.mul_le_mul_right q (Nat.div_le_self _ _)
/-- Sums repeat after what both parts repeat after. -/
theorem sum_per2 {a b : Nat → UInt8} {N M m : Nat} (ha : PerS a N m) (hb : PerS b M m) (n : Nat) (hn : N + M + m ≤ n) : sumB a b (n + m) = sumB a b n := by
  have ha' : ∀ i, N ≤ i → inS a (i + m) = inS a i := fun i hi => by unfold inS; rw [ha i hi]
  have hb' : ∀ i, M ≤ i → inS b (i + m) = inS b i := fun i hi => by unfold inS; rw [hb i hi]
  rw [Bool.eq_iff_iff, sumB_iff, sumB_iff]
  constructor
  · rintro ⟨i, j, e, h1, h2⟩
    by_cases hi : N + m ≤ i
    · refine ⟨i - m, j, by omega, ?_, h2⟩
      rw [← ha' (i - m) (by omega), show i - m + m = i by omega]
      exact h1
    · by_cases hj : M + m ≤ j
      · refine ⟨i, j - m, by omega, h1, ?_⟩
        rw [← hb' (j - m) (by omega), show j - m + m = j by omega]
        exact h2
      · omega
  · rintro ⟨i, j, e, h1, h2⟩
    by_cases hi : N ≤ i
    · exact ⟨i + m, j, by omega, by rw [ha' i hi]; exact h1, h2⟩
    · exact ⟨i, j + m, by omega, h1, by rw [hb' j (by omega)]; exact h2⟩
theorem per_sm2 {a b : Nat → UInt8} {N M m : Nat} (ha : PerS a N m) (hb : PerS b M m) : PerS (smA a b) (N + M + m) m := fun n hn => by
  unfold smA
  rw [sum_per2 ha hb n hn]
/-- What is made of the first numbers of a sequence of bits. -/
theorem res_of {f : Nat → Bool} {N p : Nat} (hp0 : 0 < p) (hp : PerS (fun n => bitS (f n)) N p) {H L : List UInt8} (hH : H = rawH (fun n => bitS (f n)) N) (hL : L = rawL (fun n => bitS (f n)) N p) :
    atS H L = fun n => bitS (f n) := by
  rw [hH, hL]
  exact raw_at hp0 hp
theorem and_self' (a : Nat → UInt8) : (fun n => bitS (!inS a n)) = notA a := rfl
theorem bits_res {a : Nat → UInt8} (h : Bits a) : (fun n => bitS (inS a n)) = a := by
  funext n
  exact bits_in h n
theorem bits_sh {a : Nat → UInt8} (h : Bits a) (k : Nat) : Bits (shA a k) := fun n => by
  unfold shA
  split
  · exact .inl rfl
  · exact h _
theorem bits_st {a : Nat → UInt8} (h : Bits a) (k : Nat) : Bits (stA a k) := fun n => by
  unfold stA
  split
  · exact h _
  · exact .inl rfl
theorem bits_dv {a : Nat → UInt8} (h : Bits a) (k : Nat) : Bits (dvA a k) := fun _ => h _
theorem in_sh (a : Nat → UInt8) (k n : Nat) : inS (shA a k) n = (decide (k ≤ n) && inS a (n - k)) := by
  unfold inS shA
  by_cases h : n < k
  · rw [if_pos h, decide_eq_false (by omega)]
    rfl
  · rw [if_neg h, decide_eq_true (by omega), Bool.true_and]
theorem in_st (a : Nat → UInt8) (k n : Nat) : inS (stA a k) n = (decide (n % k = 0) && inS a (n / k)) := by
  unfold inS stA
  by_cases h : n % k = 0
  · rw [if_pos h, decide_eq_true h, Bool.true_and]
  · rw [if_neg h, decide_eq_false h]
    rfl
end Go.Proofs.YtkhnninnmpffmaaDoor
