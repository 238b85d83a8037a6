/- Chapter 7's sequences, and what is made of them: unions, others, shifts, multiples, progressions, sums. Over core Lean alone. -/
import Derived.Test.YtkhnninnmpffmaaDoorSetN
namespace Go.Proofs.YtkhnninnmpffmaaDoor
def bitL (l : List UInt8) : Bool := l.all fun x => x == 48 || x == 49
def svS (h l : List UInt8) : Bool := (bitL h && decide (h.length ≤ 400)) && (bitL l && decide (1 ≤ l.length ∧ l.length ≤ 240))
theorem bitL_iff {l : List UInt8} : bitL l = true ↔ ∀ x ∈ l, x = 48 ∨ x = 49 := by
  unfold bitL
  rw [List.all_eq_true]
  constructor
  · intro h x hx
    simpa using h x hx
  · intro h x hx
    simpa using h x hx
theorem svS_parts {h l : List UInt8} (hv : svS h l = true) : (∀ x ∈ h, x = 48 ∨ x = 49) ∧ (∀ x ∈ l, x = 48 ∨ x = 49) ∧ h.length ≤ 400 ∧ 1 ≤ l.length ∧ l.length ≤ 240 ∧ l ≠ [] := by
  unfold svS at hv
  simp only [Bool.and_eq_true, decide_eq_true_eq] at hv
  refine ⟨bitL_iff.1 hv.1.1, bitL_iff.1 hv.2.1, hv.1.2, hv.2.2.1, hv.2.2.2, fun e => ?_⟩
  rw [e] at hv
  simp at hv
theorem at_bit {h l : List UInt8} (hl : l ≠ []) (h1 : ∀ x ∈ h, x = 48 ∨ x = 49) (h2 : ∀ x ∈ l, x = 48 ∨ x = 49) (n : Nat) : atS h l n = 48 ∨ atS h l n = 49 := by
  have hl0 : 0 < l.length := List.length_pos_iff.2 hl
  unfold atS
  split
  · rename_i hn
    rw [List.getD_eq_getElem?_getD, List.getElem?_eq_getElem hn]
    exact h1 _ (List.getElem_mem hn)
  · have := Nat.mod_lt (n - h.length) hl0
    rw [List.getD_eq_getElem?_getD, List.getElem?_eq_getElem this]
    exact h2 _ (List.getElem_mem this)

/-- What a function says that returns the normal form of a sequence that repeats. -/
noncomputable def resA (a : Nat → UInt8) : (List UInt8 × List UInt8) × Bool := if (nfA a).1.length ≤ 400 ∧ (nfA a).2.length ≤ 240 then (nfA a, true) else (([], []), false)
theorem nf_bits {h l : List UInt8} (hl : l ≠ []) (h1 : ∀ x ∈ h, x = 48 ∨ x = 49) (h2 : ∀ x ∈ l, x = 48 ∨ x = 49) : (∀ x ∈ (nfS h l).1, x = 48 ∨ x = 49) ∧ (∀ x ∈ (nfS h l).2, x = 48 ∨ x = 49) ∧ (nfS h l).2 ≠ [] := by
  obtain ⟨a, _, _, _, e, f⟩ := nfS_spec (h := h) hl
  exact ⟨fun x hx => h1 x (e x hx), fun x hx => h2 x (f x hx), a.1⟩
/-- The normal form is valid just where it is short enough. -/
theorem sv_nf {h l : List UInt8} (hl : l ≠ []) (h1 : ∀ x ∈ h, x = 48 ∨ x = 49) (h2 : ∀ x ∈ l, x = 48 ∨ x = 49) : svS (nfS h l).1 (nfS h l).2 = decide ((nfS h l).1.length ≤ 400 ∧ (nfS h l).2.length ≤ 240) := by
  obtain ⟨b1, b2, b3⟩ := nf_bits hl h1 h2
  have b4 : 1 ≤ (nfS h l).2.length := List.length_pos_iff.2 b3
  unfold svS
  rw [bitL_iff.2 b1, bitL_iff.2 b2, Bool.true_and, Bool.true_and, ← Bool.decide_and, decide_eq_decide]
  omega
theorem res_nf {h l : List UInt8} (hl : l ≠ []) : resA (atS h l) = if (nfS h l).1.length ≤ 400 ∧ (nfS h l).2.length ≤ 240 then (nfS h l, true) else (([], []), false) := by
  unfold resA
  rw [nfA_at hl]
/-- A valid set has a valid normal form. -/
theorem res_valid {h l : List UInt8} (hv : svS h l = true) : resA (atS h l) = (nfS h l, true) := by
  obtain ⟨_, _, h3, _, h5, h6⟩ := svS_parts hv
  obtain ⟨_, _, e1, e2, _⟩ := nfS_spec (h := h) h6
  rw [res_nf h6, if_pos (by omega)]

/-- The sequences that the functions of chapter 7 make. -/
def bitS (b : Bool) : UInt8 := if b then 49 else 48
def orA (a b : Nat → UInt8) (n : Nat) : UInt8 := bitS (inS a n || inS b n)
def andA (a b : Nat → UInt8) (n : Nat) : UInt8 := bitS (inS a n && inS b n)
def notA (a : Nat → UInt8) (n : Nat) : UInt8 := bitS (!inS a n)
def shA (a : Nat → UInt8) (k n : Nat) : UInt8 := if n < k then 48 else a (n - k)
def stA (a : Nat → UInt8) (k n : Nat) : UInt8 := if n % k = 0 then a (n / k) else 48
def dvA (a : Nat → UInt8) (k n : Nat) : UInt8 := a (k * n)
def prA (f s n : Nat) : UInt8 := bitS (decide (f ≤ n) && (if s = 0 then decide (n = f) else decide ((n - f) % s = 0)))
def smA (a b : Nat → UInt8) (n : Nat) : UInt8 := bitS (sumB a b n)
theorem in_bit (b : Bool) : (bitS b == 49) = b := by cases b <;> rfl
theorem per_lcm {a : Nat → UInt8} {N p m : Nat} (h : PerS a N p) (hd : p ∣ m) : PerS a N m := by
  obtain ⟨k, rfl⟩ := hd
  intro n hn
  rw [Nat.mul_comm]
  exact per_mul h k n hn
theorem per_up {a : Nat → UInt8} {N M p : Nat} (h : PerS a N p) (hM : N ≤ M) : PerS a M p := fun n hn => h n (by omega)
theorem per_or {a b : Nat → UInt8} {N p : Nat} (ha : PerS a N p) (hb : PerS b N p) : PerS (orA a b) N p := fun n hn => by unfold orA inS; rw [ha n hn, hb n hn]
theorem per_and {a b : Nat → UInt8} {N p : Nat} (ha : PerS a N p) (hb : PerS b N p) : PerS (andA a b) N p := fun n hn => by unfold andA inS; rw [ha n hn, hb n hn]
theorem per_not {a : Nat → UInt8} {N p : Nat} (ha : PerS a N p) : PerS (notA a) N p := fun n hn => by unfold notA inS; rw [ha n hn]
theorem per_dv {a : Nat → UInt8} {N p k : Nat} (ha : PerS a N p) (hk : 1 ≤ k) : PerS (dvA a k) N p := fun n hn => by
  unfold dvA
  rw [Nat.mul_add, per_mul ha k _ (by have := Nat.mul_le_mul_right n hk; omega)]
theorem per_sm {a b : Nat → UInt8} {N M p q : Nat} (ha : PerS a N p) (hb : PerS b M q) : PerS (smA a b) (N + M + p * q) (p * q) := fun n hn => by
  unfold smA
  rw [sum_per ha hb n hn]
/-- Another set's numbers. -/
theorem not_at (h l : List UInt8) (hl : l ≠ []) (h1 : ∀ x ∈ h, x = 48 ∨ x = 49) (h2 : ∀ x ∈ l, x = 48 ∨ x = 49) (n : Nat) : atS (h.map fun x => 97 - x) (l.map fun x => 97 - x) n = notA (atS h l) n := by
  have hb := at_bit hl h1 h2 n
  have hl0 : 0 < l.length := List.length_pos_iff.2 hl
  have e : atS (h.map fun x => 97 - x) (l.map fun x => 97 - x) n = 97 - atS h l n := by
    unfold atS
    rw [List.length_map, List.length_map]
    split
    · rename_i hn
      rw [List.getD_eq_getElem?_getD, List.getD_eq_getElem?_getD, List.getElem?_map, List.getElem?_eq_getElem hn]
      rfl
    · have := Nat.mod_lt (n - h.length) hl0
      rw [List.getD_eq_getElem?_getD, List.getD_eq_getElem?_getD, List.getElem?_map, List.getElem?_eq_getElem this]
      rfl
  rw [e]
  unfold notA inS
  rcases hb with hb | hb <;> rw [hb] <;> rfl
/-- A shifted set's numbers. -/
theorem sh_at (h l : List UInt8) (k n : Nat) : atS (List.replicate k 48 ++ h) l n = shA (atS h l) k n := by
  unfold atS shA
  rw [List.length_append, List.length_replicate]
  by_cases hk : n < k
  · rw [if_pos (by omega), if_pos hk, List.getD_eq_getElem?_getD, List.getElem?_append_left (by simpa using hk)]
    simp [hk]
  · rw [if_neg hk]
    dsimp only
    by_cases hn : n < k + h.length
    · rw [if_pos hn, if_pos (by omega), List.getD_eq_getElem?_getD, List.getElem?_append_right (by simpa using hk), List.length_replicate, ← List.getD_eq_getElem?_getD]
    · rw [if_neg hn, if_neg (by omega), show n - (k + h.length) = n - k - h.length by omega]

/-- Bits with zeros behind each. -/
def strL (l : List UInt8) (k : Nat) : List UInt8 := l.flatMap fun x => x :: List.replicate (k - 1) 48
theorem str_len (l : List UInt8) {k : Nat} (hk : 1 ≤ k) : (strL l k).length = l.length * k := by
  induction l with
  | nil => simp [strL]
  | cons x r ih =>
    have : strL (x :: r) k = (x :: List.replicate (k - 1) 48) ++ strL r k := rfl
    rw [this, List.length_append, ih, List.length_cons, List.length_cons, List.length_replicate, Nat.succ_mul]
    omega
theorem str_get (l : List UInt8) {k : Nat} (hk : 1 ≤ k) : ∀ i, i < l.length * k → (strL l k).getD i 0 = if i % k = 0 then l.getD (i / k) 0 else 48 := by
  induction l with
  | nil => intro i hi; simp at hi
  | cons x r ih =>
    intro i hi
    have e : strL (x :: r) k = (x :: List.replicate (k - 1) 48) ++ strL r k := rfl
    rw [e, List.getD_eq_getElem?_getD]
    by_cases h1 : i < k
    · rw [List.getElem?_append_left (by simp; omega), Nat.mod_eq_of_lt h1, Nat.div_eq_of_lt h1]
      cases i with
      | zero => simp
      | succ j =>
        rw [if_neg (by omega), List.getElem?_cons_succ, List.getElem?_replicate, if_pos (by omega)]
        rfl
    · rw [List.length_cons, Nat.succ_mul] at hi
      have hl : (x :: List.replicate (k - 1) 48 : List UInt8).length = k := by simp; omega
      rw [List.getElem?_append_right (by rw [hl]; omega), hl, ← List.getD_eq_getElem?_getD, ih (i - k) (by omega)]
      have e1 : i % k = (i - k) % k := by rw [Nat.mod_eq_sub_mod (by omega)]
      have e2 : i / k = (i - k) / k + 1 := by rw [Nat.div_eq_sub_div (by omega) (by omega)]
      rw [e1, e2]
      split
      · rw [List.getD_eq_getElem?_getD, List.getD_eq_getElem?_getD, List.getElem?_cons_succ]
      · rfl
/-- A stretched set's numbers. -/
theorem st_at (h l : List UInt8) {k : Nat} (hk : 1 ≤ k) (hl : l ≠ []) (n : Nat) : atS (strL h k) (strL l k) n = stA (atS h l) k n := by
  have hl0 : 0 < l.length := List.length_pos_iff.2 hl
  have hdm := Nat.div_add_mod n k
  have hmk := Nat.mod_lt n (show 0 < k by omega)
  unfold atS stA
  dsimp only
  rw [str_len h hk, str_len l hk]
  by_cases hn : n < h.length * k
  · have hlt : n / k < h.length := by rw [Nat.div_lt_iff_lt_mul (by omega)]; exact hn
    rw [if_pos hn, str_get h hk n hn, if_pos hlt]
  · have hlt : ¬ n / k < h.length := by rw [Nat.div_lt_iff_lt_mul (by omega)]; exact hn
    rw [if_neg hn, if_neg hlt]
    have hpos : 0 < l.length * k := Nat.mul_pos hl0 (by omega)
    rw [str_get l hk _ (Nat.mod_lt _ hpos)]
    have e1 : (n - h.length * k) % (l.length * k) % k = n % k := by
      rw [Nat.mod_mod_of_dvd _ ⟨l.length, Nat.mul_comm _ _⟩]
      obtain ⟨m, hm⟩ : ∃ m, n = h.length * k + m := ⟨n - h.length * k, by omega⟩
      rw [hm, Nat.add_sub_cancel_left, Nat.add_comm, Nat.add_mul_mod_self_right]
    have e2 : (n - h.length * k) % (l.length * k) / k = (n / k - h.length) % l.length := by
      rw [Nat.mul_comm l.length k, Nat.mod_mul_right_div_self]
      congr 1
      obtain ⟨m, hm⟩ : ∃ m, n = h.length * k + m := ⟨n - h.length * k, by omega⟩
      rw [hm, Nat.add_sub_cancel_left, Nat.add_comm, Nat.add_mul_div_right _ _ (by omega), Nat.add_sub_cancel]
    rw [e1, e2]
/-- A progression's numbers. -/
theorem pr_at0 (f n : Nat) : atS (List.replicate f 48 ++ [49]) [48] n = prA f 0 n := by
  unfold atS prA
  rw [List.length_append, List.length_replicate, List.length_cons, List.length_nil, if_pos rfl]
  by_cases h1 : n < f
  · rw [if_pos (by omega), List.getD_eq_getElem?_getD, List.getElem?_append_left (by simpa using h1), decide_eq_false (by omega)]
    simp [h1, bitS]
  · by_cases h2 : n = f
    · subst h2
      rw [if_pos (by omega)]
      simp [bitS]
    · rw [if_neg (by omega), decide_eq_false (show ¬ n = f from h2)]
      simp [bitS, Nat.mod_one]
theorem pr_at1 (f s n : Nat) (hs : 1 ≤ s) : atS (List.replicate f 48) (49 :: List.replicate (s - 1) 48) n = prA f s n := by
  unfold atS prA
  rw [List.length_replicate, List.length_cons, List.length_replicate, show s - 1 + 1 = s by omega, if_neg (show ¬ s = 0 by omega)]
  by_cases h1 : n < f
  · rw [if_pos h1, decide_eq_false (by omega), List.getD_eq_getElem?_getD, List.getElem?_replicate, if_pos h1]
    rfl
  · rw [if_neg h1, decide_eq_true (show f ≤ n by omega), Bool.true_and]
    have := Nat.mod_lt (n - f) (show 0 < s by omega)
    cases hm : (n - f) % s with
    | zero => rfl
    | succ j =>
      rw [List.getD_eq_getElem?_getD, List.getElem?_cons_succ, List.getElem?_replicate, if_pos (by omega), decide_eq_false (by omega)]
      rfl
end Go.Proofs.YtkhnninnmpffmaaDoor
