/- How many numbers of a set are below another one, its least number, and its greatest one. -/
import Derived.Test.YtpheihejgnlanaaDoorMa7
import Derived.Lib.Bytealg
namespace Go.Proofs.YtpheihejgnlanaaDoor

theorem tk_step (l : List UInt8) (i : Nat) (hi : i < l.length) : (l.take (i + 1)).count 49 = (l.take i).count 49 + (l.getD i 0 == 49).toNat := by
  rw [List.take_succ_eq_append_getElem hi, List.count_append, List.count_singleton, List.getD_eq_getElem?_getD, List.getElem?_eq_getElem hi, Option.getD_some]
  cases l[i] == 49 <;> rfl
theorem cnt_head (h l : List UInt8) : ∀ k, k ≤ h.length → cntA (atS h l) k = (h.take k).count 49
  | 0, _ => by simp [cntA]
  | k + 1, hk => by
    unfold cntA
    rw [cnt_head h l k (by omega), tk_step h k (by omega)]
    unfold inS atS
    rw [if_pos (by omega)]
theorem cnt_loop (h l : List UInt8) (hl : 0 < l.length) : ∀ k, cntA (atS h l) (h.length + k) = h.count 49 + k / l.length * l.count 49 + (l.take (k % l.length)).count 49
  | 0 => by
    rw [Nat.add_zero, cnt_head h l _ (Nat.le_refl _), List.take_length, Nat.zero_div, Nat.zero_mod]
    simp
  | k + 1 => by
    have hm := Nat.mod_lt k hl
    have e : cntA (atS h l) (h.length + (k + 1)) = cntA (atS h l) (h.length + k) + (l.getD (k % l.length) 0 == 49).toNat := by
      rw [← Nat.add_assoc]
      show cntA _ _ + _ = _
      unfold inS atS
      rw [if_neg (by omega), Nat.add_sub_cancel_left]
    rw [e, cnt_loop h l hl k, Nat.add_assoc, ← tk_step l _ hm]
    have hd := Nat.div_add_mod k l.length
    by_cases hc : k % l.length + 1 = l.length
    · have h1 : k + 1 = l.length * (k / l.length + 1) := by rw [Nat.mul_add, Nat.mul_one]; omega
      have h2 : (k + 1) % l.length = 0 := by rw [h1, Nat.mul_mod_right]
      have h3 : (k + 1) / l.length = k / l.length + 1 := by rw [h1, Nat.mul_div_cancel_left _ hl]
      rw [h2, h3, hc, List.take_length, Nat.add_mul, Nat.one_mul]
      simp [Nat.add_assoc]
    · have h1 : k + 1 = (k % l.length + 1) + l.length * (k / l.length) := by omega
      have h2 : (k + 1) % l.length = k % l.length + 1 := by rw [h1, Nat.add_mul_mod_self_left, Nat.mod_eq_of_lt (by omega)]
      have h3 : (k + 1) / l.length = k / l.length := by rw [h1, Nat.add_mul_div_left _ _ hl, Nat.div_eq_of_lt (by omega), Nat.zero_add]
      rw [h2, h3]

theorem at_app {h l : List UInt8} {n : Nat} (hn : n < h.length + l.length) : atS h l n = (h ++ l).getD n 0 := by
  unfold atS
  split
  · rename_i q
    rw [List.getD_eq_getElem?_getD, List.getD_eq_getElem?_getD, List.getElem?_append_left q]
  · rename_i q
    rw [List.getD_eq_getElem?_getD, List.getD_eq_getElem?_getD, List.getElem?_append_right (by omega), Nat.mod_eq_of_lt (by omega)]
/-- What is in a set is told by the head and one loop. -/
theorem at_back {h l : List UInt8} (hl : 0 < l.length) (n : Nat) : ∃ m, m ≤ n ∧ m < h.length + l.length ∧ atS h l n = atS h l m := by
  by_cases q : n < h.length
  · exact ⟨n, Nat.le_refl _, by omega, rfl⟩
  · have hm := Nat.mod_lt (n - h.length) hl
    have hle := Nat.mod_le (n - h.length) l.length
    refine ⟨h.length + (n - h.length) % l.length, by omega, by omega, ?_⟩
    unfold atS
    rw [if_neg q, if_neg (by omega), Nat.add_sub_cancel_left, Nat.mod_mod]

theorem idx_spec (c : UInt8) : ∀ l : List UInt8, (Lib.indexByte l c = -1 ∧ ∀ n, n < l.length → (l.getD n 0 == c) = false) ∨ ∃ n : Nat, n < l.length ∧ Lib.indexByte l c = n ∧ (l.getD n 0 == c) = true ∧ ∀ m, m < n → (l.getD m 0 == c) = false
  | [] => .inl ⟨rfl, fun n h => absurd h (Nat.not_lt_zero _)⟩
  | b :: l => by
    unfold Lib.indexByte
    cases hb : b == c with
    | true => exact .inr ⟨0, by simp, by simp, by simpa using hb, fun m h => absurd h (Nat.not_lt_zero _)⟩
    | false =>
      rcases idx_spec c l with ⟨e, h⟩ | ⟨n, h0, e, h1, h2⟩
      · refine .inl ⟨by simp [e], fun n hn => ?_⟩
        cases n with
        | zero => simpa using hb
        | succ n => simpa using h n (by simpa using hn)
      · refine .inr ⟨n + 1, by simpa using h0, ?_, by simpa using h1, fun m hm => ?_⟩
        · rw [e, if_neg (by simp), if_neg (by simp)]
          omega
        · cases m with
          | zero => simpa using hb
          | succ m => simpa using h2 m (by omega)
theorem least_idx {h l : List UInt8} (hl : 0 < l.length) : IsLeastA (atS h l) (Lib.indexByte (h ++ l) 49) := by
  rcases idx_spec 49 (h ++ l) with ⟨e, k⟩ | ⟨n, h0, e, h1, h2⟩
  · refine .inl ⟨e, fun n => ?_⟩
    obtain ⟨m, _, hm, q⟩ := at_back (h := h) hl n
    unfold inS
    rw [q, at_app hm]
    exact k m (by rw [List.length_append]; exact hm)
  · rw [List.length_append] at h0
    refine .inr ⟨n, e, ?_, fun m hm => ?_⟩
    · unfold inS
      rw [at_app h0]
      exact h1
    · unfold inS
      rw [at_app (by omega)]
      exact h2 m hm

/-- The last place among the first k that has the byte of a number that is in. -/
def lastI (h : List UInt8) : Nat → Int
  | 0 => -1
  | k + 1 => if h.getD k 0 == 49 then (k : Int) else lastI h k
theorem last_spec (h : List UInt8) : ∀ k, (lastI h k = -1 ∧ ∀ n, n < k → (h.getD n 0 == 49) = false) ∨ ∃ n : Nat, n < k ∧ lastI h k = n ∧ (h.getD n 0 == 49) = true ∧ ∀ m, n < m → m < k → (h.getD m 0 == 49) = false
  | 0 => .inl ⟨rfl, fun n h => absurd h (Nat.not_lt_zero _)⟩
  | k + 1 => by
    unfold lastI
    cases hb : h.getD k 0 == 49 with
    | true => exact .inr ⟨k, by omega, by simp, hb, fun m h1 h2 => by omega⟩
    | false =>
      rw [if_neg (by simp)]
      rcases last_spec h k with ⟨e, q⟩ | ⟨n, h0, e, h1, h2⟩
      · refine .inl ⟨e, fun n hn => ?_⟩
        by_cases hnk : n = k
        · rw [hnk]; exact hb
        · exact q n (by omega)
      · refine .inr ⟨n, by omega, e, h1, fun m q1 q2 => ?_⟩
        by_cases hmk : m = k
        · rw [hmk]; exact hb
        · exact h2 m q1 (by omega)
def mostI (h l : List UInt8) : Int := if l.count 49 = 0 then lastI h h.length else -2
theorem most_is {h l : List UInt8} (hl : 0 < l.length) : IsMostA (atS h l) (mostI h l) := by
  unfold mostI
  split
  · rename_i hc
    have hz : ∀ n, h.length ≤ n → inS (atS h l) n = false := fun n hn => by
      unfold inS atS
      rw [if_neg (by omega)]
      have hm := Nat.mod_lt (n - h.length) hl
      rw [List.getD_eq_getElem?_getD, List.getElem?_eq_getElem hm, Option.getD_some]
      have := List.count_eq_zero.1 hc
      rw [beq_eq_false_iff_ne]
      intro e
      exact this (e ▸ List.getElem_mem hm)
    have hh : ∀ n, n < h.length → inS (atS h l) n = (h.getD n 0 == 49) := fun n hn => by
      unfold inS atS
      rw [if_pos hn]
    rcases last_spec h h.length with ⟨e, q⟩ | ⟨n, h0, e, h1, h2⟩
    · refine .inl ⟨e, fun n => ?_⟩
      by_cases hn : n < h.length
      · rw [hh n hn]; exact q n hn
      · exact hz n (by omega)
    · refine .inr (.inr ⟨n, e, by rw [hh n h0]; exact h1, fun m hm => ?_⟩)
      by_cases hn : m < h.length
      · rw [hh m hn]; exact h2 m hm hn
      · exact hz m (by omega)
  · rename_i hc
    obtain ⟨i, hi, e⟩ := List.getElem_of_mem (List.count_pos_iff.1 (Nat.pos_of_ne_zero hc))
    refine most_loop hl (per_at h l) (i := h.length + i) (by omega) ?_
    unfold inS atS
    rw [if_neg (by omega), Nat.add_sub_cancel_left, Nat.mod_eq_of_lt hi, List.getD_eq_getElem?_getD, List.getElem?_eq_getElem hi, Option.getD_some, e]
    rfl

/-- The answers for all arguments. -/
def leR (h l : List UInt8) : Int := if svS h l then Lib.indexByte (h ++ l) 49 else -1
def gtR (h l : List UInt8) : Int := if svS h l then mostI h l else -3
def cbR (h l : List UInt8) (n : Int) : Int := if svS h l && decide (0 ≤ n) && decide (n ≤ 1000000) then (cntA (atS h l) n.toNat : Nat) else -1
end Go.Proofs.YtpheihejgnlanaaDoor
