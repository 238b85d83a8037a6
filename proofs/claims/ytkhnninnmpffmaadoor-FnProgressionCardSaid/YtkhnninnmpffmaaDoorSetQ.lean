/- How the program shortens a set: windows tell a step that repeats, a loop of which no part repeats is least, and the loop begins with the head's last bytes. Over core Lean alone. -/
import Derived.Test.YtkhnninnmpffmaaDoorSetP
namespace Go.Proofs.YtkhnninnmpffmaaDoor
/-- What repeats over one loop repeats for ever. -/
theorem per_of_win {h l : List UInt8} {d : Nat} (hl : l ≠ []) (hw : ∀ i, i < l.length → atS h l (h.length + i) = atS h l (h.length + i + d)) : PerS (atS h l) h.length d := by
  have hl0 : 0 < l.length := List.length_pos_iff.2 hl
  intro n hn
  have hm := Nat.mod_lt (n - h.length) hl0
  have hd := Nat.mod_add_div (n - h.length) l.length
  have e1 := per_mul (per_at h l) ((n - h.length) / l.length) (h.length + (n - h.length) % l.length) (by omega)
  have e2 := per_mul (per_at h l) ((n - h.length) / l.length) (h.length + (n - h.length) % l.length + d) (by omega)
  rw [Nat.mul_comm] at hd
  rw [show h.length + (n - h.length) % l.length + (n - h.length) / l.length * l.length = n by omega] at e1
  rw [show h.length + (n - h.length) % l.length + d + (n - h.length) / l.length * l.length = n + d by omega] at e2
  rw [e1, e2]
  exact (hw _ hm).symm
/-- For bits, to be in a set is all that matters. -/
theorem in_eq {a : Nat → UInt8} (h : ∀ n, a n = 48 ∨ a n = 49) {i j : Nat} (e : inS a i = inS a j) : a i = a j := by
  unfold inS at e
  rcases h i with hi | hi <;> rcases h j with hj | hj <;> rw [hi, hj] at e ⊢ <;> simp at e
/-- A loop that is no repetition is least. -/
theorem min_exit {h l : List UInt8} (hl : l ≠ []) (hx : ∀ t, 2 ≤ t → t ≤ l.length → ¬ (l.length / t * t = l.length ∧ PerS (atS h l) h.length (l.length / t))) : MinS (atS h l) l.length := by
  have hl0 : 0 < l.length := List.length_pos_iff.2 hl
  intro d d0 d1 ⟨c, hc⟩ ⟨M, hM⟩
  have hp := per_down hl0 (per_at h l) hM
  have hc2 : 2 ≤ c := by
    rcases Nat.lt_or_ge c 2 with h2 | h2
    · have : c = 0 ∨ c = 1 := by omega
      rcases this with rfl | rfl
      · rw [Nat.mul_zero] at hc; omega
      · rw [Nat.mul_one] at hc; omega
    · exact h2
  have hcl : c ≤ l.length := by
    rw [hc]
    have := Nat.mul_le_mul_right c d0
    omega
  have e : l.length / c = d := by rw [hc, Nat.mul_div_cancel _ (by omega)]
  refine hx c hc2 hcl ⟨?_, ?_⟩
  · rw [e, hc]
  · rw [e]
    exact hp
/-- A step that repeats shortens the loop. -/
theorem red_step {h l : List UInt8} {d : Nat} (d0 : 0 < d) (hd : d ∣ l.length) (hp : PerS (atS h l) h.length d) : ∀ n, atS h (l.take d) n = atS h l n :=
  rep_at d0 hd (per_rep hp)

/-- The head and the loop that begin at a place. -/
def stH (h m : List UInt8) (s : Nat) : List UInt8 := (h ++ m).take s
def stL (h m : List UInt8) (s : Nat) : List UInt8 := ((h ++ m).drop s).take m.length
theorem st_all (h m : List UInt8) : stH h m h.length = h ∧ stL h m h.length = m := by
  unfold stH stL
  constructor
  · simp
  · simp
theorem stL_len {h m : List UInt8} {s : Nat} (hs : s ≤ h.length) : (stL h m s).length = m.length := by
  unfold stL
  rw [List.length_take, List.length_drop, List.length_append]
  omega
theorem stH_len {h m : List UInt8} {s : Nat} (hs : s ≤ h.length) : (stH h m s).length = s := by
  unfold stH
  rw [List.length_take, List.length_append]
  omega
theorem stH_succ {h m : List UInt8} {s : Nat} {x : UInt8} (hx : (h ++ m)[s]? = some x) : stH h m (s + 1) = stH h m s ++ [x] := by
  unfold stH
  rw [List.take_add_one, hx]
  rfl
theorem stL_succ {h m : List UInt8} {s : Nat} {y : UInt8} (hm : m ≠ []) (hy : (h ++ m)[s + m.length]? = some y) :
    ∃ M, stL h m (s + 1) = M ++ [y] ∧ ∀ x, (h ++ m)[s]? = some x → stL h m s = x :: M := by
  have hl0 : 0 < m.length := List.length_pos_iff.2 hm
  obtain ⟨k, hk⟩ : ∃ k, m.length = k + 1 := ⟨m.length - 1, by omega⟩
  refine ⟨((h ++ m).drop (s + 1)).take k, ?_, ?_⟩
  · unfold stL
    rw [hk, List.take_add_one, List.getElem?_drop, show s + 1 + k = s + m.length by omega, hy]
    rfl
  · intro x hx
    unfold stL
    have hs := List.getElem?_eq_some_iff.1 hx
    rw [hk, List.drop_eq_getElem_cons hs.1, hs.2]
    rfl
theorem st_step {h m : List UInt8} {s : Nat} {x : UInt8} (hm : m ≠ []) (hx : (h ++ m)[s]? = some x) (hy : (h ++ m)[s + m.length]? = some x) : ∀ n, atS (stH h m (s + 1)) (stL h m (s + 1)) n = atS (stH h m s) (stL h m s) n := by
  obtain ⟨M, e1, e2⟩ := stL_succ hm hy
  intro n
  rw [stH_succ hx, e1, e2 x hx]
  exact at_turn _ _ _ _
/-- Where the head's last byte is not the loop's, the form is normal. -/
theorem st_exit {h m : List UInt8} {s : Nat} (hm : m ≠ []) (hs : s ≤ h.length) (hmin : MinS (atS (stH h m s) (stL h m s)) m.length)
    (hx : s = 0 ∨ ∃ t x y, s = t + 1 ∧ (h ++ m)[t]? = some x ∧ (h ++ m)[t + m.length]? = some y ∧ x ≠ y) : NFS (stH h m s) (stL h m s) := by
  have hlen := stL_len (m := m) hs
  have hl0 : 0 < m.length := List.length_pos_iff.2 hm
  refine ⟨fun e => by rw [e] at hlen; simp at hlen; omega, by rw [hlen]; exact hmin, ?_⟩
  rcases hx with rfl | ⟨t, x, y, rfl, h1, h2, hne⟩
  · left
    unfold stH
    simp
  · right
    obtain ⟨M, e1, _⟩ := stL_succ hm h2
    rw [stH_succ h1, e1, List.getLast?_concat, List.getLast?_concat]
    intro e
    exact hne (Option.some.inj e)
/-- From the whole set to its shortest form, step by step. -/
theorem st_norm {h l m : List UInt8} {s : Nat} (hl : l ≠ []) (hm : m ≠ []) (hs : s ≤ h.length) (hmin : MinS (atS h l) m.length) (e : ∀ n, atS (stH h m s) (stL h m s) n = atS h l n)
    (hx : s = 0 ∨ ∃ t x y, s = t + 1 ∧ (h ++ m)[t]? = some x ∧ (h ++ m)[t + m.length]? = some y ∧ x ≠ y) : nfS h l = (stH h m s, stL h m s) := by
  have hf : atS (stH h m s) (stL h m s) = atS h l := funext e
  exact nfS_one hl (st_exit hm hs (by rw [hf]; exact hmin) hx) e

/-- What the functions that ask a set for its first numbers make. -/
theorem raw_take {f : Nat → Bool} {b : List UInt8} {N p : Nat} (hb : b.length = N + p) (h : ∀ n, n < N + p → b.getD n 0 = bitS (f n)) :
    b.take N = rawH (fun n => bitS (f n)) N ∧ b.drop N = rawL (fun n => bitS (f n)) N p := by
  constructor
  · refine list_eq_of (by simp [rawH]; omega) fun i hi => ?_
    have hiN : i < N := by rw [List.length_take] at hi; omega
    rw [List.getD_eq_getElem?_getD, List.getElem?_take_of_lt hiN, ← List.getD_eq_getElem?_getD, h i (by omega)]
    unfold rawH
    rw [List.getD_eq_getElem?_getD, List.getElem?_map, List.getElem?_range hiN]
    rfl
  · refine list_eq_of (by simp [rawL]; omega) fun i hi => ?_
    have hiN : i < p := by rw [List.length_drop] at hi; omega
    rw [List.getD_eq_getElem?_getD, List.getElem?_drop, ← List.getD_eq_getElem?_getD, h (N + i) (by omega)]
    unfold rawL
    rw [List.getD_eq_getElem?_getD, List.getElem?_map, List.getElem?_range hiN]
    rfl
theorem raw_bits {f : Nat → Bool} {N p : Nat} : (∀ x ∈ rawH (fun n => bitS (f n)) N, x = 48 ∨ x = 49) ∧ (∀ x ∈ rawL (fun n => bitS (f n)) N p, x = 48 ∨ x = 49) := by
  constructor
  · intro x hx
    unfold rawH at hx
    rw [List.mem_map] at hx
    obtain ⟨n, _, rfl⟩ := hx
    exact bits_bit (f := f) n
  · intro x hx
    unfold rawL at hx
    rw [List.mem_map] at hx
    obtain ⟨n, _, rfl⟩ := hx
    exact bits_bit (f := f) (N + n)
end Go.Proofs.YtkhnninnmpffmaaDoor
