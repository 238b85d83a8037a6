/- Sets of numbers as words: a head and a loop; normal forms: there is one. Over core Lean alone. -/
import Derived.Test.YtkhnninnmpffmaaDoorBaseA
namespace Go.Proofs.YtkhnninnmpffmaaDoor
/-- The byte of a set at a number: of the head, then of the loop again and again. -/
def atS (h l : List UInt8) (n : Nat) : UInt8 := if n < h.length then h.getD n 0 else l.getD ((n - h.length) % l.length) 0
/-- From a number on, a sequence repeats after a step. -/
def PerS (a : Nat → UInt8) (N d : Nat) : Prop := ∀ n, N ≤ n → a (n + d) = a n
def MinS (a : Nat → UInt8) (p : Nat) : Prop := ∀ d, 0 < d → d < p → d ∣ p → ¬ ∃ M, PerS a M d
/-- A normal form. -/
def NFS (h l : List UInt8) : Prop := l ≠ [] ∧ MinS (atS h l) l.length ∧ (h = [] ∨ h.getLast? ≠ l.getLast?)

theorem per_at (h l : List UInt8) : PerS (atS h l) h.length l.length := by
  intro n hn
  unfold atS
  rw [if_neg (by omega), if_neg (by omega), show n + l.length - h.length = (n - h.length) + l.length by omega, Nat.add_mod_right]
theorem per_mul {a : Nat → UInt8} {N d : Nat} (h : PerS a N d) : ∀ k n, N ≤ n → a (n + k * d) = a n := by
  intro k
  induction k with
  | zero => intro n _; rw [Nat.zero_mul, Nat.add_zero]
  | succ k ih =>
    intro n hn
    rw [Nat.succ_mul, ← Nat.add_assoc, h _ (by omega), ih n hn]
/-- A step that repeats from some number on repeats from where a period does. -/
theorem per_down {a : Nat → UInt8} {N M p d : Nat} (hp0 : 0 < p) (hp : PerS a N p) (hd : PerS a M d) : PerS a N d := by
  intro n hn
  have h1 := per_mul hp M n hn
  have h2 := per_mul hp M (n + d) (by omega)
  have hM : M ≤ n + M * p := by
    have := Nat.mul_le_mul_left M hp0
    omega
  rw [← h1, ← h2, show n + d + M * p = n + M * p + d by omega]
  exact hd _ hM
/-- Two periods have their greatest common divisor as one. -/
theorem per_gcd {a : Nat → UInt8} {N p q : Nat} (hp0 : 0 < p) (hp : PerS a N p) (hq : PerS a N q) : PerS a N (Nat.gcd p q) := by
  induction p, q using Nat.gcd.induction with
  | H0 q => simpa using hq
  | H1 m n hm ih =>
    rw [Nat.gcd_rec]
    by_cases h0 : n % m = 0
    · rw [h0, Nat.gcd_zero_left]; exact hp
    · refine ih (by omega) ?_ hp
      intro k hk
      have h1 := per_mul hp (n / m) (k + n % m) (by omega)
      rw [← h1, show k + n % m + n / m * m = k + n by
        have := Nat.mod_add_div n m
        rw [Nat.mul_comm] at this
        omega]
      exact hq k hk

theorem list_eq_of {x y : List UInt8} (hl : x.length = y.length) (h : ∀ i, i < x.length → x.getD i 0 = y.getD i 0) : x = y := by
  apply List.ext_getElem hl
  intro i h1 h2
  have := h i h1
  simpa [List.getD_eq_getElem?_getD, List.getElem?_eq_getElem h1, List.getElem?_eq_getElem h2] using this
theorem at_head {h l : List UInt8} {n : Nat} (hn : n < h.length) : atS h l n = h.getD n 0 := by unfold atS; rw [if_pos hn]
theorem at_loop {h l : List UInt8} {i : Nat} (hi : i < l.length) : atS h l (h.length + i) = l.getD i 0 := by
  unfold atS
  rw [if_neg (by omega), Nat.add_sub_cancel_left, Nat.mod_eq_of_lt hi]
theorem last_getD {x : List UInt8} (h : x ≠ []) : x.getLast? = some (x.getD (x.length - 1) 0) := by
  have hl : 0 < x.length := List.length_pos_iff.2 h
  rw [List.getLast?_eq_getElem?, List.getD_eq_getElem?_getD, List.getElem?_eq_getElem (show x.length - 1 < x.length by omega)]
  rfl

theorem nf_len {h l h' l' : List UInt8} (n1 : NFS h l) (n2 : NFS h' l') (e : ∀ n, atS h l n = atS h' l' n) : l.length = l'.length := by
  have p1 : 0 < l.length := List.length_pos_iff.2 n1.1
  have p2 : 0 < l'.length := List.length_pos_iff.2 n2.1
  have hp1 := per_at h l
  have hp2 : PerS (atS h l) h'.length l'.length := fun n hn => by rw [e, e]; exact per_at h' l' n hn
  let N := max h.length h'.length
  have g : PerS (atS h l) N (Nat.gcd l.length l'.length) := per_gcd p1 (fun n hn => hp1 n (by omega)) (fun n hn => hp2 n (by omega))
  have g0 : 0 < Nat.gcd l.length l'.length := Nat.gcd_pos_of_pos_left _ p1
  have e1 : Nat.gcd l.length l'.length = l.length := by
    rcases Nat.lt_or_ge (Nat.gcd l.length l'.length) l.length with h1 | h1
    · exact absurd ⟨N, g⟩ (n1.2.1 _ g0 h1 (Nat.gcd_dvd_left _ _))
    · exact Nat.le_antisymm (Nat.gcd_le_left _ p1) h1
  have e2 : Nat.gcd l.length l'.length = l'.length := by
    rcases Nat.lt_or_ge (Nat.gcd l.length l'.length) l'.length with h1 | h1
    · exact absurd ⟨N, fun n hn => by rw [← e, ← e]; exact g n hn⟩ (n2.2.1 _ g0 h1 (Nat.gcd_dvd_right _ _))
    · exact Nat.le_antisymm (Nat.gcd_le_right _ p2) h1
  rw [← e1, e2]

theorem nf_head {h l h' l' : List UInt8} (n1 : NFS h l) (n2 : NFS h' l') (e : ∀ n, atS h l n = atS h' l' n) : h'.length ≤ h.length := by
  rcases Nat.lt_or_ge h.length h'.length with hlt | hge
  · exfalso
    have hl := nf_len n1 n2 e
    have p2 : 0 < l'.length := List.length_pos_iff.2 n2.1
    have hne : h' ≠ [] := fun e0 => by rw [e0] at hlt; simp at hlt
    rcases n2.2.2 with h0 | h0
    · exact hne h0
    · apply h0
      rw [last_getD hne, last_getD n2.1]
      congr 1
      rw [← at_head (l := l') (show h'.length - 1 < h'.length by omega), ← at_loop (h := h') (show l'.length - 1 < l'.length by omega), ← e, ← e]
      have := per_at h l (h'.length - 1) (by omega)
      rw [← this]
      congr 1
      omega
  · exact hge
/-- There is one normal form. -/
theorem nf_one {h l h' l' : List UInt8} (n1 : NFS h l) (n2 : NFS h' l') (e : ∀ n, atS h l n = atS h' l' n) : h = h' ∧ l = l' := by
  have hl := nf_len n1 n2 e
  have hh : h.length = h'.length := Nat.le_antisymm (nf_head n2 n1 fun n => (e n).symm) (nf_head n1 n2 e)
  refine ⟨list_eq_of hh fun i hi => ?_, list_eq_of hl fun i hi => ?_⟩
  · rw [← at_head (l := l) hi, e, at_head (by omega)]
  · rw [← at_loop (h := h) hi, e, hh, at_loop (by omega)]

/-- Shorter by one: the head's last byte is the loop's. -/
theorem at_turn (h m : List UInt8) (x : UInt8) (n : Nat) : atS (h ++ [x]) (m ++ [x]) n = atS h (x :: m) n := by
  unfold atS
  simp only [List.length_append, List.length_cons, List.length_nil, Nat.zero_add]
  by_cases h1 : n < h.length
  · rw [if_pos (by omega), if_pos h1, List.getD_eq_getElem?_getD, List.getD_eq_getElem?_getD, List.getElem?_append_left h1]
  · by_cases h2 : n = h.length
    · subst h2
      rw [if_pos (by omega), if_neg (by omega)]
      simp
    · rw [if_neg (by omega), if_neg h1]
      obtain ⟨k, rfl⟩ : ∃ k, n = h.length + 1 + k := ⟨n - h.length - 1, by omega⟩
      rw [show h.length + 1 + k - (h.length + 1) = k by omega, show h.length + 1 + k - h.length = k + 1 by omega]
      have hk := Nat.mod_lt k (show 0 < m.length + 1 by omega)
      rw [Nat.add_mod k 1]
      by_cases h3 : k % (m.length + 1) = m.length
      · rw [h3]
        rcases Nat.eq_zero_or_pos m.length with h0 | h0
        · have : m = [] := List.length_eq_zero_iff.1 h0
          subst this
          simp
        · rw [Nat.mod_eq_of_lt (show 1 < m.length + 1 by omega), Nat.mod_self]
          simp
      · have h0 : 0 < m.length := by omega
        rw [Nat.mod_eq_of_lt (show 1 < m.length + 1 by omega), Nat.mod_eq_of_lt (show k % (m.length + 1) + 1 < m.length + 1 by omega)]
        rw [List.getD_eq_getElem?_getD, List.getD_eq_getElem?_getD, List.getElem?_append_left (by omega), List.getElem?_cons_succ]

/-- What a repetition is. -/
theorem rep_per {h l : List UInt8} {d : Nat} (hd : d ∣ l.length) (hr : l.drop d = l.take (l.length - d)) : PerS (atS h l) h.length d := by
  intro n hn
  unfold atS
  rw [if_neg (by omega), if_neg (by omega), show n + d - h.length = (n - h.length) + d by omega]
  generalize n - h.length = k
  rcases Nat.eq_zero_or_pos l.length with h0 | h0
  · have : l = [] := List.length_eq_zero_iff.1 h0
    subst this
    simp
  · have hk := Nat.mod_lt k h0
    obtain ⟨c, hc⟩ := hd
    have hgen : ∀ i, i + d < l.length → l.getD (i + d) 0 = l.getD i 0 := by
      intro i hi
      have h1 : (l.drop d)[i]? = (l.take (l.length - d))[i]? := by rw [hr]
      rw [List.getElem?_drop, List.getElem?_take_of_lt (by omega)] at h1
      rw [List.getD_eq_getElem?_getD, List.getD_eq_getElem?_getD, Nat.add_comm i d, h1]
    rcases Nat.eq_zero_or_pos d with hd0 | hd0
    · subst hd0; simp
    · have hdl : d ≤ l.length := Nat.le_of_dvd h0 ⟨c, hc⟩
      rw [Nat.add_mod]
      rcases Nat.lt_or_ge d l.length with hlt | hge
      · rw [Nat.mod_eq_of_lt hlt]
        rcases Nat.lt_or_ge (k % l.length + d) l.length with h1 | h1
        · rw [Nat.mod_eq_of_lt h1]
          exact hgen _ h1
        · rw [show (k % l.length + d) % l.length = k % l.length + d - l.length by
            rw [Nat.mod_eq_sub_mod h1, Nat.mod_eq_of_lt (by omega)]]
          -- go down by steps
          have hdown : ∀ j i, i + j * d < l.length → l.getD (i + j * d) 0 = l.getD i 0 := by
            intro j
            induction j with
            | zero => intro i _; simp
            | succ j ih =>
              intro i hi
              rw [Nat.succ_mul, ← Nat.add_assoc] at hi ⊢
              rw [hgen _ hi]
              exact ih i (by omega)
          obtain ⟨r, hr2⟩ : ∃ r, k % l.length + d = l.length + r := ⟨k % l.length + d - l.length, by omega⟩
          have hc1 : 1 ≤ c := by
            rcases Nat.eq_zero_or_pos c with h | h
            · rw [h, Nat.mul_zero] at hc; omega
            · exact h
          have e1 : k % l.length = r + (c - 1) * d := by
            have : d * c = (c - 1) * d + d := by
              rw [Nat.mul_comm, ← Nat.succ_mul]
              congr 1
              omega
            omega
          rw [show k % l.length + d - l.length = r by omega, e1, hdown _ _ (by omega)]
      · have : d = l.length := by omega
        subst this
        rw [Nat.mod_self, Nat.add_zero, Nat.mod_mod]

theorem rep_step {l : List UInt8} {d : Nat} (hr : l.drop d = l.take (l.length - d)) : ∀ i, i + d < l.length → l.getD (i + d) 0 = l.getD i 0 := by
  intro i hi
  have h1 : (l.drop d)[i]? = (l.take (l.length - d))[i]? := by rw [hr]
  rw [List.getElem?_drop, List.getElem?_take_of_lt (by omega)] at h1
  rw [List.getD_eq_getElem?_getD, List.getD_eq_getElem?_getD, Nat.add_comm i d, h1]
theorem rep_mod {l : List UInt8} {d : Nat} (hr : l.drop d = l.take (l.length - d)) (hd0 : 0 < d) : ∀ j i, i + j * d < l.length → l.getD (i + j * d) 0 = l.getD i 0 := by
  intro j
  induction j with
  | zero => intro i _; simp
  | succ j ih =>
    intro i hi
    rw [Nat.succ_mul, ← Nat.add_assoc] at hi ⊢
    rw [rep_step hr _ hi]
    exact ih i (by omega)
/-- A repetition has the same numbers as its first part. -/
theorem rep_at {h l : List UInt8} {d : Nat} (hd0 : 0 < d) (hd : d ∣ l.length) (hr : l.drop d = l.take (l.length - d)) (n : Nat) : atS h (l.take d) n = atS h l n := by
  unfold atS
  by_cases h1 : n < h.length
  · rw [if_pos h1, if_pos h1]
  · rw [if_neg h1, if_neg h1]
    generalize n - h.length = k
    rcases Nat.eq_zero_or_pos l.length with h0 | h0
    · have : l = [] := List.length_eq_zero_iff.1 h0
      subst this
      simp
    · have hdl : d ≤ l.length := Nat.le_of_dvd h0 hd
      have hk := Nat.mod_lt k hd0
      have hkl := Nat.mod_lt k h0
      rw [List.length_take, Nat.min_eq_left hdl, List.getD_eq_getElem?_getD, List.getElem?_take_of_lt hk, ← List.getD_eq_getElem?_getD]
      have e : k % l.length % d = k % d := Nat.mod_mod_of_dvd k hd
      have h2 := Nat.mod_add_div (k % l.length) d
      rw [e, Nat.mul_comm] at h2
      have := rep_mod hr hd0 (k % l.length / d) (k % d) (by omega)
      rw [h2] at this
      exact this.symm
theorem per_rep {h l : List UInt8} {d : Nat} (hp : PerS (atS h l) h.length d) : l.drop d = l.take (l.length - d) := by
  apply List.ext_getElem?
  intro i
  rcases Nat.lt_or_ge i (l.length - d) with h1 | h1
  · rw [List.getElem?_drop, List.getElem?_take_of_lt h1]
    have := hp (h.length + i) (by omega)
    rw [Nat.add_assoc, at_loop (by omega), at_loop (by omega), List.getD_eq_getElem?_getD, List.getD_eq_getElem?_getD, List.getElem?_eq_getElem (show i + d < l.length by omega), List.getElem?_eq_getElem (show i < l.length by omega)] at this
    rw [Nat.add_comm, List.getElem?_eq_getElem (show i + d < l.length by omega), List.getElem?_eq_getElem (show i < l.length by omega)]
    simpa using this
  · rw [List.getElem?_eq_none (by simp; omega), List.getElem?_eq_none (by simp; omega)]
/-- The least repetition. -/
theorem least_min {h l : List UInt8} {d : Nat} (hd0 : 0 < d) (hd : d ∣ l.length) (hl0 : 0 < l.length) (hr : l.drop d = l.take (l.length - d))
    (hmin : ∀ e, 0 < e → e < d → ¬ (e ∣ l.length ∧ l.drop e = l.take (l.length - e))) : MinS (atS h (l.take d)) d := by
  intro e e0 e1 e2 ⟨M, hM⟩
  have hf : atS h (l.take d) = atS h l := funext (rep_at hd0 hd hr)
  rw [hf] at hM
  have hp := per_down hl0 (per_at h l) hM
  exact hmin e e0 e1 ⟨Nat.dvd_trans e2 hd, per_rep hp⟩
theorem at_turn' (h m : List UInt8) (x : UInt8) : atS (h ++ [x]) (m ++ [x]) = atS h (x :: m) := funext (at_turn h m x)

/-- Each set has a normal form; it is not longer, and has the same bytes. -/
theorem nf_turn : ∀ (k : Nat) (h l : List UInt8), h.length = k → l ≠ [] → MinS (atS h l) l.length →
    ∃ H L, NFS H L ∧ (∀ n, atS H L n = atS h l n) ∧ H.length ≤ h.length ∧ L.length = l.length ∧ (∀ x ∈ H, x ∈ h) ∧ (∀ x ∈ L, x ∈ l) := by
  intro k
  induction k with
  | zero =>
    intro h l hk hl hm
    have : h = [] := List.length_eq_zero_iff.1 hk
    exact ⟨h, l, ⟨hl, hm, .inl this⟩, fun _ => rfl, Nat.le_refl _, rfl, fun _ hx => hx, fun _ hx => hx⟩
  | succ k ih =>
    intro h l hk hl hm
    by_cases e : h.getLast? = l.getLast?
    · obtain ⟨h0, x, rfl⟩ : ∃ h0 x, h = h0 ++ [x] := ⟨h.dropLast, h.getLast (by intro e0; rw [e0] at hk; simp at hk), (List.dropLast_concat_getLast _).symm⟩
      obtain ⟨m, y, rfl⟩ : ∃ m y, l = m ++ [y] := ⟨l.dropLast, l.getLast hl, (List.dropLast_concat_getLast _).symm⟩
      rw [List.getLast?_concat, List.getLast?_concat] at e
      obtain rfl := Option.some.inj e
      rw [at_turn'] at hm
      obtain ⟨H, L, h1, h2, h3, h4, h5, h6⟩ := ih h0 (x :: m) (by simpa using hk) (by simp) (by simpa using hm)
      refine ⟨H, L, h1, fun n => by rw [h2, at_turn], by simp; omega, by simpa using h4, fun z hz => by simp [h5 z hz], fun z hz => ?_⟩
      have := h6 z hz
      simp only [List.mem_cons] at this
      simp only [List.mem_append, List.mem_singleton]
      exact this.symm
    · exact ⟨h, l, ⟨hl, hm, .inr e⟩, fun _ => rfl, Nat.le_refl _, rfl, fun _ hx => hx, fun _ hx => hx⟩
theorem least_ex (l : List UInt8) (hl : l ≠ []) : ∃ d, 0 < d ∧ d ∣ l.length ∧ l.drop d = l.take (l.length - d) ∧ ∀ e, 0 < e → e < d → ¬ (e ∣ l.length ∧ l.drop e = l.take (l.length - e)) := by
  have hl0 : 0 < l.length := List.length_pos_iff.2 hl
  have hex : ∃ d, 0 < d ∧ d ∣ l.length ∧ l.drop d = l.take (l.length - d) := ⟨l.length, hl0, Nat.dvd_refl _, by simp⟩
  suffices H : ∀ k, (∃ d, d ≤ k ∧ 0 < d ∧ d ∣ l.length ∧ l.drop d = l.take (l.length - d)) → ∃ d, 0 < d ∧ d ∣ l.length ∧ l.drop d = l.take (l.length - d) ∧ ∀ e, 0 < e → e < d → ¬ (e ∣ l.length ∧ l.drop e = l.take (l.length - e)) by
    obtain ⟨d, h⟩ := hex
    exact H d ⟨d, Nat.le_refl _, h⟩
  intro k
  induction k with
  | zero => rintro ⟨d, h0, h1, _⟩; omega
  | succ k ih =>
    rintro ⟨d, h0, h1, h2, h3⟩
    by_cases e : ∃ d', d' ≤ k ∧ 0 < d' ∧ d' ∣ l.length ∧ l.drop d' = l.take (l.length - d')
    · exact ih e
    · exact ⟨d, h1, h2, h3, fun d' e0 e1 e2 => e ⟨d', by omega, e0, e2.1, e2.2⟩⟩
theorem nf_ex (h l : List UInt8) (hl : l ≠ []) : ∃ H L, NFS H L ∧ (∀ n, atS H L n = atS h l n) ∧ H.length ≤ h.length ∧ L.length ≤ l.length ∧ (∀ x ∈ H, x ∈ h) ∧ (∀ x ∈ L, x ∈ l) := by
  have hl0 : 0 < l.length := List.length_pos_iff.2 hl
  obtain ⟨d, d0, d1, d2, d3⟩ := least_ex l hl
  have hdl : d ≤ l.length := Nat.le_of_dvd hl0 d1
  have hlen : (l.take d).length = d := by rw [List.length_take]; omega
  obtain ⟨H, L, h1, h2, h3, h4, h5, h6⟩ := nf_turn h.length h (l.take d) rfl (by intro e; rw [e] at hlen; simp at hlen; omega) (by rw [hlen]; exact least_min d0 d1 hl0 d2 d3)
  exact ⟨H, L, h1, fun n => by rw [h2, rep_at d0 d1 d2], h3, by omega, h5, fun x hx => List.mem_of_mem_take (h6 x hx)⟩
end Go.Proofs.YtkhnninnmpffmaaDoor
