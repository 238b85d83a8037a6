/- Several texts in one: SetM SetN SetO SetP SetQ SetR. -/
import Derived.Test.YtjgmoledhkikcaaDoorBas

/- Sets of numbers as words: a head and a loop; normal forms: there is one. Over core Lean alone. -/
namespace Go.Proofs.YtjgmoledhkikcaaDoor
/-- The byte of a set at a number: of the head, then of the loop again and again. -/
def atS (h l : List UInt8) (n : Nat) : UInt8 := if n < h.length then h.getD n 0 else l.getD ((n - h.length) % l.length) 0
/-- From a number on, a sequence repeats after a step. -/
def PerS (a : Nat → UInt8) (N d : Nat) : Prop := ∀ n, N ≤ n → a (n + d) = a n
def MinS (a : Nat → UInt8) (p : Nat) : Prop := ∀ d, 0 < d → d < p → d ∣ p → ¬ ∃ M, PerS a M d
/-- A normal form. -/
def NFS (h l : List UInt8) : Prop := l ≠ [] ∧ MinS (atS h l) l.length ∧ (h = [] ∨ h.getLast? ≠ l.getLast?)

theorem per_at (h l : List UInt8) : PerS (atS h l) h.length l.length := by
  intro n hn
  unfold atS
  rw [if_neg (by omega), if_neg (by omega), show n + l.length - h.length = (n - h.length) + l.length by omega, Nat.add_mod_right]
theorem per_mul {a : Nat → UInt8} {N d : Nat} (h : PerS a N d) : ∀ k n, N ≤ n → a (n + k * d) = a n := by
  intro k
  induction k with
  | zero => intro n _; rw [Nat.zero_mul, Nat.add_zero]
  | succ k ih =>
    intro n hn
    rw [Nat.succ_mul, ← Nat.add_assoc, h _ (by omega), ih n hn]
/-- A step that repeats from some number on repeats from where a period does. -/
theorem per_down {a : Nat → UInt8} {N M p d : Nat} (hp0 : 0 < p) (hp : PerS a N p) (hd : PerS a M d) : PerS a N d := by
  intro n hn
  have h1 := per_mul hp M n hn
  have h2 := per_mul hp M (n + d) (by omega)
  have hM : M ≤ n + M * p := by
    have := Nat.mul_le_mul_left M hp0
    omega
  rw [← h1, ← h2, show n + d + M * p = n + M * p + d by omega]
  exact hd _ hM
/-- Two periods have their greatest common divisor as one. -/
theorem per_gcd {a : Nat → UInt8} {N p q : Nat} (hp0 : 0 < p) (hp : PerS a N p) (hq : PerS a N q) : PerS a N (Nat.gcd p q) := by
  induction p, q using Nat.gcd.induction with
  | H0 q => simpa using hq
  | H1 m n hm ih =>
    rw [Nat.gcd_rec]
    by_cases h0 : n % m = 0
    · rw [h0, Nat.gcd_zero_left]; exact hp
    · refine ih (by omega) ?_ hp
      intro k hk
      have h1 := per_mul hp (n / m) (k + n % m) (by omega)
      rw [← h1, show k + n % m + n / m * m = k + n by
        have := Nat.mod_add_div n m
        rw [Nat.mul_comm] at this
        omega]
      exact hq k hk

theorem list_eq_of {x y : List UInt8} (hl : x.length = y.length) (h : ∀ i, i < x.length → x.getD i 0 = y.getD i 0) : x = y := by
  apply List.ext_getElem hl
  intro i h1 h2
  have := h i h1
  simpa [List.getD_eq_getElem?_getD, List.getElem?_eq_getElem h1, List.getElem?_eq_getElem h2] using this
theorem at_head {h l : List UInt8} {n : Nat} (hn : n < h.length) : atS h l n = h.getD n 0 := by unfold atS; rw [if_pos hn]
theorem at_loop {h l : List UInt8} {i : Nat} (hi : i < l.length) : atS h l (h.length + i) = l.getD i 0 := by
  unfold atS
  rw [if_neg (by omega), Nat.add_sub_cancel_left, Nat.mod_eq_of_lt hi]
theorem last_getD {x : List UInt8} (h : x ≠ []) : x.getLast? = some (x.getD (x.length - 1) 0) := by
  have hl : 0 < x.length := List.length_pos_iff.2 h
  rw [List.getLast?_eq_getElem?, List.getD_eq_getElem?_getD, List.getElem?_eq_getElem (show x.length - 1 < x.length by omega)]
  rfl

theorem nf_len {h l h' l' : List UInt8} (n1 : NFS h l) (n2 : NFS h' l') (e : ∀ n, atS h l n = atS h' l' n) : l.length = l'.length := by
  have p1 : 0 < l.length := List.length_pos_iff.2 n1.1
  have p2 : 0 < l'.length := List.length_pos_iff.2 n2.1
  have hp1 := per_at h l
  have hp2 : PerS (atS h l) h'.length l'.length := fun n hn => by rw [e, e]; exact per_at h' l' n hn
  let N := max h.length h'.length
  have g : PerS (atS h l) N (Nat.gcd l.length l'.length) := per_gcd p1 (fun n hn => hp1 n (by omega)) (fun n hn => hp2 n (by omega))
  have g0 : 0 < Nat.gcd l.length l'.length := Nat.gcd_pos_of_pos_left _ p1
  have e1 : Nat.gcd l.length l'.length = l.length := by
    rcases Nat.lt_or_ge (Nat.gcd l.length l'.length) l.length with h1 | h1
    · exact absurd ⟨N, g⟩ (n1.2.1 _ g0 h1 (Nat.gcd_dvd_left _ _))
    · exact Nat.le_antisymm (Nat.gcd_le_left _ p1) h1
  have e2 : Nat.gcd l.length l'.length = l'.length := by
    rcases Nat.lt_or_ge (Nat.gcd l.length l'.length) l'.length with h1 | h1
    · exact absurd ⟨N, fun n hn => by rw [← e, ← e]; exact g n hn⟩ (n2.2.1 _ g0 h1 (Nat.gcd_dvd_right _ _))
    · exact Nat.le_antisymm (Nat.gcd_le_right _ p2) h1
  rw [← e1, e2]

theorem nf_head {h l h' l' : List UInt8} (n1 : NFS h l) (n2 : NFS h' l') (e : ∀ n, atS h l n = atS h' l' n) : h'.length ≤ h.length := by
  rcases Nat.lt_or_ge h.length h'.length with hlt | hge
  · exfalso
    have hl := nf_len n1 n2 e
    have p2 : 0 < l'.length := List.length_pos_iff.2 n2.1
    have hne : h' ≠ [] := fun e0 => by rw [e0] at hlt; simp at hlt
    rcases n2.2.2 with h0 | h0
    · exact hne h0
    · apply h0
      rw [last_getD hne, last_getD n2.1]
      congr 1
      rw [← at_head (l := l') (show h'.length - 1 < h'.length by omega), ← at_loop (h := h') (show l'.length - 1 < l'.length by omega), ← e, ← e]
      have := per_at h l (h'.length - 1) (by omega)
      rw [← this]
      congr 1
      omega
  · exact hge
/-- There is one normal form. -/
theorem nf_one {h l h' l' : List UInt8} (n1 : NFS h l) (n2 : NFS h' l') (e : ∀ n, atS h l n = atS h' l' n) : h = h' ∧ l = l' := by
  have hl := nf_len n1 n2 e
  have hh : h.length = h'.length := Nat.le_antisymm (nf_head n2 n1 fun n => (e n).symm) (nf_head n1 n2 e)
  refine ⟨list_eq_of hh fun i hi => ?_, list_eq_of hl fun i hi => ?_⟩
  · rw [← at_head (l := l) hi, e, at_head (by omega)]
  · rw [← at_loop (h := h) hi, e, hh, at_loop (by omega)]

/-- Shorter by one: the head's last byte is the loop's. -/
theorem at_turn (h m : List UInt8) (x : UInt8) (n : Nat) : atS (h ++ [x]) (m ++ [x]) n = atS h (x :: m) n := by
  unfold atS
  simp only [List.length_append, List.length_cons, List.length_nil, Nat.zero_add]
  by_cases h1 : n < h.length
  · rw [if_pos (by omega), if_pos h1, List.getD_eq_getElem?_getD, List.getD_eq_getElem?_getD, List.getElem?_append_left h1]
  · by_cases h2 : n = h.length
    · subst h2
      rw [if_pos (by omega), if_neg (by omega)]
      simp
    · rw [if_neg (by omega), if_neg h1]
      obtain ⟨k, rfl⟩ : ∃ k, n = h.length + 1 + k := ⟨n - h.length - 1, by omega⟩
      rw [show h.length + 1 + k - (h.length + 1) = k by omega, show h.length + 1 + k - h.length = k + 1 by omega]
      have hk := Nat.mod_lt k (show 0 < m.length + 1 by omega)
      rw [Nat.add_mod k 1]
      by_cases h3 : k % (m.length + 1) = m.length
      · rw [h3]
        rcases Nat.eq_zero_or_pos m.length with h0 | h0
        · have : m = [] := List.length_eq_zero_iff.1 h0
          subst this
          simp
        · rw [Nat.mod_eq_of_lt (show 1 < m.length + 1 by omega), Nat.mod_self]
          simp
      · have h0 : 0 < m.length := by omega
        rw [Nat.mod_eq_of_lt (show 1 < m.length + 1 by omega), Nat.mod_eq_of_lt (show k % (m.length + 1) + 1 < m.length + 1 by omega)]
        rw [List.getD_eq_getElem?_getD, List.getD_eq_getElem?_getD, List.getElem?_append_left (by omega), List.getElem?_cons_succ]

/-- What a repetition is. -/
theorem rep_per {h l : List UInt8} {d : Nat} (hd : d ∣ l.length) (hr : l.drop d = l.take (l.length - d)) : PerS (atS h l) h.length d := by
  intro n hn
  unfold atS
  rw [if_neg (by omega), if_neg (by omega), show n + d - h.length = (n - h.length) + d by omega]
  generalize n - h.length = k
  rcases Nat.eq_zero_or_pos l.length with h0 | h0
  · have : l = [] := List.length_eq_zero_iff.1 h0
    subst this
    simp
  · have hk := Nat.mod_lt k h0
    obtain ⟨c, hc⟩ := hd
    have hgen : ∀ i, i + d < l.length → l.getD (i + d) 0 = l.getD i 0 := by
      intro i hi
      have h1 : (l.drop d)[i]? = (l.take (l.length - d))[i]? := by rw [hr]
      rw [List.getElem?_drop, List.getElem?_take_of_lt (by omega)] at h1
      rw [List.getD_eq_getElem?_getD, List.getD_eq_getElem?_getD, Nat.add_comm i d, h1]
    rcases Nat.eq_zero_or_pos d with hd0 | hd0
    · subst hd0; simp
    · have hdl : d ≤ l.length := Nat.le_of_dvd h0 ⟨c, hc⟩
      rw [Nat.add_mod]
      rcases Nat.lt_or_ge d l.length with hlt | hge
      · rw [Nat.mod_eq_of_lt hlt]
        rcases Nat.lt_or_ge (k % l.length + d) l.length with h1 | h1
        · rw [Nat.mod_eq_of_lt h1]
          exact hgen _ h1
        · rw [show (k % l.length + d) % l.length = k % l.length + d - l.length by
            rw [Nat.mod_eq_sub_mod h1, Nat.mod_eq_of_lt (by omega)]]
          -- go down by steps
          have hdown : ∀ j i, i + j * d < l.length → l.getD (i + j * d) 0 = l.getD i 0 := by
            intro j
            induction j with
            | zero => intro i _; simp
            | succ j ih =>
              intro i hi
              rw [Nat.succ_mul, ← Nat.add_assoc] at hi ⊢
              rw [hgen _ hi]
              exact ih i (by omega)
          obtain ⟨r, hr2⟩ : ∃ r, k % l.length + d = l.length + r := ⟨k % l.length + d - l.length, by omega⟩
          have hc1 : 1 ≤ c := by
            rcases Nat.eq_zero_or_pos c with h | h
            · rw [h, Nat.mul_zero] at hc; omega
            · exact h
          have e1 : k % l.length = r + (c - 1) * d := by
            have : d * c = (c - 1) * d + d := by
              rw [Nat.mul_comm, ← Nat.succ_mul]
              congr 1
              omega
            omega
          rw [show k % l.length + d - l.length = r by omega, e1, hdown _ _ (by omega)]
      · have : d = l.length := by omega
        subst this
        rw [Nat.mod_self, Nat.add_zero, Nat.mod_mod]

theorem rep_step {l : List UInt8} {d : Nat} (hr : l.drop d = l.take (l.length - d)) : ∀ i, i + d < l.length → l.getD (i + d) 0 = l.getD i 0 := by
  intro i hi
  have h1 : (l.drop d)[i]? = (l.take (l.length - d))[i]? := by rw [hr]
  rw [List.getElem?_drop, List.getElem?_take_of_lt (by omega)] at h1
  rw [List.getD_eq_getElem?_getD, List.getD_eq_getElem?_getD, Nat.add_comm i d, h1]
theorem rep_mod {l : List UInt8} {d : Nat} (hr : l.drop d = l.take (l.length - d)) (hd0 : 0 < d) : ∀ j i, i + j * d < l.length → l.getD (i + j * d) 0 = l.getD i 0 := by
  intro j
  induction j with
  | zero => intro i _; simp
  | succ j ih =>
    intro i hi
    rw [Nat.succ_mul, ← Nat.add_assoc] at hi ⊢
    rw [rep_step hr _ hi]
    exact ih i (by omega)
/-- A repetition has the same numbers as its first part. -/
theorem rep_at {h l : List UInt8} {d : Nat} (hd0 : 0 < d) (hd : d ∣ l.length) (hr : l.drop d = l.take (l.length - d)) (n : Nat) : atS h (l.take d) n = atS h l n := by
  unfold atS
  by_cases h1 : n < h.length
  · rw [if_pos h1, if_pos h1]
  · rw [if_neg h1, if_neg h1]
    generalize n - h.length = k
    rcases Nat.eq_zero_or_pos l.length with h0 | h0
    · have : l = [] := List.length_eq_zero_iff.1 h0
      subst this
      simp
    · have hdl : d ≤ l.length := Nat.le_of_dvd h0 hd
      have hk := Nat.mod_lt k hd0
      have hkl := Nat.mod_lt k h0
      rw [List.length_take, Nat.min_eq_left hdl, List.getD_eq_getElem?_getD, List.getElem?_take_of_lt hk, ← List.getD_eq_getElem?_getD]
      have e : k % l.length % d = k % d := Nat.mod_mod_of_dvd k hd
      have h2 := Nat.mod_add_div (k % l.length) d
      rw [e, Nat.mul_comm] at h2
      have := rep_mod hr hd0 (k % l.length / d) (k % d) (by omega)
      rw [h2] at this
      exact this.symm
theorem per_rep {h l : List UInt8} {d : Nat} (hp : PerS (atS h l) h.length d) : l.drop d = l.take (l.length - d) := by
  apply List.ext_getElem?
  intro i
  rcases Nat.lt_or_ge i (l.length - d) with h1 | h1
  · rw [List.getElem?_drop, List.getElem?_take_of_lt h1]
    have := hp (h.length + i) (by omega)
    rw [Nat.add_assoc, at_loop (by omega), at_loop (by omega), List.getD_eq_getElem?_getD, List.getD_eq_getElem?_getD, List.getElem?_eq_getElem (show i + d < l.length by omega), List.getElem?_eq_getElem (show i < l.length by omega)] at this
    rw [Nat.add_comm, List.getElem?_eq_getElem (show i + d < l.length by omega), List.getElem?_eq_getElem (show i < l.length by omega)]
    simpa using this
  · rw [List.getElem?_eq_none (by simp; omega), List.getElem?_eq_none (by simp; omega)]
/-- The least repetition. -/
theorem least_min {h l : List UInt8} {d : Nat} (hd0 : 0 < d) (hd : d ∣ l.length) (hl0 : 0 < l.length) (hr : l.drop d = l.take (l.length - d))
    (hmin : ∀ e, 0 < e → e < d → ¬ (e ∣ l.length ∧ l.drop e = l.take (l.length - e))) : MinS (atS h (l.take d)) d := by
  intro e e0 e1 e2 ⟨M, hM⟩
  have hf : atS h (l.take d) = atS h l := funext (rep_at hd0 hd hr)
  rw [hf] at hM
  have hp := per_down hl0 (per_at h l) hM
  exact hmin e e0 e1 ⟨Nat.dvd_trans e2 hd, per_rep hp⟩
theorem at_turn' (h m : List UInt8) (x : UInt8) : atS (h ++ [x]) (m ++ [x]) = atS h (x :: m) := funext (at_turn h m x)

/-- Each set has a normal form; it is not longer, and has the same bytes. -/
theorem nf_turn : ∀ (k : Nat) (h l : List UInt8), h.length = k → l ≠ [] → MinS (atS h l) l.length →
    ∃ H L, NFS H L ∧ (∀ n, atS H L n = atS h l n) ∧ H.length ≤ h.length ∧ L.length = l.length ∧ (∀ x ∈ H, x ∈ h) ∧ (∀ x ∈ L, x ∈ l) := by
  intro k
  induction k with
  | zero =>
    intro h l hk hl hm
    have : h = [] := List.length_eq_zero_iff.1 hk
    exact ⟨h, l, ⟨hl, hm, .inl this⟩, fun _ => rfl, Nat.le_refl _, rfl, fun _ hx => hx, fun _ hx => hx⟩
  | succ k ih =>
    intro h l hk hl hm
    by_cases e : h.getLast? = l.getLast?
    · obtain ⟨h0, x, rfl⟩ : ∃ h0 x, h = h0 ++ [x] := ⟨h.dropLast, h.getLast (by intro e0; rw [e0] at hk; simp at hk), (List.dropLast_concat_getLast _).symm⟩
      obtain ⟨m, y, rfl⟩ : ∃ m y, l = m ++ [y] := ⟨l.dropLast, l.getLast hl, (List.dropLast_concat_getLast _).symm⟩
      rw [List.getLast?_concat, List.getLast?_concat] at e
      obtain rfl := Option.some.inj e
      rw [at_turn'] at hm
      obtain ⟨H, L, h1, h2, h3, h4, h5, h6⟩ := ih h0 (x :: m) (by simpa using hk) (by simp) (by simpa using hm)
      refine ⟨H, L, h1, fun n => by rw [h2, at_turn], by simp; omega, by simpa using h4, fun z hz => by simp [h5 z hz], fun z hz => ?_⟩
      have := h6 z hz
      simp only [List.mem_cons] at this
      simp only [List.mem_append, List.mem_singleton]
      exact this.symm
    · exact ⟨h, l, ⟨hl, hm, .inr e⟩, fun _ => rfl, Nat.le_refl _, rfl, fun _ hx => hx, fun _ hx => hx⟩
theorem least_ex (l : List UInt8) (hl : l ≠ []) : ∃ d, 0 < d ∧ d ∣ l.length ∧ l.drop d = l.take (l.length - d) ∧ ∀ e, 0 < e → e < d → ¬ (e ∣ l.length ∧ l.drop e = l.take (l.length - e)) := by
  have hl0 : 0 < l.length := List.length_pos_iff.2 hl
  have hex : ∃ d, 0 < d ∧ d ∣ l.length ∧ l.drop d = l.take (l.length - d) := ⟨l.length, hl0, Nat.dvd_refl _, by simp⟩
  suffices H : ∀ k, (∃ d, d ≤ k ∧ 0 < d ∧ d ∣ l.length ∧ l.drop d = l.take (l.length - d)) → ∃ d, 0 < d ∧ d ∣ l.length ∧ l.drop d = l.take (l.length - d) ∧ ∀ e, 0 < e → e < d → ¬ (e ∣ l.length ∧ l.drop e = l.take (l.length - e)) by
    obtain ⟨d, h⟩ := hex
    exact H d ⟨d, Nat.le_refl _, h⟩
  intro k
  induction k with
  | zero => rintro ⟨d, h0, h1, _⟩; omega
  | succ k ih =>
    rintro ⟨d, h0, h1, h2, h3⟩
    by_cases e : ∃ d', d' ≤ k ∧ 0 < d' ∧ d' ∣ l.length ∧ l.drop d' = l.take (l.length - d')
    · exact ih e
    · exact ⟨d, h1, h2, h3, fun d' e0 e1 e2 => e ⟨d', by omega, e0, e2.1, e2.2⟩⟩
theorem nf_ex (h l : List UInt8) (hl : l ≠ []) : ∃ H L, NFS H L ∧ (∀ n, atS H L n = atS h l n) ∧ H.length ≤ h.length ∧ L.length ≤ l.length ∧ (∀ x ∈ H, x ∈ h) ∧ (∀ x ∈ L, x ∈ l) := by
  have hl0 : 0 < l.length := List.length_pos_iff.2 hl
  obtain ⟨d, d0, d1, d2, d3⟩ := least_ex l hl
  have hdl : d ≤ l.length := Nat.le_of_dvd hl0 d1
  have hlen : (l.take d).length = d := by rw [List.length_take]; omega
  obtain ⟨H, L, h1, h2, h3, h4, h5, h6⟩ := nf_turn h.length h (l.take d) rfl (by intro e; rw [e] at hlen; simp at hlen; omega) (by rw [hlen]; exact least_min d0 d1 hl0 d2 d3)
  exact ⟨H, L, h1, fun n => by rw [h2, rep_at d0 d1 d2], h3, by omega, h5, fun x hx => List.mem_of_mem_take (h6 x hx)⟩
end Go.Proofs.YtjgmoledhkikcaaDoor

/- The normal form of a set as a function, and of a sequence that repeats; sums. Over core Lean alone. -/
namespace Go.Proofs.YtjgmoledhkikcaaDoor
/-- The raw form of a sequence that repeats after p from N on. -/
def rawH (a : Nat → UInt8) (N : Nat) : List UInt8 := (List.range N).map a
def rawL (a : Nat → UInt8) (N p : Nat) : List UInt8 := (List.range p).map fun i => a (N + i)
theorem raw_at {a : Nat → UInt8} {N p : Nat} (hp0 : 0 < p) (hp : PerS a N p) : atS (rawH a N) (rawL a N p) = a := by
  funext n
  unfold atS rawH rawL
  simp only [List.length_map, List.length_range]
  by_cases h : n < N
  · rw [if_pos h, List.getD_eq_getElem?_getD, List.getElem?_map, List.getElem?_range h]
    rfl
  · rw [if_neg h]
    have hk := Nat.mod_lt (n - N) hp0
    rw [List.getD_eq_getElem?_getD, List.getElem?_map, List.getElem?_range hk]
    have h1 := per_mul hp ((n - N) / p) (N + (n - N) % p) (by omega)
    have h2 := Nat.mod_add_div (n - N) p
    rw [Nat.mul_comm] at h2
    rw [show N + (n - N) % p + (n - N) / p * p = n by omega] at h1
    simp [h1]

/-- The normal form of a set. -/
noncomputable def nfS (h l : List UInt8) : List UInt8 × List UInt8 := if hl : l = [] then ([], []) else (Classical.choose (nf_ex h l hl), Classical.choose (Classical.choose_spec (nf_ex h l hl)))
theorem nfS_spec {h l : List UInt8} (hl : l ≠ []) : NFS (nfS h l).1 (nfS h l).2 ∧ (∀ n, atS (nfS h l).1 (nfS h l).2 n = atS h l n) ∧ (nfS h l).1.length ≤ h.length ∧ (nfS h l).2.length ≤ l.length ∧ (∀ x ∈ (nfS h l).1, x ∈ h) ∧ (∀ x ∈ (nfS h l).2, x ∈ l) := by
  unfold nfS
  rw [dif_neg hl]
  exact Classical.choose_spec (Classical.choose_spec (nf_ex h l hl))
theorem nfS_one {h l H L : List UInt8} (hl : l ≠ []) (hn : NFS H L) (e : ∀ n, atS H L n = atS h l n) : nfS h l = (H, L) := by
  obtain ⟨h1, h2, _⟩ := nfS_spec (h := h) hl
  obtain ⟨a, b⟩ := nf_one h1 hn (fun n => by rw [h2, e])
  exact Prod.ext a b
theorem nfS_congr {h l h' l' : List UInt8} (hl : l ≠ []) (hl' : l' ≠ []) (e : ∀ n, atS h l n = atS h' l' n) : nfS h l = nfS h' l' := by
  obtain ⟨h1, h2, _⟩ := nfS_spec (h := h') hl'
  have e2 := nfS_one hl h1 (fun n => (h2 n).trans (e n).symm)
  rw [e2]
theorem nfS_nf {h l : List UInt8} (hn : NFS h l) : nfS h l = (h, l) := nfS_one hn.1 hn fun _ => rfl
theorem nfS_turn {h m : List UInt8} {x : UInt8} : nfS (h ++ [x]) (m ++ [x]) = nfS h (x :: m) := nfS_congr (by simp) (by simp) (at_turn h m x)

open Classical in
/-- The normal form of a sequence that repeats. -/
noncomputable def nfA (a : Nat → UInt8) : List UInt8 × List UInt8 := if h : ∃ h l : List UInt8, l ≠ [] ∧ atS h l = a then nfS (Classical.choose h) (Classical.choose (Classical.choose_spec h)) else ([], [])
theorem nfA_at {h l : List UInt8} (hl : l ≠ []) : nfA (atS h l) = nfS h l := by
  have hex : ∃ h' l' : List UInt8, l' ≠ [] ∧ atS h' l' = atS h l := ⟨h, l, hl, rfl⟩
  unfold nfA
  rw [dif_pos hex]
  obtain ⟨h1, h2⟩ := Classical.choose_spec (Classical.choose_spec hex)
  exact nfS_congr h1 hl fun n => by rw [h2]
theorem nfA_raw {a : Nat → UInt8} {N p : Nat} (hp0 : 0 < p) (hp : PerS a N p) : nfA a = nfS (rawH a N) (rawL a N p) := by
  have hl : rawL a N p ≠ [] := by
    intro e
    have := congrArg List.length e
    simp [rawL] at this
    omega
  conv => lhs; rw [← raw_at hp0 hp]
  exact nfA_at hl
theorem nfA_of {a : Nat → UInt8} {h l : List UInt8} (hl : l ≠ []) (e : ∀ n, atS h l n = a n) : nfA a = nfS h l := by
  have : atS h l = a := funext e
  rw [← this]
  exact nfA_at hl

/-- Sums. -/
def inS (a : Nat → UInt8) (n : Nat) : Bool := a n == 49
def sumB (a b : Nat → UInt8) (n : Nat) : Bool := (List.range (n + 1)).any fun i => inS a i && inS b (n - i)
theorem sumB_iff {a b : Nat → UInt8} {n : Nat} : sumB a b n = true ↔ ∃ i j, i + j = n ∧ inS a i = true ∧ inS b j = true := by
  unfold sumB
  rw [List.any_eq_true]
  constructor
  · rintro ⟨i, hi, h⟩
    rw [List.mem_range] at hi
    rw [Bool.and_eq_true] at h
    exact ⟨i, n - i, by omega, h.1, h.2⟩
  · rintro ⟨i, j, rfl, h1, h2⟩
    exact ⟨i, by rw [List.mem_range]; omega, by rw [h1, Nat.add_sub_cancel_left, h2]; rfl⟩
theorem sum_per {a b : Nat → UInt8} {N M p q : Nat} (ha : PerS a N p) (hb : PerS b M q) (n : Nat) (hn : N + M + p * q ≤ n) : sumB a b (n + p * q) = sumB a b n := by
  have ha' : ∀ i, N ≤ i → inS a (i + p * q) = inS a i := fun i hi => by
    unfold inS
    rw [Nat.mul_comm, per_mul ha q i hi]
  have hb' : ∀ i, M ≤ i → inS b (i + p * q) = inS b i := fun i hi => by
    unfold inS
    rw [per_mul hb p i hi]
  rw [Bool.eq_iff_iff, sumB_iff, sumB_iff]
  constructor
  · rintro ⟨i, j, e, h1, h2⟩
    by_cases hi : N + p * q ≤ i
    · refine ⟨i - p * q, j, by omega, ?_, h2⟩
      rw [← ha' (i - p * q) (by omega), show i - p * q + p * q = i by omega]
      exact h1
    · by_cases hj : M + p * q ≤ j
      · refine ⟨i, j - p * q, by omega, h1, ?_⟩
        rw [← hb' (j - p * q) (by omega), show j - p * q + p * q = j by omega]
        exact h2
      · omega
  · rintro ⟨i, j, e, h1, h2⟩
    by_cases hi : N ≤ i
    · exact ⟨i + p * q, j, by omega, by rw [ha' i hi]; exact h1, h2⟩
    · exact ⟨i, j + p * q, by omega, h1, by rw [hb' j (by omega)]; exact h2⟩
end Go.Proofs.YtjgmoledhkikcaaDoor

/- Chapter 7's sequences, and what is made of them: unions, others, shifts, multiples, progressions, sums. Over core Lean alone. -/
namespace Go.Proofs.YtjgmoledhkikcaaDoor
def bitL (l : List UInt8) : Bool := l.all fun x => x == 48 || x == 49
def svS (h l : List UInt8) : Bool := (bitL h && decide (h.length ≤ 400)) && (bitL l && decide (1 ≤ l.length ∧ l.length ≤ 240))
theorem bitL_iff {l : List UInt8} : bitL l = true ↔ ∀ x ∈ l, x = 48 ∨ x = 49 := by
  unfold bitL
  rw [List.all_eq_true]
  constructor
  · intro h x hx
    simpa using h x hx
  · intro h x hx
    simpa using h x hx
theorem svS_parts {h l : List UInt8} (hv : svS h l = true) : (∀ x ∈ h, x = 48 ∨ x = 49) ∧ (∀ x ∈ l, x = 48 ∨ x = 49) ∧ h.length ≤ 400 ∧ 1 ≤ l.length ∧ l.length ≤ 240 ∧ l ≠ [] := by
  unfold svS at hv
  simp only [Bool.and_eq_true, decide_eq_true_eq] at hv
  refine ⟨bitL_iff.1 hv.1.1, bitL_iff.1 hv.2.1, hv.1.2, hv.2.2.1, hv.2.2.2, fun e => ?_⟩
  rw [e] at hv
  simp at hv
theorem at_bit {h l : List UInt8} (hl : l ≠ []) (h1 : ∀ x ∈ h, x = 48 ∨ x = 49) (h2 : ∀ x ∈ l, x = 48 ∨ x = 49) (n : Nat) : atS h l n = 48 ∨ atS h l n = 49 := by
  have hl0 : 0 < l.length := List.length_pos_iff.2 hl
  unfold atS
  split
  · rename_i hn
    rw [List.getD_eq_getElem?_getD, List.getElem?_eq_getElem hn]
    exact h1 _ (List.getElem_mem hn)
  · have := Nat.mod_lt (n - h.length) hl0
    rw [List.getD_eq_getElem?_getD, List.getElem?_eq_getElem this]
    exact h2 _ (List.getElem_mem this)

/-- What a function says that returns the normal form of a sequence that repeats. -/
noncomputable def resA (a : Nat → UInt8) : (List UInt8 × List UInt8) × Bool := if (nfA a).1.length ≤ 400 ∧ (nfA a).2.length ≤ 240 then (nfA a, true) else (([], []), false)
theorem nf_bits {h l : List UInt8} (hl : l ≠ []) (h1 : ∀ x ∈ h, x = 48 ∨ x = 49) (h2 : ∀ x ∈ l, x = 48 ∨ x = 49) : (∀ x ∈ (nfS h l).1, x = 48 ∨ x = 49) ∧ (∀ x ∈ (nfS h l).2, x = 48 ∨ x = 49) ∧ (nfS h l).2 ≠ [] := by
  obtain ⟨a, _, _, _, e, f⟩ := nfS_spec (h := h) hl
  exact ⟨fun x hx => h1 x (e x hx), fun x hx => h2 x (f x hx), a.1⟩
/-- The normal form is valid just where it is short enough. -/
theorem sv_nf {h l : List UInt8} (hl : l ≠ []) (h1 : ∀ x ∈ h, x = 48 ∨ x = 49) (h2 : ∀ x ∈ l, x = 48 ∨ x = 49) : svS (nfS h l).1 (nfS h l).2 = decide ((nfS h l).1.length ≤ 400 ∧ (nfS h l).2.length ≤ 240) := by
  obtain ⟨b1, b2, b3⟩ := nf_bits hl h1 h2
  have b4 : 1 ≤ (nfS h l).2.length := List.length_pos_iff.2 b3
  unfold svS
  rw [bitL_iff.2 b1, bitL_iff.2 b2, Bool.true_and, Bool.true_and, ← Bool.decide_and, decide_eq_decide]
  omega
theorem res_nf {h l : List UInt8} (hl : l ≠ []) : resA (atS h l) = if (nfS h l).1.length ≤ 400 ∧ (nfS h l).2.length ≤ 240 then (nfS h l, true) else (([], []), false) := by
  unfold resA
  rw [nfA_at hl]
/-- A valid set has a valid normal form. -/
theorem res_valid {h l : List UInt8} (hv : svS h l = true) : resA (atS h l) = (nfS h l, true) := by
  obtain ⟨_, _, h3, _, h5, h6⟩ := svS_parts hv
  obtain ⟨_, _, e1, e2, _⟩ := nfS_spec (h := h) h6
  rw [res_nf h6, if_pos (by omega)]

/-- The sequences that the functions of chapter 7 make. -/
def bitS (b : Bool) : UInt8 := if b then 49 else 48
def orA (a b : Nat → UInt8) (n : Nat) : UInt8 := bitS (inS a n || inS b n)
def andA (a b : Nat → UInt8) (n : Nat) : UInt8 := bitS (inS a n && inS b n)
def notA (a : Nat → UInt8) (n : Nat) : UInt8 := bitS (!inS a n)
def shA (a : Nat → UInt8) (k n : Nat) : UInt8 := if n < k then 48 else a (n - k)
def stA (a : Nat → UInt8) (k n : Nat) : UInt8 := if n % k = 0 then a (n / k) else 48
def dvA (a : Nat → UInt8) (k n : Nat) : UInt8 := a (k * n)
def prA (f s n : Nat) : UInt8 := bitS (decide (f ≤ n) && (if s = 0 then decide (n = f) else decide ((n - f) % s = 0)))
def smA (a b : Nat → UInt8) (n : Nat) : UInt8 := bitS (sumB a b n)
theorem in_bit (b : Bool) : (bitS b == 49) = b := by cases b <;> rfl
theorem per_lcm {a : Nat → UInt8} {N p m : Nat} (h : PerS a N p) (hd : p ∣ m) : PerS a N m := by
  obtain ⟨k, rfl⟩ := hd
  intro n hn
  rw [Nat.mul_comm]
  exact per_mul h k n hn
theorem per_up {a : Nat → UInt8} {N M p : Nat} (h : PerS a N p) (hM : N ≤ M) : PerS a M p := fun n hn => h n (by omega)
theorem per_or {a b : Nat → UInt8} {N p : Nat} (ha : PerS a N p) (hb : PerS b N p) : PerS (orA a b) N p := fun n hn => by unfold orA inS; rw [ha n hn, hb n hn]
theorem per_and {a b : Nat → UInt8} {N p : Nat} (ha : PerS a N p) (hb : PerS b N p) : PerS (andA a b) N p := fun n hn => by unfold andA inS; rw [ha n hn, hb n hn]
theorem per_not {a : Nat → UInt8} {N p : Nat} (ha : PerS a N p) : PerS (notA a) N p := fun n hn => by unfold notA inS; rw [ha n hn]
theorem per_dv {a : Nat → UInt8} {N p k : Nat} (ha : PerS a N p) (hk : 1 ≤ k) : PerS (dvA a k) N p := fun n hn => by
  unfold dvA
  rw [Nat.mul_add, per_mul ha k _ (by have := Nat.mul_le_mul_right n hk; omega)]
theorem per_sm {a b : Nat → UInt8} {N M p q : Nat} (ha : PerS a N p) (hb : PerS b M q) : PerS (smA a b) (N + M + p * q) (p * q) := fun n hn => by
  unfold smA
  rw [sum_per ha hb n hn]
/-- Another set's numbers. -/
theorem not_at (h l : List UInt8) (hl : l ≠ []) (h1 : ∀ x ∈ h, x = 48 ∨ x = 49) (h2 : ∀ x ∈ l, x = 48 ∨ x = 49) (n : Nat) : atS (h.map fun x => 97 - x) (l.map fun x => 97 - x) n = notA (atS h l) n := by
  have hb := at_bit hl h1 h2 n
  have hl0 : 0 < l.length := List.length_pos_iff.2 hl
  have e : atS (h.map fun x => 97 - x) (l.map fun x => 97 - x) n = 97 - atS h l n := by
    unfold atS
    rw [List.length_map, List.length_map]
    split
    · rename_i hn
      rw [List.getD_eq_getElem?_getD, List.getD_eq_getElem?_getD, List.getElem?_map, List.getElem?_eq_getElem hn]
      rfl
    · have := Nat.mod_lt (n - h.length) hl0
      rw [List.getD_eq_getElem?_getD, List.getD_eq_getElem?_getD, List.getElem?_map, List.getElem?_eq_getElem this]
      rfl
  rw [e]
  unfold notA inS
  rcases hb with hb | hb <;> rw [hb] <;> rfl
/-- A shifted set's numbers. -/
theorem sh_at (h l : List UInt8) (k n : Nat) : atS (List.replicate k 48 ++ h) l n = shA (atS h l) k n := by
  unfold atS shA
  rw [List.length_append, List.length_replicate]
  by_cases hk : n < k
  · rw [if_pos (by omega), if_pos hk, List.getD_eq_getElem?_getD, List.getElem?_append_left (by simpa using hk)]
    simp [hk]
  · rw [if_neg hk]
    dsimp only
    by_cases hn : n < k + h.length
    · rw [if_pos hn, if_pos (by omega), List.getD_eq_getElem?_getD, List.getElem?_append_right (by simpa using hk), List.length_replicate, ← List.getD_eq_getElem?_getD]
    · rw [if_neg hn, if_neg (by omega), show n - (k + h.length) = n - k - h.length by omega]

/-- Bits with zeros behind each. -/
def strL (l : List UInt8) (k : Nat) : List UInt8 := l.flatMap fun x => x :: List.replicate (k - 1) 48
theorem str_len (l : List UInt8) {k : Nat} (hk : 1 ≤ k) : (strL l k).length = l.length * k := by
  induction l with
  | nil => simp [strL]
  | cons x r ih =>
    have : strL (x :: r) k = (x :: List.replicate (k - 1) 48) ++ strL r k := rfl
    rw [this, List.length_append, ih, List.length_cons, List.length_cons, List.length_replicate, Nat.succ_mul]
    omega
theorem str_get (l : List UInt8) {k : Nat} (hk : 1 ≤ k) : ∀ i, i < l.length * k → (strL l k).getD i 0 = if i % k = 0 then l.getD (i / k) 0 else 48 := by
  induction l with
  | nil => intro i hi; simp at hi
  | cons x r ih =>
    intro i hi
    have e : strL (x :: r) k = (x :: List.replicate (k - 1) 48) ++ strL r k := rfl
    rw [e, List.getD_eq_getElem?_getD]
    by_cases h1 : i < k
    · rw [List.getElem?_append_left (by simp; omega), Nat.mod_eq_of_lt h1, Nat.div_eq_of_lt h1]
      cases i with
      | zero => simp
      | succ j =>
        rw [if_neg (by omega), List.getElem?_cons_succ, List.getElem?_replicate, if_pos (by omega)]
        rfl
    · rw [List.length_cons, Nat.succ_mul] at hi
      have hl : (x :: List.replicate (k - 1) 48 : List UInt8).length = k := by simp; omega
      rw [List.getElem?_append_right (by rw [hl]; omega), hl, ← List.getD_eq_getElem?_getD, ih (i - k) (by omega)]
      have e1 : i % k = (i - k) % k := by rw [Nat.mod_eq_sub_mod (by omega)]
      have e2 : i / k = (i - k) / k + 1 := by rw [Nat.div_eq_sub_div (by omega) (by omega)]
      rw [e1, e2]
      split
      · rw [List.getD_eq_getElem?_getD, List.getD_eq_getElem?_getD, List.getElem?_cons_succ]
      · rfl
/-- A stretched set's numbers. -/
theorem st_at (h l : List UInt8) {k : Nat} (hk : 1 ≤ k) (hl : l ≠ []) (n : Nat) : atS (strL h k) (strL l k) n = stA (atS h l) k n := by
  have hl0 : 0 < l.length := List.length_pos_iff.2 hl
  have hdm := Nat.div_add_mod n k
  have hmk := Nat.mod_lt n (show 0 < k by omega)
  unfold atS stA
  dsimp only
  rw [str_len h hk, str_len l hk]
  by_cases hn : n < h.length * k
  · have hlt : n / k < h.length := by rw [Nat.div_lt_iff_lt_mul (by omega)]; exact hn
    rw [if_pos hn, str_get h hk n hn, if_pos hlt]
  · have hlt : ¬ n / k < h.length := by rw [Nat.div_lt_iff_lt_mul (by omega)]; exact hn
    rw [if_neg hn, if_neg hlt]
    have hpos : 0 < l.length * k := Nat.mul_pos hl0 (by omega)
    rw [str_get l hk _ (Nat.mod_lt _ hpos)]
    have e1 : (n - h.length * k) % (l.length * k) % k = n % k := by
      rw [Nat.mod_mod_of_dvd _ ⟨l.length, Nat.mul_comm _ _⟩]
      obtain ⟨m, hm⟩ : ∃ m, n = h.length * k + m := ⟨n - h.length * k, by omega⟩
      rw [hm, Nat.add_sub_cancel_left, Nat.add_comm, Nat.add_mul_mod_self_right]
    have e2 : (n - h.length * k) % (l.length * k) / k = (n / k - h.length) % l.length := by
      rw [Nat.mul_comm l.length k, Nat.mod_mul_right_div_self]
      congr 1
      obtain ⟨m, hm⟩ : ∃ m, n = h.length * k + m := ⟨n - h.length * k, by omega⟩
      rw [hm, Nat.add_sub_cancel_left, Nat.add_comm, Nat.add_mul_div_right _ _ (by omega), Nat.add_sub_cancel]
    rw [e1, e2]
/-- A progression's numbers. -/
theorem pr_at0 (f n : Nat) : atS (List.replicate f 48 ++ [49]) [48] n = prA f 0 n := by
  unfold atS prA
  rw [List.length_append, List.length_replicate, List.length_cons, List.length_nil, if_pos rfl]
  by_cases h1 : n < f
  · rw [if_pos (by omega), List.getD_eq_getElem?_getD, List.getElem?_append_left (by simpa using h1), decide_eq_false (by omega)]
    simp [h1, bitS]
  · by_cases h2 : n = f
    · subst h2
      rw [if_pos (by omega)]
      simp [bitS]
    · rw [if_neg (by omega), decide_eq_false (show ¬ n = f from h2)]
      simp [bitS, Nat.mod_one]
theorem pr_at1 (f s n : Nat) (hs : 1 ≤ s) : atS (List.replicate f 48) (49 :: List.replicate (s - 1) 48) n = prA f s n := by
  unfold atS prA
  rw [List.length_replicate, List.length_cons, List.length_replicate, show s - 1 + 1 = s by omega, if_neg (show ¬ s = 0 by omega)]
  by_cases h1 : n < f
  · rw [if_pos h1, decide_eq_false (by omega), List.getD_eq_getElem?_getD, List.getElem?_replicate, if_pos h1]
    rfl
  · rw [if_neg h1, decide_eq_true (show f ≤ n by omega), Bool.true_and]
    have := Nat.mod_lt (n - f) (show 0 < s by omega)
    cases hm : (n - f) % s with
    | zero => rfl
    | succ j =>
      rw [List.getD_eq_getElem?_getD, List.getElem?_cons_succ, List.getElem?_replicate, if_pos (by omega), decide_eq_false (by omega)]
      rfl
end Go.Proofs.YtjgmoledhkikcaaDoor

/- What the laws of chapter 7 say of sequences: connectives, sums, shifts, multiples, counts, the least and the greatest. Over core Lean alone. -/
namespace Go.Proofs.YtjgmoledhkikcaaDoor
/-- A sequence of bits. -/
def Bits (a : Nat → UInt8) : Prop := ∀ n, a n = 48 ∨ a n = 49
theorem bits_bit {f : Nat → Bool} : Bits fun n => bitS (f n) := fun n => by dsimp only; cases f n <;> simp [bitS]
theorem bits_in {a : Nat → UInt8} (h : Bits a) (n : Nat) : bitS (inS a n) = a n := by
  unfold inS
  rcases h n with e | e <;> rw [e] <;> rfl
theorem in_or (a b : Nat → UInt8) (n : Nat) : inS (orA a b) n = (inS a n || inS b n) := in_bit _
theorem in_and (a b : Nat → UInt8) (n : Nat) : inS (andA a b) n = (inS a n && inS b n) := in_bit _
theorem in_not (a : Nat → UInt8) (n : Nat) : inS (notA a) n = !inS a n := in_bit _
theorem in_sm (a b : Nat → UInt8) (n : Nat) : inS (smA a b) n = sumB a b n := in_bit _
theorem in_pr (f s n : Nat) : inS (prA f s) n = (decide (f ≤ n) && (if s = 0 then decide (n = f) else decide ((n - f) % s = 0))) := in_bit _
theorem or_comm' (a b : Nat → UInt8) : orA a b = orA b a := by funext n; unfold orA; rw [Bool.or_comm]
theorem and_comm' (a b : Nat → UInt8) : andA a b = andA b a := by funext n; unfold andA; rw [Bool.and_comm]
theorem or_again (a b : Nat → UInt8) : orA (orA a b) a = orA a b := by
  funext n
  show bitS (inS (orA a b) n || inS a n) = bitS (inS a n || inS b n)
  rw [in_or]
  cases inS a n <;> simp
theorem not_not' {a : Nat → UInt8} (h : Bits a) : notA (notA a) = a := by
  funext n
  show bitS (!inS (notA a) n) = a n
  rw [in_not, Bool.not_not]
  exact bits_in h n
theorem not_or' (a b : Nat → UInt8) : notA (orA a b) = andA (notA a) (notA b) := by
  funext n
  show bitS (!inS (orA a b) n) = bitS (inS (notA a) n && inS (notA b) n)
  rw [in_or, in_not, in_not, Bool.not_or]
theorem sm_comm (a b : Nat → UInt8) : smA a b = smA b a := by
  funext n
  unfold smA
  congr 1
  rw [Bool.eq_iff_iff, sumB_iff, sumB_iff]
  constructor
  · rintro ⟨i, j, e, h1, h2⟩; exact ⟨j, i, by omega, h2, h1⟩
  · rintro ⟨i, j, e, h1, h2⟩; exact ⟨j, i, by omega, h2, h1⟩
theorem sm_or (a b c : Nat → UInt8) : smA a (orA b c) = orA (smA a b) (smA a c) := by
  funext n
  show bitS (sumB a (orA b c) n) = bitS (inS (smA a b) n || inS (smA a c) n)
  rw [in_sm, in_sm]
  congr 1
  rw [Bool.eq_iff_iff, Bool.or_eq_true, sumB_iff, sumB_iff, sumB_iff]
  constructor
  · rintro ⟨i, j, e, h1, h2⟩
    rw [in_or, Bool.or_eq_true] at h2
    rcases h2 with h2 | h2
    · exact .inl ⟨i, j, e, h1, h2⟩
    · exact .inr ⟨i, j, e, h1, h2⟩
  · rintro (⟨i, j, e, h1, h2⟩ | ⟨i, j, e, h1, h2⟩)
    · exact ⟨i, j, e, h1, by rw [in_or, h2]; rfl⟩
    · exact ⟨i, j, e, h1, by rw [in_or, h2, Bool.or_true]⟩
/-- The sum with one number is a shift. -/
theorem sm_one {a : Nat → UInt8} (h : Bits a) (k : Nat) : smA a (prA k 0) = shA a k := by
  funext n
  unfold smA shA
  have e : sumB a (prA k 0) n = (if n < k then false else inS a (n - k)) := by
    rw [Bool.eq_iff_iff, sumB_iff]
    constructor
    · rintro ⟨i, j, e, h1, h2⟩
      rw [in_pr, if_pos rfl, Bool.and_eq_true, decide_eq_true_eq, decide_eq_true_eq] at h2
      obtain ⟨_, rfl⟩ := h2
      rw [if_neg (by omega), show n - j = i by omega]
      exact h1
    · intro h1
      by_cases hk : n < k
      · rw [if_pos hk] at h1
        exact absurd h1 (by decide)
      · rw [if_neg hk] at h1
        exact ⟨n - k, k, by omega, h1, by rw [in_pr, if_pos rfl]; simp⟩
  rw [e]
  by_cases hk : n < k
  · rw [if_pos hk, if_pos hk]
    rfl
  · rw [if_neg hk, if_neg hk]
    exact bits_in h _
theorem sh_zero (a : Nat → UInt8) : shA a 0 = a := by funext n; unfold shA; simp
theorem sh_sh (a : Nat → UInt8) (k m : Nat) : shA (shA a k) m = shA a (k + m) := by
  funext n
  unfold shA
  by_cases h1 : n < m
  · rw [if_pos h1, if_pos (by omega)]
  · rw [if_neg h1]
    by_cases h2 : n - m < k
    · rw [if_pos h2, if_pos (by omega)]
    · rw [if_neg h2, if_neg (by omega), show n - m - k = n - (k + m) by omega]
theorem dv_st {a : Nat → UInt8} {k : Nat} (hk : 1 ≤ k) : dvA (stA a k) k = a := by
  funext n
  unfold dvA stA
  rw [if_pos (Nat.mul_mod_right k n), Nat.mul_div_cancel_left n (by omega)]
theorem st_dv {a : Nat → UInt8} {k : Nat} (h : Bits a) (hk : 1 ≤ k) : stA (dvA a k) k = andA a (prA 0 k) := by
  funext n
  show _ = bitS (inS a n && inS (prA 0 k) n)
  rw [in_pr, if_neg (by omega), decide_eq_true (Nat.zero_le n), Bool.true_and, Nat.sub_zero]
  unfold stA dvA
  by_cases h1 : n % k = 0
  · rw [if_pos h1, decide_eq_true h1, Bool.and_true, bits_in h, Nat.mul_div_cancel' (Nat.dvd_of_mod_eq_zero h1)]
  · rw [if_neg h1, decide_eq_false h1, Bool.and_false]
    rfl
theorem bits_at {h l : List UInt8} (hl : l ≠ []) (h1 : ∀ x ∈ h, x = 48 ∨ x = 49) (h2 : ∀ x ∈ l, x = 48 ∨ x = 49) : Bits (atS h l) := at_bit hl h1 h2

/-- How many numbers of a set are below another one. -/
def cntA (a : Nat → UInt8) : Nat → Nat
  | 0 => 0
  | n + 1 => cntA a n + (inS a n).toNat
theorem cnt_le (a : Nat → UInt8) (n : Nat) : cntA a n ≤ n := by
  induction n with
  | zero => exact Nat.le_refl _
  | succ n ih =>
    unfold cntA
    have : (inS a n).toNat ≤ 1 := by cases inS a n <;> simp
    omega
theorem cnt_both (a b : Nat → UInt8) (n : Nat) : cntA (orA a b) n + cntA (andA a b) n = cntA a n + cntA b n := by
  induction n with
  | zero => rfl
  | succ n ih =>
    simp only [cntA, in_or, in_and]
    cases inS a n <;> cases inS b n <;> simp <;> omega
theorem cnt_not (a : Nat → UInt8) (n : Nat) : cntA a n + cntA (notA a) n = n := by
  induction n with
  | zero => rfl
  | succ n ih =>
    simp only [cntA, in_not]
    cases inS a n <;> simp <;> omega
/-- The least number of a set, or -1. -/
def IsLeastA (a : Nat → UInt8) (r : Int) : Prop := (r = -1 ∧ ∀ n, inS a n = false) ∨ ∃ n : Nat, r = n ∧ inS a n = true ∧ ∀ m, m < n → inS a m = false
theorem least_one {a : Nat → UInt8} {r s : Int} (h1 : IsLeastA a r) (h2 : IsLeastA a s) : r = s := by
  rcases h1 with ⟨e1, h1⟩ | ⟨n, e1, h1, k1⟩ <;> rcases h2 with ⟨e2, h2⟩ | ⟨m, e2, h2, k2⟩
  · omega
  · rw [h1 m] at h2; exact absurd h2 (by decide)
  · rw [h2 n] at h1; exact absurd h1 (by decide)
  · rcases Nat.lt_trichotomy n m with h | h | h
    · rw [k2 n h] at h1; exact absurd h1 (by decide)
    · omega
    · rw [k1 m h] at h2; exact absurd h2 (by decide)
/-- The greatest number of a set, or -1; -2 where there is none that is greatest. -/
def IsMostA (a : Nat → UInt8) (r : Int) : Prop := (r = -1 ∧ ∀ n, inS a n = false) ∨ (r = -2 ∧ ∀ n, ∃ m, n ≤ m ∧ inS a m = true) ∨ ∃ n : Nat, r = n ∧ inS a n = true ∧ ∀ m, n < m → inS a m = false
theorem most_one {a : Nat → UInt8} {r s : Int} (h1 : IsMostA a r) (h2 : IsMostA a s) : r = s := by
  rcases h1 with ⟨e1, h1⟩ | ⟨e1, h1⟩ | ⟨n, e1, h1, k1⟩ <;> rcases h2 with ⟨e2, h2⟩ | ⟨e2, h2⟩ | ⟨m, e2, h2, k2⟩
  · omega
  · obtain ⟨m, _, h⟩ := h2 0
    rw [h1 m] at h; exact absurd h (by decide)
  · rw [h1 m] at h2; exact absurd h2 (by decide)
  · obtain ⟨m, _, h⟩ := h1 0
    rw [h2 m] at h; exact absurd h (by decide)
  · omega
  · obtain ⟨n, hn, h⟩ := h1 (m + 1)
    rw [k2 n (by omega)] at h; exact absurd h (by decide)
  · rw [h2 n] at h1; exact absurd h1 (by decide)
  · obtain ⟨m, hm, h⟩ := h2 (n + 1)
    rw [k1 m (by omega)] at h; exact absurd h (by decide)
  · rcases Nat.lt_trichotomy n m with h | h | h
    · rw [k1 m h] at h2; exact absurd h2 (by decide)
    · omega
    · rw [k2 n h] at h1; exact absurd h1 (by decide)
/-- A number that repeats: there is none that is greatest. -/
theorem most_loop {a : Nat → UInt8} {N p : Nat} (hp0 : 0 < p) (hp : PerS a N p) {i : Nat} (hi : N ≤ i) (h : inS a i = true) : IsMostA a (-2) := by
  refine .inr (.inl ⟨rfl, fun n => ⟨i + n * p, ?_, ?_⟩⟩)
  · have := Nat.mul_le_mul_left n hp0
    omega
  · unfold inS at h ⊢
    rw [per_mul hp n i hi]
    exact h
end Go.Proofs.YtjgmoledhkikcaaDoor

/- How the program shortens a set: windows tell a step that repeats, a loop of which no part repeats is least, and the loop begins with the head's last bytes. Over core Lean alone. -/
namespace Go.Proofs.YtjgmoledhkikcaaDoor
/-- What repeats over one loop repeats for ever. -/
theorem per_of_win {h l : List UInt8} {d : Nat} (hl : l ≠ []) (hw : ∀ i, i < l.length → atS h l (h.length + i) = atS h l (h.length + i + d)) : PerS (atS h l) h.length d := by
  have hl0 : 0 < l.length := List.length_pos_iff.2 hl
  intro n hn
  have hm := Nat.mod_lt (n - h.length) hl0
  have hd := Nat.mod_add_div (n - h.length) l.length
  have e1 := per_mul (per_at h l) ((n - h.length) / l.length) (h.length + (n - h.length) % l.length) (by omega)
  have e2 := per_mul (per_at h l) ((n - h.length) / l.length) (h.length + (n - h.length) % l.length + d) (by omega)
  rw [Nat.mul_comm] at hd
  rw [show h.length + (n - h.length) % l.length + (n - h.length) / l.length * l.length = n by omega] at e1
  rw [show h.length + (n - h.length) % l.length + d + (n - h.length) / l.length * l.length = n + d by omega] at e2
  rw [e1, e2]
  exact (hw _ hm).symm
/-- For bits, to be in a set is all that matters. -/
theorem in_eq {a : Nat → UInt8} (h : ∀ n, a n = 48 ∨ a n = 49) {i j : Nat} (e : inS a i = inS a j) : a i = a j := by
  unfold inS at e
  rcases h i with hi | hi <;> rcases h j with hj | hj <;> rw [hi, hj] at e ⊢ <;> simp at e
/-- A loop that is no repetition is least. -/
theorem min_exit {h l : List UInt8} (hl : l ≠ []) (hx : ∀ t, 2 ≤ t → t ≤ l.length → ¬ (l.length / t * t = l.length ∧ PerS (atS h l) h.length (l.length / t))) : MinS (atS h l) l.length := by
  have hl0 : 0 < l.length := List.length_pos_iff.2 hl
  intro d d0 d1 ⟨c, hc⟩ ⟨M, hM⟩
  have hp := per_down hl0 (per_at h l) hM
  have hc2 : 2 ≤ c := by
    rcases Nat.lt_or_ge c 2 with h2 | h2
    · have : c = 0 ∨ c = 1 := by omega
      rcases this with rfl | rfl
      · rw [Nat.mul_zero] at hc; omega
      · rw [Nat.mul_one] at hc; omega
    · exact h2
  have hcl : c ≤ l.length := by
    rw [hc]
    have := Nat.mul_le_mul_right c d0
    omega
  have e : l.length / c = d := by rw [hc, Nat.mul_div_cancel _ (by omega)]
  refine hx c hc2 hcl ⟨?_, ?_⟩
  · rw [e, hc]
  · rw [e]
    exact hp
/-- A step that repeats shortens the loop. -/
theorem red_step {h l : List UInt8} {d : Nat} (d0 : 0 < d) (hd : d ∣ l.length) (hp : PerS (atS h l) h.length d) : ∀ n, atS h (l.take d) n = atS h l n :=
  rep_at d0 hd (per_rep hp)

/-- The head and the loop that begin at a place. -/
def stH (h m : List UInt8) (s : Nat) : List UInt8 := (h ++ m).take s
def stL (h m : List UInt8) (s : Nat) : List UInt8 := ((h ++ m).drop s).take m.length
theorem st_all (h m : List UInt8) : stH h m h.length = h ∧ stL h m h.length = m := by
  unfold stH stL
  constructor
  · simp
  · simp
theorem stL_len {h m : List UInt8} {s : Nat} (hs : s ≤ h.length) : (stL h m s).length = m.length := by
  unfold stL
  rw [List.length_take, List.length_drop, List.length_append]
  omega
theorem stH_len {h m : List UInt8} {s : Nat} (hs : s ≤ h.length) : (stH h m s).length = s := by
  unfold stH
  rw [List.length_take, List.length_append]
  omega
theorem stH_succ {h m : List UInt8} {s : Nat} {x : UInt8} (hx : (h ++ m)[s]? = some x) : stH h m (s + 1) = stH h m s ++ [x] := by
  unfold stH
  rw [List.take_add_one, hx]
  rfl
theorem stL_succ {h m : List UInt8} {s : Nat} {y : UInt8} (hm : m ≠ []) (hy : (h ++ m)[s + m.length]? = some y) :
    ∃ M, stL h m (s + 1) = M ++ [y] ∧ ∀ x, (h ++ m)[s]? = some x → stL h m s = x :: M := by
  have hl0 : 0 < m.length := List.length_pos_iff.2 hm
  obtain ⟨k, hk⟩ : ∃ k, m.length = k + 1 := ⟨m.length - 1, by omega⟩
  refine ⟨((h ++ m).drop (s + 1)).take k, ?_, ?_⟩
  · unfold stL
    rw [hk, List.take_add_one, List.getElem?_drop, show s + 1 + k = s + m.length by omega, hy]
    rfl
  · intro x hx
    unfold stL
    have hs := List.getElem?_eq_some_iff.1 hx
    rw [hk, List.drop_eq_getElem_cons hs.1, hs.2]
    rfl
theorem st_step {h m : List UInt8} {s : Nat} {x : UInt8} (hm : m ≠ []) (hx : (h ++ m)[s]? = some x) (hy : (h ++ m)[s + m.length]? = some x) : ∀ n, atS (stH h m (s + 1)) (stL h m (s + 1)) n = atS (stH h m s) (stL h m s) n := by
  obtain ⟨M, e1, e2⟩ := stL_succ hm hy
  intro n
  rw [stH_succ hx, e1, e2 x hx]
  exact at_turn _ _ _ _
/-- Where the head's last byte is not the loop's, the form is normal. -/
theorem st_exit {h m : List UInt8} {s : Nat} (hm : m ≠ []) (hs : s ≤ h.length) (hmin : MinS (atS (stH h m s) (stL h m s)) m.length)
    (hx : s = 0 ∨ ∃ t x y, s = t + 1 ∧ (h ++ m)[t]? = some x ∧ (h ++ m)[t + m.length]? = some y ∧ x ≠ y) : NFS (stH h m s) (stL h m s) := by
  have hlen := stL_len (m := m) hs
  have hl0 : 0 < m.length := List.length_pos_iff.2 hm
  refine ⟨fun e => by rw [e] at hlen; simp at hlen; omega, by rw [hlen]; exact hmin, ?_⟩
  rcases hx with rfl | ⟨t, x, y, rfl, h1, h2, hne⟩
  · left
    unfold stH
    simp
  · right
    obtain ⟨M, e1, _⟩ := stL_succ hm h2
    rw [stH_succ h1, e1, List.getLast?_concat, List.getLast?_concat]
    intro e
    exact hne (Option.some.inj e)
/-- From the whole set to its shortest form, step by step. -/
theorem st_norm {h l m : List UInt8} {s : Nat} (hl : l ≠ []) (hm : m ≠ []) (hs : s ≤ h.length) (hmin : MinS (atS h l) m.length) (e : ∀ n, atS (stH h m s) (stL h m s) n = atS h l n)
    (hx : s = 0 ∨ ∃ t x y, s = t + 1 ∧ (h ++ m)[t]? = some x ∧ (h ++ m)[t + m.length]? = some y ∧ x ≠ y) : nfS h l = (stH h m s, stL h m s) := by
  have hf : atS (stH h m s) (stL h m s) = atS h l := funext e
  exact nfS_one hl (st_exit hm hs (by rw [hf]; exact hmin) hx) e

/-- What the functions that ask a set for its first numbers make. -/
theorem raw_take {f : Nat → Bool} {b : List UInt8} {N p : Nat} (hb : b.length = N + p) (h : ∀ n, n < N + p → b.getD n 0 = bitS (f n)) :
    b.take N = rawH (fun n => bitS (f n)) N ∧ b.drop N = rawL (fun n => bitS (f n)) N p := by
  constructor
  · refine list_eq_of (by simp [rawH]; omega) fun i hi => ?_
    have hiN : i < N := by rw [List.length_take] at hi; omega
    rw [List.getD_eq_getElem?_getD, List.getElem?_take_of_lt hiN, ← List.getD_eq_getElem?_getD, h i (by omega)]
    unfold rawH
    rw [List.getD_eq_getElem?_getD, List.getElem?_map, List.getElem?_range hiN]
    rfl
  · refine list_eq_of (by simp [rawL]; omega) fun i hi => ?_
    have hiN : i < p := by rw [List.length_drop] at hi; omega
    rw [List.getD_eq_getElem?_getD, List.getElem?_drop, ← List.getD_eq_getElem?_getD, h (N + i) (by omega)]
    unfold rawL
    rw [List.getD_eq_getElem?_getD, List.getElem?_map, List.getElem?_range hiN]
    rfl
theorem raw_bits {f : Nat → Bool} {N p : Nat} : (∀ x ∈ rawH (fun n => bitS (f n)) N, x = 48 ∨ x = 49) ∧ (∀ x ∈ rawL (fun n => bitS (f n)) N p, x = 48 ∨ x = 49) := by
  constructor
  · intro x hx
    unfold rawH at hx
    rw [List.mem_map] at hx
    obtain ⟨n, _, rfl⟩ := hx
    exact bits_bit (f := f) n
  · intro x hx
    unfold rawL at hx
    rw [List.mem_map] at hx
    obtain ⟨n, _, rfl⟩ := hx
    exact bits_bit (f := f) (N + n)
end Go.Proofs.YtjgmoledhkikcaaDoor

/- From where, and after how many numbers, the sequences of chapter 7 repeat. Over core Lean alone. -/
namespace Go.Proofs.YtjgmoledhkikcaaDoor
theorem per_sh (h l : List UInt8) (k : Nat) : PerS (shA (atS h l) k) (h.length + k) l.length := by
  have e : shA (atS h l) k = atS (List.replicate k 48 ++ h) l := (funext (sh_at h l k)).symm
  have := per_at (List.replicate k 48 ++ h) l
  rw [e]
  simpa [Nat.add_comm] using this
theorem per_st (h l : List UInt8) {k : Nat} (hk : 1 ≤ k) (hl : l ≠ []) : PerS (stA (atS h l) k) (h.length * k) (l.length * k) := by
  have e : stA (atS h l) k = atS (strL h k) (strL l k) := (funext (st_at h l hk hl)).symm
  have := per_at (strL h k) (strL l k)
  rw [e]
  rwa [str_len h hk, str_len l hk] at this
theorem per_pr0 (f : Nat) : PerS (prA f 0) (f + 1) 1 := by
  have e : prA f 0 = atS (List.replicate f 48 ++ [49]) [48] := (funext (pr_at0 f)).symm
  have := per_at (List.replicate f 48 ++ [49]) [48]
  rw [e]
  simpa using this
theorem per_pr1 (f : Nat) {s : Nat} (hs : 1 ≤ s) : PerS (prA f s) f s := by
  have e : prA f s = atS (List.replicate f 48) (49 :: List.replicate (s - 1) 48) := (funext fun n => pr_at1 f s n hs).symm
  have := per_at (List.replicate f 48) (49 :: List.replicate (s - 1) 48)
  rw [e]
  rw [List.length_replicate, List.length_cons, List.length_replicate, show s - 1 + 1 = s by omega] at this
  exact this
/-- Of multiples: the head is divided and rounded up, the loop is divided by what it has in common with the factor. -/
theorem per_dv2 {a : Nat → UInt8} {N p k M q : Nat} (ha : PerS a N p) (hM : N ≤ k * M) (hq : p ∣ k * q) : PerS (dvA a k) M q := fun n hn => by
  unfold dvA
  obtain ⟨c, hc⟩ := hq
  have hkn : k * M ≤ k * n := Nat.mul_le_mul_left k hn
  rw [Nat.mul_add, hc, Nat.mul_comm p c, per_mul ha c _ (by omega)]
theorem dvd_gcd (p k : Nat) : p ∣ k * (p / Nat.gcd p k) := by
  obtain ⟨x, hx⟩ := Nat.gcd_dvd_left p k
  obtain ⟨y, hy⟩ := Nat.gcd_dvd_right p k
  rcases Nat.eq_zero_or_pos (Nat.gcd p k) with h0 | h0
  · have : p = 0 := Nat.eq_zero_of_gcd_eq_zero_left h0
    subst this
    simp
  · have e : p / Nat.gcd p k = x := by conv => lhs; arg 1; rw [hx]
                                       exact Nat.mul_div_cancel_left _ h0
    rw [e]
    exact ⟨y, by conv => rhs; rw [hx]
                 conv => lhs; rw [hy]
                 rw [Nat.mul_right_comm]⟩
theorem lcm_both (p q : Nat) : p ∣ p / Nat.gcd p q * q ∧ q ∣ p / Nat.gcd p q * q := by
  refine ⟨?_, ⟨p / Nat.gcd p q, Nat.mul_comm _ _⟩⟩
  have := dvd_gcd p q
  rwa [Nat.mul_comm] at this
theorem lcm_pos {p q : Nat} (hp : 0 < p) (hq : 0 < q) : 0 < p / Nat.gcd p q * q := by
  have := Nat.div_pos (Nat.gcd_le_left q hp) (Nat.gcd_pos_of_pos_left q hp)
  exact Nat.mul_pos this hq
theorem lcm_le (p q : Nat) : p / Nat.gcd p q * q ≤ p * q := Nat.mul_le_mul_right q (Nat.div_le_self _ _)
/-- Sums repeat after what both parts repeat after. -/
theorem sum_per2 {a b : Nat → UInt8} {N M m : Nat} (ha : PerS a N m) (hb : PerS b M m) (n : Nat) (hn : N + M + m ≤ n) : sumB a b (n + m) = sumB a b n := by
  have ha' : ∀ i, N ≤ i → inS a (i + m) = inS a i := fun i hi => by unfold inS; rw [ha i hi]
  have hb' : ∀ i, M ≤ i → inS b (i + m) = inS b i := fun i hi => by unfold inS; rw [hb i hi]
  rw [Bool.eq_iff_iff, sumB_iff, sumB_iff]
  constructor
  · rintro ⟨i, j, e, h1, h2⟩
    by_cases hi : N + m ≤ i
    · refine ⟨i - m, j, by omega, ?_, h2⟩
      rw [← ha' (i - m) (by omega), show i - m + m = i by omega]
      exact h1
    · by_cases hj : M + m ≤ j
      · refine ⟨i, j - m, by omega, h1, ?_⟩
        rw [← hb' (j - m) (by omega), show j - m + m = j by omega]
        exact h2
      · omega
  · rintro ⟨i, j, e, h1, h2⟩
    by_cases hi : N ≤ i
    · exact ⟨i + m, j, by omega, by rw [ha' i hi]; exact h1, h2⟩
    · exact ⟨i, j + m, by omega, h1, by rw [hb' j (by omega)]; exact h2⟩
theorem per_sm2 {a b : Nat → UInt8} {N M m : Nat} (ha : PerS a N m) (hb : PerS b M m) : PerS (smA a b) (N + M + m) m := fun n hn => by
  unfold smA
  rw [sum_per2 ha hb n hn]
/-- What is made of the first numbers of a sequence of bits. -/
theorem res_of {f : Nat → Bool} {N p : Nat} (hp0 : 0 < p) (hp : PerS (fun n => bitS (f n)) N p) {H L : List UInt8} (hH : H = rawH (fun n => bitS (f n)) N) (hL : L = rawL (fun n => bitS (f n)) N p) :
    atS H L = fun n => bitS (f n) := by
  rw [hH, hL]
  exact raw_at hp0 hp
theorem and_self' (a : Nat → UInt8) : (fun n => bitS (!inS a n)) = notA a := rfl
theorem bits_res {a : Nat → UInt8} (h : Bits a) : (fun n => bitS (inS a n)) = a := by
  funext n
  exact bits_in h n
theorem bits_sh {a : Nat → UInt8} (h : Bits a) (k : Nat) : Bits (shA a k) := fun n => by
  unfold shA
  split
  · exact .inl rfl
  · exact h _
theorem bits_st {a : Nat → UInt8} (h : Bits a) (k : Nat) : Bits (stA a k) := fun n => by
  unfold stA
  split
  · exact h _
  · exact .inl rfl
theorem bits_dv {a : Nat → UInt8} (h : Bits a) (k : Nat) : Bits (dvA a k) := fun _ => h _
theorem in_sh (a : Nat → UInt8) (k n : Nat) : inS (shA a k) n = (decide (k ≤ n) && inS a (n - k)) := by
  unfold inS shA
  by_cases h : n < k
  · rw [if_pos h, decide_eq_false (by omega)]
    rfl
  · rw [if_neg h, decide_eq_true (by omega), Bool.true_and]
theorem in_st (a : Nat → UInt8) (k n : Nat) : inS (stA a k) n = (decide (n % k = 0) && inS a (n / k)) := by
  unfold inS stA
  by_cases h : n % k = 0
  · rw [if_pos h, decide_eq_true h, Bool.true_and]
  · rw [if_neg h, decide_eq_false h]
    rfl
end Go.Proofs.YtjgmoledhkikcaaDoor
