/- The normal form of a set as a function, and of a sequence that repeats; sums. Over core Lean alone. -/
import Derived.Test.YtkhnninnmpffmaaDoorSetM
namespace Go.Proofs.YtkhnninnmpffmaaDoor
/-- The raw form of a sequence that repeats after p from N on. -/
def rawH (a : Nat → UInt8) (N : Nat) : List UInt8 := (List.range N).map a
def rawL (a : Nat → UInt8) (N p : Nat) : List UInt8 := (List.range p).map fun i => a (N + i)
theorem raw_at {a : Nat → UInt8} {N p : Nat} (hp0 : 0 < p) (hp : PerS a N p) : atS (rawH a N) (rawL a N p) = a := by
  funext n
  unfold atS rawH rawL
  simp only [List.length_map, List.length_range]
  by_cases h : n < N
  · rw [if_pos h, List.getD_eq_getElem?_getD, List.getElem?_map, List.getElem?_range h]
    rfl
  · rw [if_neg h]
    have hk := Nat.mod_lt (n - N) hp0
    rw [List.getD_eq_getElem?_getD, List.getElem?_map, List.getElem?_range hk]
    have h1 := per_mul hp ((n - N) / p) (N + (n - N) % p) (by omega)
    have h2 := Nat.mod_add_div (n - N) p
    rw [Nat.mul_comm] at h2
    rw [show N + (n - N) % p + (n - N) / p * p = n by omega] at h1
    simp [h1]

/-- The normal form of a set. -/
noncomputable def nfS (h l : List UInt8) : List UInt8 × List UInt8 := if hl : l = [] then ([], []) else (Classical.choose (nf_ex h l hl), Classical.choose (Classical.choose_spec (nf_ex h l hl)))
theorem nfS_spec {h l : List UInt8} (hl : l ≠ []) : NFS (nfS h l).1 (nfS h l).2 ∧ (∀ n, atS (nfS h l).1 (nfS h l).2 n = atS h l n) ∧ (nfS h l).1.length ≤ h.length ∧ (nfS h l).2.length ≤ l.length ∧ (∀ x ∈ (nfS h l).1, x ∈ h) ∧ (∀ x ∈ (nfS h l).2, x ∈ l) := by
  unfold nfS
  rw [dif_neg hl]
  exact Classical.choose_spec (Classical.choose_spec (nf_ex h l hl))
theorem nfS_one {h l H L : List UInt8} (hl : l ≠ []) (hn : NFS H L) (e : ∀ n, atS H L n = atS h l n) : nfS h l = (H, L) := by
  obtain ⟨h1, h2, _⟩ := nfS_spec (h := h) hl
  obtain ⟨a, b⟩ := nf_one h1 hn (fun n => by rw [h2, e])
  exact Prod.ext a b
theorem nfS_congr {h l h' l' : List UInt8} (hl : l ≠ []) (hl' : l' ≠ []) (e : ∀ n, atS h l n = atS h' l' n) : nfS h l = nfS h' l' := by
  obtain ⟨h1, h2, _⟩ := nfS_spec (h := h') hl'
  have e2 := nfS_one hl h1 (fun n => (h2 n).trans (e n).symm)
  rw [e2]
theorem nfS_nf {h l : List UInt8} (hn : NFS h l) : nfS h l = (h, l) := nfS_one hn.1 hn fun _ => rfl
theorem nfS_turn {h m : List UInt8} {x : UInt8} : nfS (h ++ [x]) (m ++ [x]) = nfS h (x :: m) := nfS_congr (by simp) (by simp) (at_turn h m x)

open Classical in
/-- The normal form of a sequence that repeats. -/
noncomputable def nfA (a : Nat → UInt8) : List UInt8 × List UInt8 := if h : ∃ h l : List UInt8, l ≠ [] ∧ atS h l = a then nfS (Classical.choose h) (Classical.choose (Classical.choose_spec h)) else ([], [])
theorem nfA_at {h l : List UInt8} (hl : l ≠ []) : nfA (atS h l) = nfS h l := by
  have hex : ∃ h' l' : List UInt8, l' ≠ [] ∧ atS h' l' = atS h l := ⟨h, l, hl, rfl⟩
  unfold nfA
  rw [dif_pos hex]
  obtain ⟨h1, h2⟩ := Classical.choose_spec (Classical.choose_spec hex)
  exact nfS_congr h1 hl fun n => by rw [h2]
theorem nfA_raw {a : Nat → UInt8} {N p : Nat} (hp0 : 0 < p) (hp : PerS a N p) : nfA a = nfS (rawH a N) (rawL a N p) := by
  have hl : rawL a N p ≠ [] := by
    intro e
    have := congrArg List.length e
    simp [rawL] at this
    omega
  conv => lhs; rw [← raw_at hp0 hp]
  exact nfA_at hl
theorem nfA_of {a : Nat → UInt8} {h l : List UInt8} (hl : l ≠ []) (e : ∀ n, atS h l n = a n) : nfA a = nfS h l := by
  have : atS h l = a := funext e
  rw [← this]
  exact nfA_at hl

/-- Sums. -/
def inS (a : Nat → UInt8) (n : Nat) : Bool := a n == 49
def sumB (a b : Nat → UInt8) (n : Nat) : Bool := (List.range (n + 1)).any fun i => inS a i && inS b (n - i)
theorem sumB_iff {a b : Nat → UInt8} {n : Nat} : sumB a b n = true ↔ ∃ i j, i + j = n ∧ inS a i = true ∧ inS b j = true := by
  unfold sumB
  rw [List.any_eq_true]
  constructor
  · rintro ⟨i, hi, h⟩
    rw [List.mem_range] at hi
    rw [Bool.and_eq_true] at h
    exact ⟨i, n - i, by omega, h.1, h.2⟩
  · rintro ⟨i, j, rfl, h1, h2⟩
    exact ⟨i, by rw [List.mem_range]; omega, by rw [h1, Nat.add_sub_cancel_left, h2]; rfl⟩
theorem sum_per {a b : Nat → UInt8} {N M p q : Nat} (ha : PerS a N p) (hb : PerS b M q) (n : Nat) (hn : N + M + p * q ≤ n) : sumB a b (n + p * q) = sumB a b n := by
  have ha' : ∀ i, N ≤ i → inS a (i + p * q) = inS a i := fun i hi => by
    unfold inS
    rw [Nat.mul_comm, per_mul ha q i hi]
  have hb' : ∀ i, M ≤ i → inS b (i + p * q) = inS b i := fun i hi => by
    unfold inS
    rw [per_mul hb p i hi]
  rw [Bool.eq_iff_iff, sumB_iff, sumB_iff]
  constructor
  · rintro ⟨i, j, e, h1, h2⟩
    by_cases hi : N + p * q ≤ i
    · refine ⟨i - p * q, j, by omega, ?_, h2⟩
      rw [← ha' (i - p * q) (by omega), show i - p * q + p * q = i by omega]
      exact h1
    · by_cases hj : M + p * q ≤ j
      · refine ⟨i, j - p * q, by omega, h1, ?_⟩
        rw [← hb' (j - p * q) (by omega), show j - p * q + p * q = j by omega]
        exact h2
      · omega
  · rintro ⟨i, j, e, h1, h2⟩
    by_cases hi : N ≤ i
    · exact ⟨i + p * q, j, by omega, by rw [ha' i hi]; exact h1, h2⟩
    · exact ⟨i, j + p * q, by omega, h1, by rw [hb' j (by omega)]; exact h2⟩
end Go.Proofs.YtkhnninnmpffmaaDoor
