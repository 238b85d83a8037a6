/- The text of a system, of the program and of the model. -/
import Derived.Test.YtjgmoledhkikcaaDoorSyA
import Derived.Test.YtjgmoledhkikcaaDoorTxE
import Derived.Test.YtjgmoledhkikcaaDoorJnT
import Derived.Lib.Join
namespace Go.Proofs.YtjgmoledhkikcaaDoor
open Go.RowKit

theorem jn_snoc {xs : List (List UInt8)} (y sep : List UInt8) (h : xs ≠ []) : Lib.join (xs ++ [y]) sep = Lib.join xs sep ++ (sep ++ y) := by
  cases xs with
  | nil => exact absurd rfl h
  | cons x r => rw [List.cons_append, Lib.join_cons, Lib.join_cons]; simp [Lib.joinTail, List.append_assoc]
theorem jn_len {K : Nat} (sep : List UInt8) : ∀ xs : List (List UInt8), (∀ x ∈ xs, x.length ≤ K) → (Lib.join xs sep).length ≤ (K + sep.length) * xs.length
  | [], _ => by simp [Lib.join_nil]
  | x :: r, h => by
    have : ∀ r : List (List UInt8), (∀ x ∈ r, x.length ≤ K) → (Lib.joinTail sep r).length ≤ (K + sep.length) * r.length := by
      intro r
      induction r with
      | nil => intro _; simp [Lib.joinTail]
      | cons y r ih =>
        intro h
        have h1 := ih (fun x hx => h x (List.mem_cons_of_mem _ hx))
        have h2 := h y (List.mem_cons_self ..)
        simp only [Lib.joinTail, List.map_cons, List.flatten_cons, List.length_append, List.length_cons, Nat.mul_succ] at h1 ⊢
        omega
    have h1 := this r (fun x hx => h x (List.mem_cons_of_mem _ hx))
    have h2 := h x (List.mem_cons_self ..)
    rw [Lib.join_cons, List.length_append, List.length_cons, Nat.mul_succ]
    omega

def taX (x : AtD) : List UInt8 := taL x.k x.m x.a x.b x.c x.d x.n
def jnT (L : List AtD) : List UInt8 := Lib.join (L.map taX) [32]
def fsyT (L : List AtD) : List UInt8 := if syB L = true then (if L = [] then [45] else jnT L) else []
theorem ta_len (x : AtD) : (taX x).length ≤ 140 := by
  unfold taX taL
  have h := tf_len x.a x.b x.c x.d x.n
  split
  · rename_i hv
    have hm := (avB_cases hv).1
    have h2 : (Lib.itoa x.m).length ≤ 21 := Lib.itoa_length_le x.m (by omega) (by omega)
    split
    · simp; omega
    · split
      · simp; omega
      · split <;> simp <;> omega
  · simp
theorem ta_ne {x : AtD} (h : avF x = true) : taX x ≠ [] := by
  unfold taX taL
  rw [if_pos (show avB x.k x.m x.a x.b x.c x.d x.n = true from h)]
  split
  · simp
  · split
    · simp
    · split <;> simp
theorem jnT_len (L : List AtD) : (jnT L).length ≤ 141 * L.length := by
  have := jn_len (K := 140) [32] (L.map taX) (fun x hx => by obtain ⟨y, _, rfl⟩ := List.mem_map.1 hx; exact ta_len y)
  simpa [jnT] using this
theorem jnT_snoc {L : List AtD} {k : Nat} {y : AtD} (h : L[k]? = some y) (hk : 0 < k) : jnT (L.take (k + 1)) = jnT (L.take k) ++ (32 :: taX y) := by
  unfold jnT
  rw [take_snoc h, List.map_append, List.map_cons, List.map_nil, jn_snoc _ _ (by
    have hl := (List.getElem?_eq_some_iff.1 h).1
    intro e
    have := congrArg List.length e
    rw [List.length_map, List.length_take, List.length_nil] at this
    omega)]
  rfl
theorem jnT_one {L : List AtD} {y : AtD} (h : L[0]? = some y) : jnT (L.take 1) = taX y := by
  have := take_snoc h
  rw [show (0 + 1) = 1 from rfl] at this
  unfold jnT
  rw [this]
  simp [Lib.join_one]
theorem jnT_ne {L : List AtD} (h : L ≠ []) (hv : ∀ x ∈ L, avF x = true) : jnT L ≠ [] := by
  cases L with
  | nil => exact absurd rfl h
  | cons x r =>
    unfold jnT
    rw [List.map_cons, Lib.join_cons]
    intro e
    exact ta_ne (hv x (List.mem_cons_self ..)) (List.append_eq_nil_iff.1 e).1
theorem sy_av {L : List AtD} (h : syB L = true) : ∀ x ∈ L, avF x = true := fun x hx => by
  unfold syB at h
  rw [Bool.and_eq_true] at h
  exact s1_av (List.all_eq_true.1 h.1 x hx)
theorem sy_len {L : List AtD} (h : syB L = true) : L.length ≤ 40 := by
  unfold syB at h
  rw [Bool.and_eq_true, decide_eq_true_eq] at h
  exact h.2

def CxR (L : List AtD) (n : Nat) (w : World) (v i : Value) (wr : World) : Prop :=
  ∃ k : Nat, i = .int .i64 k ∧ k ≤ n ∧ OwnT wr w.heap.size v ((L.take k).map taX) ∧ Below w.heap.size w wr

end Go.Proofs.YtjgmoledhkikcaaDoor
