/- The text of steps: data. -/
import Derived.Test.YtbppcpaodfjpkaaDoorSvM
import Derived.Test.YtbppcpaodfjpkaaDoorStp
import Derived.Test.YtbppcpaodfjpkaaDoorTxA
import Derived.Lib.Join
namespace Go.Proofs.YtbppcpaodfjpkaaDoor
open Go.RowKit

theorem svR_len : ∀ (F T : List Int) (l n : Int), svR l n F T = true → (F.length : Int) ≤ max (n - l) 0
  | [], _, _, _, _ => by simp; omega
  | x :: F, [], _, _, h => by simp [svR] at h
  | x :: F, t :: T, l, n, h => by
    simp only [svR, Bool.and_eq_true, decide_eq_true_eq] at h
    have := svR_len F T (x + 1) n h.2
    simp only [List.length_cons]
    omega
theorem svR_mem : ∀ (F T : List Int) (l n : Int), svR l n F T = true → ∀ (k : Nat) (x t : Int), F[k]? = some x → T[k]? = some t → l ≤ x ∧ x < n ∧ 1 ≤ t ∧ t ≤ 1000
  | [], _, _, _, _ => fun k x t h => by simp at h
  | x :: F, [], _, _, h => by simp [svR] at h
  | x :: F, t :: T, l, n, h => by
    simp only [svR, Bool.and_eq_true, decide_eq_true_eq] at h
    intro k y u hy hu
    cases k with
    | zero =>
      simp at hy hu
      omega
    | succ k =>
      have := svR_mem F T (x + 1) n h.2 k y u (by simpa using hy) (by simpa using hu)
      omega
/-- A pair's text: how often, and the number of the line. -/
def prT (n t : Int) : List UInt8 := (Lib.itoa t ++ [120]) ++ Lib.itoa n
def prL (x : SpD) : List (List UInt8) := List.zipWith prT x.f x.t
def stT (x : SpD) : List UInt8 := Lib.join (prL x) [43]
def jpT (LL : List SpD) : List UInt8 := Lib.join (LL.map stT) [32]
def pvL : Int → List SpD → Bool
  | _, [] => true
  | k, x :: r => svB x.f x.t k && pvL (k + 1) r
def pfB (LL : List SpD) : Bool := decide (LL.length ≤ 200) && pvL 44 LL
def fpT (LL : List SpD) : List UInt8 := if pfB LL = true then (if LL = [] then [45] else jpT LL) else []
theorem fp_off {LL : List SpD} (h : pfB LL = false) : fpT LL = [] := by unfold fpT; rw [if_neg (by rw [h]; decide)]
theorem fp_nil {LL : List SpD} (h : pfB LL = true) (h0 : LL = []) : fpT LL = [45] := by unfold fpT; rw [if_pos h, if_pos h0]
theorem fp_on {LL : List SpD} (h : pfB LL = true) (h0 : LL ≠ []) : fpT LL = jpT LL := by unfold fpT; rw [if_pos h, if_neg h0]
theorem pvL_at {k : Int} {LL : List SpD} {i : Nat} {x : SpD} (h : LL[i]? = some x) : pvL k (LL.drop i) = (svB x.f x.t k && pvL (k + 1) (LL.drop (i + 1))) := by
  have h1 := List.getElem?_eq_some_iff.1 h
  rw [List.drop_eq_getElem_cons h1.1, h1.2]
  rfl
theorem pvL_end {k : Int} {LL : List SpD} {i : Nat} (h : LL.length ≤ i) : pvL k (LL.drop i) = true := by
  rw [List.drop_eq_nil_of_le h]
  rfl
theorem pvL_mem : ∀ (LL : List SpD) (k : Int) (i : Nat) (x : SpD), pvL k LL = true → LL[i]? = some x → svB x.f x.t (k + i) = true
  | [], _, _, _, _, h => by simp at h
  | y :: r, k, i, x, h, hx => by
    simp only [pvL, Bool.and_eq_true] at h
    cases i with
    | zero =>
      simp at hx
      subst hx
      simpa using h.1
    | succ i =>
      have := pvL_mem r (k + 1) i x h.2 (by simpa using hx)
      rw [show k + ((i + 1 : Nat) : Int) = k + 1 + (i : Int) by omega]
      exact this
/-- What a valid step is like. -/
def okS (x : SpD) : Prop := x.f ≠ [] ∧ x.f.length = x.t.length ∧ x.f.length ≤ 300 ∧ ∀ (k : Nat) (n t : Int), x.f[k]? = some n → x.t[k]? = some t → 0 ≤ n ∧ n ≤ 300 ∧ 1 ≤ t ∧ t ≤ 1000
theorem okS_of {x : SpD} {k : Int} (h : svB x.f x.t k = true) (hk : k ≤ 300) : okS x := by
  simp only [svB, Bool.and_eq_true, decide_eq_true_eq] at h
  have h1 := svR_len x.f x.t 0 k h.2.2
  refine ⟨fun e => by rw [e] at h; simp at h, h.2.1, by omega, fun i n t hn ht => ?_⟩
  have := svR_mem x.f x.t 0 k h.2.2 i n t hn ht
  omega
theorem pv_parts {LL : List SpD} (h : pfB LL = true) : LL.length ≤ 200 ∧ ∀ x ∈ LL, okS x := by
  simp only [pfB, Bool.and_eq_true, decide_eq_true_eq] at h
  refine ⟨h.1, fun x hx => ?_⟩
  obtain ⟨i, hi⟩ := List.mem_iff_getElem?.1 hx
  have hl := (List.getElem?_eq_some_iff.1 hi).1
  exact okS_of (pvL_mem LL 44 i x h.2 hi) (by omega)
theorem prT_len {n t : Int} (h0 : -1000000 ≤ n) (h1 : n ≤ 1000000) (h2 : -1000000 ≤ t) (h3 : t ≤ 1000000) : (prT n t).length ≤ 50 := by
  have a := Lib.itoa_length_le n (by omega) (by omega)
  have b := Lib.itoa_length_le t (by omega) (by omega)
  simp [prT]
  omega
theorem jn_snocP {xs : List (List UInt8)} (y sep : List UInt8) (h : xs ≠ []) : Lib.join (xs ++ [y]) sep = Lib.join xs sep ++ (sep ++ y) := by
  cases xs with
  | nil => exact absurd rfl h
  | cons x r => rw [List.cons_append, Lib.join_cons, Lib.join_cons]; simp [Lib.joinTail, List.append_assoc]
theorem jn_lenP {K : Nat} (sep : List UInt8) : ∀ xs : List (List UInt8), (∀ x ∈ xs, x.length ≤ K) → (Lib.join xs sep).length ≤ (K + sep.length) * xs.length
  | [], _ => by simp [Lib.join_nil]
  | x :: r, h => by
    have : ∀ r : List (List UInt8), (∀ x ∈ r, x.length ≤ K) → (Lib.joinTail sep r).length ≤ (K + sep.length) * r.length := by
      intro r
      induction r with
      | nil => intro _; simp [Lib.joinTail]
      | cons y r ih =>
        intro h
        have h1 := ih (fun x hx => h x (List.mem_cons_of_mem _ hx))
        have h2 := h y (List.mem_cons_self ..)
        simp only [Lib.joinTail, List.map_cons, List.flatten_cons, List.length_append, List.length_cons, Nat.mul_succ] at h1 ⊢
        omega
    have h1 := this r (fun x hx => h x (List.mem_cons_of_mem _ hx))
    have h2 := h x (List.mem_cons_self ..)
    rw [Lib.join_cons, List.length_append, List.length_cons, Nat.mul_succ]
    omega
theorem prL_at {x : SpD} {k : Nat} {n t : Int} (hn : x.f[k]? = some n) (ht : x.t[k]? = some t) : (prL x)[k]? = some (prT n t) := by
  unfold prL
  rw [List.getElem?_zipWith, hn, ht]
theorem prL_len {x : SpD} (h : x.f.length = x.t.length) : (prL x).length = x.f.length := by
  unfold prL
  rw [List.length_zipWith]
  omega
theorem prL_bd {x : SpD} (h : okS x) : ∀ y ∈ prL x, y.length ≤ 50 := by
  intro y hy
  obtain ⟨k, hk⟩ := List.mem_iff_getElem?.1 hy
  have hl := (List.getElem?_eq_some_iff.1 hk).1
  rw [prL_len h.2.1] at hl
  have h1 : x.f[k]? = some x.f[k] := List.getElem?_eq_getElem hl
  have h2 : x.t[k]? = some (x.t[k]'(by rw [← h.2.1]; exact hl)) := List.getElem?_eq_getElem _
  have h3 := h.2.2.2 k _ _ h1 h2
  rw [prL_at h1 h2] at hk
  obtain rfl := Option.some.inj hk
  exact prT_len (by omega) (by omega) (by omega) (by omega)
theorem stT_len {x : SpD} (h : okS x) : (stT x).length ≤ 51 * 300 := by
  have := jn_lenP (K := 50) [43] (prL x) (prL_bd h)
  rw [prL_len h.2.1] at this
  have h2 := h.2.2.1
  unfold stT
  simp at this
  omega
theorem jn_ne {xs : List (List UInt8)} {sep : List UInt8} (h : xs ≠ []) (h0 : ∀ x ∈ xs, x ≠ []) : Lib.join xs sep ≠ [] := by
  cases xs with
  | nil => exact absurd rfl h
  | cons x r =>
    rw [Lib.join_cons]
    intro e
    exact h0 x (List.mem_cons_self ..) (List.append_eq_nil_iff.1 e).1
theorem prL_ne {x : SpD} (h : okS x) : prL x ≠ [] := fun e => by
  have := prL_len h.2.1
  rw [e] at this
  exact h.1 (List.length_eq_zero_iff.1 this.symm)
theorem stT_ne {x : SpD} (h : okS x) : stT x ≠ [] := by
  refine jn_ne (prL_ne h) fun y hy => ?_
  obtain ⟨k, hk⟩ := List.mem_iff_getElem?.1 hy
  unfold prL at hk
  rw [List.getElem?_zipWith] at hk
  cases h1 : x.f[k]? with
  | none => rw [h1] at hk; simp at hk
  | some a =>
    cases h2 : x.t[k]? with
    | none => rw [h1, h2] at hk; simp at hk
    | some b =>
      rw [h1, h2] at hk
      obtain rfl := Option.some.inj hk
      simp [prT]
theorem jpT_len {LL : List SpD} (h : ∀ x ∈ LL, okS x) : (jpT LL).length ≤ 15301 * LL.length := by
  have := jn_lenP (K := 15300) [32] (LL.map stT) (fun y hy => by obtain ⟨x, hx, rfl⟩ := List.mem_map.1 hy; exact stT_len (h x hx))
  simpa [jpT] using this
theorem take_snocP {α : Type} {L : List α} {k : Nat} {y : α} (h : L[k]? = some y) : L.take (k + 1) = L.take k ++ [y] := by
  rw [List.take_add_one, h]; rfl
theorem take_ne {α : Type} {L : List α} {k : Nat} {y : α} (h : L[k]? = some y) (hk : 0 < k) : L.take k ≠ [] := by
  have hl := (List.getElem?_eq_some_iff.1 h).1
  intro e
  have := congrArg List.length e
  rw [List.length_take, List.length_nil] at this
  omega
theorem jpT_snoc {LL : List SpD} {k : Nat} {x : SpD} (h : LL[k]? = some x) (hk : 0 < k) : jpT (LL.take (k + 1)) = jpT (LL.take k) ++ ([32] ++ stT x) := by
  unfold jpT
  rw [take_snocP h, List.map_append, List.map_cons, List.map_nil, jn_snocP _ _ (by
    intro e
    exact take_ne h hk (List.map_eq_nil_iff.1 e))]
theorem jpT_one {LL : List SpD} {x : SpD} (h : LL[0]? = some x) : jpT (LL.take 1) = stT x := by
  have := take_snocP h
  rw [show (0 + 1) = 1 from rfl] at this
  unfold jpT
  rw [this]
  simp [Lib.join_one]
/-- The text of a step's first pairs. -/
def skT (x : SpD) (k : Nat) : List UInt8 := Lib.join ((prL x).take k) [43]
theorem skT_zero (x : SpD) : skT x 0 = [] := by unfold skT; simp [Lib.join_nil]
theorem skT_one {x : SpD} {n t : Int} (hn : x.f[0]? = some n) (ht : x.t[0]? = some t) : skT x 1 = prT n t := by
  have := take_snocP (prL_at hn ht)
  rw [show (0 + 1) = 1 from rfl] at this
  unfold skT
  rw [this]
  simp [Lib.join_one]
theorem skT_snoc {x : SpD} {k : Nat} {n t : Int} (hn : x.f[k]? = some n) (ht : x.t[k]? = some t) (hk : 0 < k) : skT x (k + 1) = skT x k ++ ([43] ++ prT n t) := by
  unfold skT
  rw [take_snocP (prL_at hn ht), jn_snocP _ _ (take_ne (prL_at hn ht) hk)]
theorem skT_all {x : SpD} (h : x.f.length = x.t.length) : skT x x.f.length = stT x := by
  unfold skT stT
  rw [← prL_len h, List.take_length]
theorem skT_len {x : SpD} (h : okS x) (k : Nat) : (skT x k).length ≤ 51 * 300 := by
  have h1 := jn_lenP (K := 50) [43] ((prL x).take k) (fun y hy => prL_bd h y (List.mem_of_mem_take hy))
  rw [List.length_take, prL_len h.2.1] at h1
  have h2 := h.2.2.1
  unfold skT
  simp at h1
  omega
theorem jpT_ne {LL : List SpD} (h : LL ≠ []) (h0 : ∀ x ∈ LL, okS x) : jpT LL ≠ [] := by
  refine jn_ne (fun e => h (List.map_eq_nil_iff.1 e)) fun y hy => ?_
  obtain ⟨x, hx, rfl⟩ := List.mem_map.1 hy
  exact stT_ne (h0 x hx)
end Go.Proofs.YtbppcpaodfjpkaaDoor
