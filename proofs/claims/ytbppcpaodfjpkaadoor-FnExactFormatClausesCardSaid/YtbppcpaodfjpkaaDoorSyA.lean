/- Systems, of the program and of the model: which lists of atoms are systems, with and without equations; quotients rounded up. -/
import Derived.Test.YtbppcpaodfjpkaaDoorAtX
import Derived.Test.YtbppcpaodfjpkaaDoorIm
import Derived.Test.YtbppcpaodfjpkaaDoorSyM
import Derived.Laws.EntriesVeiled
namespace Go.Proofs.YtbppcpaodfjpkaaDoor
open Go.RowKit

/-- An atom that a system may have. -/
def s1 (x : AtD) : Bool := avF x && (x.k == 0 || x.k == 1)
/-- Whether atoms are a system. -/
def syB (L : List AtD) : Bool := L.all s1 && decide (L.length ≤ 40)
def notEq (x : AtD) : Bool := !(x.k == 1)
/-- Whether atoms are a system without equations. -/
def spB (L : List AtD) : Bool := syB L && L.all notEq

theorem pall_at {p : AtD → Bool} {L : List AtD} {k : Nat} {y : AtD} (h : L[k]? = some y) (hy : p y = false) : L.all p = false := by
  rw [List.all_eq_false]
  exact ⟨y, List.mem_of_getElem? h, by simp [hy]⟩
theorem pall_of {p : AtD → Bool} {L : List AtD} (h : ∀ (i : Nat) (x : AtD), i < L.length → L[i]? = some x → p x = true) : L.all p = true := by
  rw [List.all_eq_true]
  intro x hx
  obtain ⟨i, hi, e⟩ := List.mem_iff_getElem.1 hx
  exact h i x hi (by rw [List.getElem?_eq_getElem hi, e])
theorem pall_next {p : AtD → Bool} {L : List AtD} {k : Nat} {y : AtD} (hy : L[k]? = some y) (hp : p y = true) (h : ∀ (i : Nat) (x : AtD), i < k → L[i]? = some x → p x = true) :
    ∀ (i : Nat) (x : AtD), i < k + 1 → L[i]? = some x → p x = true := fun i x h1 h2 => by
  by_cases hik : i < k
  · exact h i x hik h2
  · obtain rfl : i = k := by omega
    rw [h2] at hy
    obtain rfl := Option.some.inj hy
    exact hp
theorem va_bl {a b : Bool} (h : a = b) : Ending.returned (.bool a) = .returned (.bool b) := by rw [h]
theorem s1_av {x : AtD} (h : s1 x = true) : avF x = true := by unfold s1 at h; rw [Bool.and_eq_true] at h; exact h.1
theorem s1_off {x : AtD} (h : avF x = false) : s1 x = false := by unfold s1; rw [h]; rfl
theorem s1_on {x : AtD} (h : avF x = true) : s1 x = (x.k == 0 || x.k == 1) := by unfold s1; rw [h]; rfl
theorem av_kind {x : AtD} (h : avF x = true) : 0 ≤ x.k ∧ x.k ≤ 3 := by
  obtain ⟨hk, _⟩ := avB_cases h
  omega

end Go.Proofs.YtbppcpaodfjpkaaDoor
