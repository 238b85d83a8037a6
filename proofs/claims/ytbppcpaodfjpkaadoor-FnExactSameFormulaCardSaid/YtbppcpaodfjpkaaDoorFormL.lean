/- Contracts of l3Nested, NestedCount and IsOpen of the model and of the program. -/
import Derived.Test.YtbppcpaodfjpkaaDoorFormK
namespace Go.Proofs.YtbppcpaodfjpkaaDoor
open Go.RowKit

theorem own_kind {h : FH} {len : Nat} (ho : ownB h len = true) : (len = 0 ∧ (h.k = 0 ∨ h.k = 1 ∨ h.k = 2)) ∨ (len = 1 ∧ (h.k = 3 ∨ h.k = 6 ∨ h.k = 7)) ∨ (len = 2 ∧ (h.k = 4 ∨ h.k = 5)) := by
  unfold ownB at ho
  simp only [Bool.and_eq_true, decide_eq_true_eq] at ho
  have hl := ho.2
  unfold subsI at hl
  split at hl
  · exact .inl ⟨by omega, by assumption⟩
  · split at hl
    · exact .inr (.inl ⟨by omega, by assumption⟩)
    · split at hl
      · exact .inr (.inr ⟨by omega, by assumption⟩)
      · omega

def NeR (h : FH) (f : Fo) (b o lo : Nat) (w : World) (s n i : Value) (wr : World) : Prop :=
  ∃ (k m : Nat) (r : Fo), i = .int .i64 k ∧ n = .int .i64 m ∧ k + r.len = f.len ∧ r.size ≤ f.size ∧ m ≤ f.size ∧ max m r.nst = f.nst ∧ FEl w lo r b (o + k * 10) ∧ Below w.heap.size w wr ∧ C10 wr w.heap.size h s

end Go.Proofs.YtbppcpaodfjpkaaDoor
