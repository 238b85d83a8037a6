/- What the model draws as a term: l1Some, l1Open. -/
import Derived.Test.YtbjmnbpomgaioaaDraw4
namespace Go.Proofs.Ytbjmnbpomgaioaa
open Go.RowKit

/-- While l1Some fills its list: the list, the box of its result, and that only the reader has turned. -/
def LS (w : World) (r : Nat) (p K : Int) (z bl : Nat) (W : World) : Prop :=
  (∃ a b c d n : Int, C5 W bl a b c d n) ∧ Hid (∀ o, W.frozen? ⟨bl, o, none⟩ = false) ∧ C5 W z 0 0 0 0 0 ∧ Hid (∀ o, W.frozen? ⟨z, o, none⟩ = false) ∧ Turned r p K w W ∧ r ≠ bl ∧ r ≠ z ∧ z ≠ bl ∧ w.heap.size ≤ bl ∧ r < w.heap.size

theorem ls_call {w W W' : World} {r z bl : Nat} {p q K K' : Int} (h : LS w r p K z bl W) (ht : Turned r q K' W W') (hR : Rd W r q) (q0 : p ≤ q) (q1 : q ≤ p + K) : LS w r p (K + K') z bl W' := by
  obtain ⟨⟨a, b, c, d, n, h5⟩, hf, hz, hfz, h1, e1, e2, e3, e4, e5⟩ := h
  exact ⟨⟨a, b, c, d, n, c5_only h5 ht.1 (Ne.symm e1)⟩, fz_only hf ht.1 h5.1 (Ne.symm e1), c5_only hz ht.1 (Ne.symm e2), fz_only hfz ht.1 hz.1 (Ne.symm e2), turned_two h1 hR ht q0 q1, e1, e2, e3, e4, e5⟩

theorem ls_store {w W : World} {r z bl o : Nat} {p K v : Int} (h : LS w r p K z bl W) : LS w r p K z bl (W.setCell ⟨bl, o, none⟩ (.int .i64 v)) := by
  obtain ⟨h5, hf, hz, hfz, h1, e1, e2, e3, e4, e5⟩ := h
  refine ⟨c5_store h5, fun i => by simp [go_sem, hf.out i], ?_, fun i => by simp [go_sem, hfz.out i], turned_put h1 e5 e4, e1, e2, e3, e4, e5⟩
  obtain ⟨g0, g1, g2, g3, g4, g5⟩ := hz
  exact ⟨by simpa [World.setCell] using g0, (cell_far e3).trans g1, (cell_far e3).trans g2, (cell_far e3).trans g3, (cell_far e3).trans g4, (cell_far e3).trans g5⟩

theorem ls_more {w W : World} {r z bl : Nat} {p K K' : Int} (h : LS w r p K z bl W) (hK : K ≤ K') : LS w r p K' z bl W := by
  obtain ⟨h5, hf, hz, hfz, h1, e⟩ := h
  exact ⟨h5, hf, hz, hfz, turned_more h1 hK, e⟩

theorem ls_rd {w W : World} {r z bl : Nat} {p K : Int} (h : LS w r p K z bl W) : ∃ q, p ≤ q ∧ q ≤ p + K ∧ Rd W r q := by
  obtain ⟨_, _, _, _, ⟨_, q, q0, q1, hR⟩, _⟩ := h
  exact ⟨q, q0, q1, hR⟩

def LSn (w : World) (r : Nat) (p : Int) (z bl : Nat) (v : Value) (W : World) : Prop := ∃ k : Nat, k ≤ 3 ∧ v = .int .i64 k ∧ LS w r p (8 - 2 * k) z bl W

end Go.Proofs.Ytbjmnbpomgaioaa
