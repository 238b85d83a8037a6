/- What the model draws for the law on multiples of a term. -/
import Derived.Test.YtcgolbkpfncgpaaDraw8
namespace Go.Proofs.Ytcgolbkpfncgpaa
open Go.RowKit

/-- num over a list of numbers that was made just now, behind a draw of an order. -/
theorem num_newd (r : Nat) (p : Int) (L : List Int) (N : Nat) (C : Array Value) (w : World) (h : Rd w r p) (hp : p ≤ 1000000) (hN : N = L.length) (hC : C = (L.map (Value.int .i64)).toArray) (hL : 1 ≤ L.length) (hM : L.length ≤ 1000) :
    Calls Try.prog 102 #[.pointer (some ⟨r, 0, none⟩), .slice (some ⟨w.heap.size, 0, none⟩) N N] (w.alloc (.cells C 3)).drew (NumN r p L w) := by
  subst hN hC
  have hb : Below w.heap.size w (w.alloc (.cells (L.map (Value.int .i64)).toArray 3)) := by go_grown
  have hr : r < w.heap.size := by obtain ⟨_, _, _, _, _, _, hr, _⟩ := h; exact hr
  exact (num_t r w.heap.size p L _ (rd_drew (rd_on h hb)) hp hL hM (by simp) (by omega) (row_cell w _ L)).mono fun _ _ ⟨x, he, hx, ht⟩ => ⟨x, he, hx, below_turned hb (turned_drew ht)⟩
theorem num_newn (r k : Nat) (p : Int) (L : List Int) (N : Nat) (C : Array Value) (w : World) (h : Rd w r p) (hp : p ≤ 1000000) (hN : N = L.length) (hC : C = (L.map (Value.int .i64)).toArray) (hL : 1 ≤ L.length) (hM : L.length ≤ 1000) :
    Calls Try.prog 102 #[.pointer (some ⟨r, 0, none⟩), .slice (some ⟨w.heap.size, 0, none⟩) N N] ((w.alloc (.cells C 3)).drewN k) (NumN r p L w) := by
  subst hN hC
  have hb : Below w.heap.size w (w.alloc (.cells (L.map (Value.int .i64)).toArray 3)) := by go_grown
  have hr : r < w.heap.size := by obtain ⟨_, _, _, _, _, _, hr, _⟩ := h; exact hr
  exact (num_t r w.heap.size p L _ (rd_drewN (rd_on h hb)) hp hL hM (by simp) (by omega) (row_cell w _ L)).mono fun _ _ ⟨x, he, hx, ht⟩ => ⟨x, he, hx, below_turned hb (turned_drewN ht)⟩

end Go.Proofs.Ytcgolbkpfncgpaa
