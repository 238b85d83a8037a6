/- What the model draws for the laws of chapter 1: some terms, points and numbers of the kind int; only the reader has turned. -/
import Derived.Test.YtkhnninnmpffmaaDoorDraw2
import Derived.Test.YtkhnninnmpffmaaDoorSpecB
import Derived.Test.YtkhnninnmpffmaaDoorLawB
namespace Go.Proofs.YtkhnninnmpffmaaDoor
open Go.RowKit

def TermT (r : Nat) (p K : Int) (w : World) (e : Ending) (w' : World) : Prop := ∃ a b c d n : Int, e = .returned (.agg #[.int .i64 a, .int .i64 b, .int .i64 c, .int .i64 d, .int .i64 n]) ∧ Turned r p K w w'
def PointT (r : Nat) (p K : Int) (w : World) (e : Ending) (w' : World) : Prop := ∃ a b c d : Int, e = .returned (.agg #[.int .i64 a, .int .i64 b, .int .i64 c, .int .i64 d]) ∧ Turned r p K w w'
def IntD (r : Nat) (p K : Int) (w : World) (e : Ending) (w' : World) : Prop := ∃ x : Int, e = .returned (.int .i64 x) ∧ Turned r p K w w'

theorem turned_trans {r : Nat} {p K K' : Int} {w w1 w2 : World} (h : Turned r p K w w1) (k : ∀ q, p ≤ q → q ≤ p + K → Rd w1 r q → Turned r q K' w1 w2) : Turned r p (K + K') w w2 := by
  obtain ⟨hg, q, q0, q1, hR⟩ := h
  obtain ⟨hg2, s, s0, s1, hS⟩ := k q q0 q1 hR
  exact ⟨only_trans hg hg2, s, by omega, by omega, hS⟩

theorem turned_two {r : Nat} {p q K K' : Int} {w w1 w2 : World} (h : Turned r p K w w1) (_hR : Rd w1 r q) (k : Turned r q K' w1 w2) (q0 : p ≤ q) (q1 : q ≤ p + K) : Turned r p (K + K') w w2 := by
  obtain ⟨hg2, s, s0, s1, hS⟩ := k
  exact ⟨only_trans h.1 hg2, s, by omega, by omega, hS⟩

theorem turned_below {r : Nat} {p K : Int} {w w1 w2 : World} (h : Turned r p K w w1) (hb : Below w1.heap.size w1 w2) : Turned r p K w w2 := by
  obtain ⟨hg, q, q0, q1, hR⟩ := h
  exact ⟨only_trans hg (only_below hb _), q, q0, q1, rd_on hR hb⟩

theorem below_turned {r : Nat} {p K : Int} {w w1 w2 : World} (hb : Below w.heap.size w w1) (h : Turned r p K w1 w2) : Turned r p K w w2 := by
  obtain ⟨hg, q, q0, q1, hR⟩ := h
  exact ⟨only_trans (only_below hb _) hg, q, q0, q1, hR⟩

def NumN (r : Nat) (p : Int) (L : List Int) (w : World) (e : Ending) (w' : World) : Prop := ∃ x : Int, e = .returned (.int .i64 x) ∧ x ∈ L ∧ Turned r p 1 w w'

theorem row_cell (w : World) (t : TypeId) : ∀ (L : List Int) (i : Nat) (x : Int), L[i]? = some x → (w.alloc (.cells (L.map (Value.int .i64)).toArray t)).cell? ⟨w.heap.size, i, none⟩ = some (.int .i64 x) := by
  intro L i x h
  have hi : i < L.length := (List.getElem?_eq_some_iff.1 h).1
  have hx : L[i] = x := (List.getElem?_eq_some_iff.1 h).2
  simp [World.cell?_alloc_new, hi, hx]

/-- num over a list of numbers that was made just now. -/
theorem num_new (r : Nat) (p : Int) (L : List Int) (N : Nat) (C : Array Value) (w : World) (h : Rd w r p) (hp : p ≤ 1000000) (hN : N = L.length) (hC : C = (L.map (Value.int .i64)).toArray) (hL : 1 ≤ L.length) (hM : L.length ≤ 1000) :
    Calls Tryd.prog 24 #[.pointer (some ⟨r, 0, none⟩), .slice (some ⟨w.heap.size, 0, none⟩) N N] (w.alloc (.cells C 3)) (NumN r p L w) := by
  subst hN hC
  have hb : Below w.heap.size w (w.alloc (.cells (L.map (Value.int .i64)).toArray 3)) := by go_grown
  have hr : r < w.heap.size := by obtain ⟨_, _, _, _, _, _, hr, _⟩ := h; exact hr
  exact (num_t r w.heap.size p L _ (rd_on h hb) hp hL hM (by simp) (by omega) (row_cell w _ L)).mono fun _ _ ⟨x, he, hx, ht⟩ => ⟨x, he, hx, below_turned hb ht⟩

theorem rd_lt {w : World} {r : Nat} {p : Int} (h : Rd w r p) : r < w.heap.size := by
  obtain ⟨_, _, _, _, _, _, hr, _⟩ := h
  exact hr

theorem rd_put {w : World} {r b o : Nat} {p : Int} {v : Value} (h : Rd w r p) (hb : r < b) : Rd (w.setCell ⟨b, o, none⟩ v) r p := by
  obtain ⟨q, n, cap, sp, rfl, hn, hr, hr0, hr1, hfr, hu⟩ := h
  refine ⟨q, n, cap, sp, rfl, hn, by simpa [World.setCell] using hr, (cell_far (Nat.ne_of_lt hb)).trans hr0, (cell_far (Nat.ne_of_lt hb)).trans hr1, by simp [go_sem, hfr], ?_⟩
  rcases hu with h0 | ⟨b', off, he, hbr, hu⟩
  · exact Or.inl h0
  · refine Or.inr ⟨b', off, he, hbr, fun i hi => ?_⟩
    obtain ⟨u, hc, hu0, hu1⟩ := hu i hi
    exact ⟨u, (cell_far (by omega)).trans hc, hu0, hu1⟩

theorem turned_put {w w' : World} {r b o : Nat} {p K : Int} {v : Value} (h : Turned r p K w w') (hr : r < w.heap.size) (hb : w.heap.size ≤ b) : Turned r p K w (w'.setCell ⟨b, o, none⟩ v) := by
  obtain ⟨hg, q, q0, q1, hR⟩ := h
  refine ⟨⟨hg.os, hg.tape, hg.output, by simpa [World.setCell] using hg.size, fun i hi hne => ?_⟩, q, q0, q1, rd_put hR (by omega)⟩
  exact (Below.heap_setCell w' ⟨b, o, none⟩ v i (by rintro rfl; exact Nat.lt_irrefl _ (Nat.lt_of_lt_of_le hi hb))).trans (hg.block i hi hne)

theorem turned_more {r : Nat} {p K K' : Int} {w w' : World} (h : Turned r p K w w') (hK : K ≤ K') : Turned r p K' w w' := by
  obtain ⟨hg, q, q0, q1, hR⟩ := h
  exact ⟨hg, q, q0, by omega, hR⟩

theorem turned_none {r : Nat} {p : Int} {w : World} (h : Rd w r p) : Turned r p 0 w w := ⟨only_below (Below.refl _ _) _, p, by omega, by omega, h⟩

end Go.Proofs.YtkhnninnmpffmaaDoor
