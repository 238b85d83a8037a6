/- For statements whose order is open: boxes of five ints that stay as they are while other memory is made, and the box of the result. -/
import Derived.Test.YtjgmoledhkikcaaDoorBas
import Derived.Deep.RegionHeld3
namespace Go.Proofs.YtjgmoledhkikcaaDoor
open Go.RowKit

/-- The box of the result: five ints at block z, newer than w, that may be written; below it nothing has turned. -/
def ZF (w : World) (z : Nat) (w' : World) : Prop :=
  Below w.heap.size w w' ∧ w.heap.size ≤ z ∧ (∀ o, w'.frozen? ⟨z, o, none⟩ = false) ∧ ∃ c0 c1 c2 c3 c4 : Int, C5 w' z c0 c1 c2 c3 c4

theorem c5_on {W w' : World} {x : Nat} {a b c d n : Int} (h : C5 W x a b c d n) (hb : Below W.heap.size W w') : C5 w' x a b c d n :=
  have f : ∀ o, w'.cell? ⟨x, o, none⟩ = W.cell? ⟨x, o, none⟩ := fun o => (bcell hb).1 x o h.1
  ⟨Nat.lt_of_lt_of_le h.1 hb.size, (f 0).trans h.2.1, (f 1).trans h.2.2.1, (f 2).trans h.2.2.2.1, (f 3).trans h.2.2.2.2.1, (f 4).trans h.2.2.2.2.2⟩

theorem c5_of {W : World} {x : Nat} {a b c d n : Int} (h : W.cell? ⟨x, 0, none⟩ = some (.int .i64 a) ∧ W.cell? ⟨x, 1, none⟩ = some (.int .i64 b) ∧ W.cell? ⟨x, 2, none⟩ = some (.int .i64 c) ∧ W.cell? ⟨x, 3, none⟩ = some (.int .i64 d) ∧ W.cell? ⟨x, 4, none⟩ = some (.int .i64 n)) : C5 W x a b c d n :=
  ⟨World.block_lt_of_cell? W _ h.1, h.1, h.2.1, h.2.2.1, h.2.2.2.1, h.2.2.2.2⟩

theorem c5_to {W : World} {x : Nat} {a b c d n : Int} (h : C5 W x a b c d n) : W.cell? ⟨x, 0, none⟩ = some (.int .i64 a) ∧ W.cell? ⟨x, 1, none⟩ = some (.int .i64 b) ∧ W.cell? ⟨x, 2, none⟩ = some (.int .i64 c) ∧ W.cell? ⟨x, 3, none⟩ = some (.int .i64 d) ∧ W.cell? ⟨x, 4, none⟩ = some (.int .i64 n) := h.2

theorem zf_on {w W w' : World} {z : Nat} (h : ZF w z W) (hb : Below W.heap.size W w') : ZF w z w' := by
  obtain ⟨h1, h2, h3, c0, c1, c2, c3, c4, h4⟩ := h
  exact ⟨h1.trans (hb.mono h1.size), h2, fun o => ((bcell hb).2 z o h4.1).trans (h3 o), c0, c1, c2, c3, c4, c5_on h4 hb⟩

theorem fz_on {W w' : World} {z : Nat} {a b c d n : Int} (h : C5 W z a b c d n) (hf : Hid (∀ o, W.frozen? ⟨z, o, none⟩ = false)) (hb : Below W.heap.size W w') : ∀ o, w'.frozen? ⟨z, o, none⟩ = false :=
  fun o => ((bcell hb).2 z o h.1).trans (hf.out o)

/-- Behind a call that only makes memory. -/
theorem keepC {w W w' : World} {x y z : Nat} {a b c d n a' b' c' d' n' : Int} (h : (W.cell? ⟨x, 0, none⟩ = some (.int .i64 a) ∧ W.cell? ⟨x, 1, none⟩ = some (.int .i64 b) ∧ W.cell? ⟨x, 2, none⟩ = some (.int .i64 c) ∧ W.cell? ⟨x, 3, none⟩ = some (.int .i64 d) ∧ W.cell? ⟨x, 4, none⟩ = some (.int .i64 n)) ∧ (W.cell? ⟨y, 0, none⟩ = some (.int .i64 a') ∧ W.cell? ⟨y, 1, none⟩ = some (.int .i64 b') ∧ W.cell? ⟨y, 2, none⟩ = some (.int .i64 c') ∧ W.cell? ⟨y, 3, none⟩ = some (.int .i64 d') ∧ W.cell? ⟨y, 4, none⟩ = some (.int .i64 n')) ∧ ZF w z W) (hb : Below W.heap.size W w') : (w'.cell? ⟨x, 0, none⟩ = some (.int .i64 a) ∧ w'.cell? ⟨x, 1, none⟩ = some (.int .i64 b) ∧ w'.cell? ⟨x, 2, none⟩ = some (.int .i64 c) ∧ w'.cell? ⟨x, 3, none⟩ = some (.int .i64 d) ∧ w'.cell? ⟨x, 4, none⟩ = some (.int .i64 n)) ∧ (w'.cell? ⟨y, 0, none⟩ = some (.int .i64 a') ∧ w'.cell? ⟨y, 1, none⟩ = some (.int .i64 b') ∧ w'.cell? ⟨y, 2, none⟩ = some (.int .i64 c') ∧ w'.cell? ⟨y, 3, none⟩ = some (.int .i64 d') ∧ w'.cell? ⟨y, 4, none⟩ = some (.int .i64 n')) ∧ ZF w z w' :=
  ⟨(c5_on (c5_of h.1) hb).2, (c5_on (c5_of h.2.1) hb).2, zf_on h.2.2 hb⟩

def put5 (w : World) (z : Nat) (v0 v1 v2 v3 v4 : Value) : World := ((((w.setCell ⟨z, 0, none⟩ v0).setCell ⟨z, 1, none⟩ v1).setCell ⟨z, 2, none⟩ v2).setCell ⟨z, 3, none⟩ v3).setCell ⟨z, 4, none⟩ v4

theorem cell_far {w : World} {z o x i : Nat} {v : Value} (h : x ≠ z) : (w.setCell ⟨z, o, none⟩ v).cell? ⟨x, i, none⟩ = w.cell? ⟨x, i, none⟩ :=
  World.cell?_setCell_far w _ _ v (by simpa using Ne.symm h)

theorem c5_put {W : World} {x z : Nat} {a b c d n : Int} {v0 v1 v2 v3 v4 : Value} (h : C5 W x a b c d n) (hne : x ≠ z) : C5 (put5 W z v0 v1 v2 v3 v4) x a b c d n := by
  obtain ⟨h0, h1, h2, h3, h4, h5⟩ := h
  refine c5_of ⟨?_, ?_, ?_, ?_, ?_⟩ <;> unfold put5 <;> simp only [cell_far hne] <;> assumption

theorem zf_put {w W : World} {z : Nat} {e0 e1 e2 e3 e4 : Int} (h : ZF w z W) : ZF w z (put5 W z (.int .i64 e0) (.int .i64 e1) (.int .i64 e2) (.int .i64 e3) (.int .i64 e4)) := by
  obtain ⟨h1, h2, h3, c0, c1, c2, c3, c4, g, g0, g1, g2, g3, g4⟩ := h
  refine ⟨?_, h2, ?_, e0, e1, e2, e3, e4, ?_⟩
  · unfold put5
    exact ((((h1.setCell h2 _).setCell h2 _).setCell h2 _).setCell h2 _).setCell h2 _
  · intro o
    unfold put5
    simp [go_sem, h3]
  · refine c5_of ⟨?_, ?_, ?_, ?_, ?_⟩ <;> unfold put5 <;> simp [go_sem, *]

/-- Behind the store into the result. -/
theorem keepS {w W : World} {x y z : Nat} {a b c d n a' b' c' d' n' e0 e1 e2 e3 e4 : Int} (h : (W.cell? ⟨x, 0, none⟩ = some (.int .i64 a) ∧ W.cell? ⟨x, 1, none⟩ = some (.int .i64 b) ∧ W.cell? ⟨x, 2, none⟩ = some (.int .i64 c) ∧ W.cell? ⟨x, 3, none⟩ = some (.int .i64 d) ∧ W.cell? ⟨x, 4, none⟩ = some (.int .i64 n)) ∧ (W.cell? ⟨y, 0, none⟩ = some (.int .i64 a') ∧ W.cell? ⟨y, 1, none⟩ = some (.int .i64 b') ∧ W.cell? ⟨y, 2, none⟩ = some (.int .i64 c') ∧ W.cell? ⟨y, 3, none⟩ = some (.int .i64 d') ∧ W.cell? ⟨y, 4, none⟩ = some (.int .i64 n')) ∧ ZF w z W) (hx : x ≠ z) (hy : y ≠ z) :
    ((put5 W z (.int .i64 e0) (.int .i64 e1) (.int .i64 e2) (.int .i64 e3) (.int .i64 e4)).cell? ⟨x, 0, none⟩ = some (.int .i64 a) ∧ (put5 W z (.int .i64 e0) (.int .i64 e1) (.int .i64 e2) (.int .i64 e3) (.int .i64 e4)).cell? ⟨x, 1, none⟩ = some (.int .i64 b) ∧ (put5 W z (.int .i64 e0) (.int .i64 e1) (.int .i64 e2) (.int .i64 e3) (.int .i64 e4)).cell? ⟨x, 2, none⟩ = some (.int .i64 c) ∧ (put5 W z (.int .i64 e0) (.int .i64 e1) (.int .i64 e2) (.int .i64 e3) (.int .i64 e4)).cell? ⟨x, 3, none⟩ = some (.int .i64 d) ∧ (put5 W z (.int .i64 e0) (.int .i64 e1) (.int .i64 e2) (.int .i64 e3) (.int .i64 e4)).cell? ⟨x, 4, none⟩ = some (.int .i64 n)) ∧ ((put5 W z (.int .i64 e0) (.int .i64 e1) (.int .i64 e2) (.int .i64 e3) (.int .i64 e4)).cell? ⟨y, 0, none⟩ = some (.int .i64 a') ∧ (put5 W z (.int .i64 e0) (.int .i64 e1) (.int .i64 e2) (.int .i64 e3) (.int .i64 e4)).cell? ⟨y, 1, none⟩ = some (.int .i64 b') ∧ (put5 W z (.int .i64 e0) (.int .i64 e1) (.int .i64 e2) (.int .i64 e3) (.int .i64 e4)).cell? ⟨y, 2, none⟩ = some (.int .i64 c') ∧ (put5 W z (.int .i64 e0) (.int .i64 e1) (.int .i64 e2) (.int .i64 e3) (.int .i64 e4)).cell? ⟨y, 3, none⟩ = some (.int .i64 d') ∧ (put5 W z (.int .i64 e0) (.int .i64 e1) (.int .i64 e2) (.int .i64 e3) (.int .i64 e4)).cell? ⟨y, 4, none⟩ = some (.int .i64 n')) ∧ ZF w z (put5 W z (.int .i64 e0) (.int .i64 e1) (.int .i64 e2) (.int .i64 e3) (.int .i64 e4)) :=
  ⟨(c5_put (c5_of h.1) hx).2, (c5_put (c5_of h.2.1) hy).2, zf_put h.2.2⟩

end Go.Proofs.YtjgmoledhkikcaaDoor
