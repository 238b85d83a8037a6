/- Free variables: the contracts of the program's freeIn and FreeVars. -/
import Derived.Test.YtahilpccnabbgaaFormU
import Derived.Test.YtahilpccnabbgaaFormS
namespace Go.Proofs.Ytahilpccnabbgaa
open Go.RowKit

/-- Four bools in the cells of a block that may be written. -/
def R4 (W : World) (r : Nat) (a b c d : Bool) : Prop := r < W.heap.size ∧ W.cell? ⟨r, 0, none⟩ = some (.bool a) ∧ W.cell? ⟨r, 1, none⟩ = some (.bool b) ∧ W.cell? ⟨r, 2, none⟩ = some (.bool c) ∧ W.cell? ⟨r, 3, none⟩ = some (.bool d) ∧ ∀ o, W.frozen? ⟨r, o, none⟩ = false
theorem r4_on {W W' : World} {r : Nat} {a b c d : Bool} (h : R4 W r a b c d) (hb : Below W.heap.size W W') : R4 W' r a b c d :=
  have f : ∀ o, W'.cell? ⟨r, o, none⟩ = W.cell? ⟨r, o, none⟩ := fun o => (bcell hb).1 r o h.1
  ⟨Nat.lt_of_lt_of_le h.1 hb.size, (f 0).trans h.2.1, (f 1).trans h.2.2.1, (f 2).trans h.2.2.2.1, (f 3).trans h.2.2.2.2.1, fun o => ((bcell hb).2 r o h.1).trans (h.2.2.2.2.2 o)⟩
/-- The world inside of freeIn: its result's cells, and those of the bools that it gathers. -/
def FiS (w : World) (a b c d : Bool) (W : World) : Prop := Below w.heap.size w W ∧ R4 W w.heap.size false false false false ∧ R4 W (w.heap.size + 1) a b c d
theorem fiS_on {w W W' : World} {a b c d : Bool} (h : FiS w a b c d W) (hb : Below W.heap.size W W') : FiS w a b c d W' :=
  ⟨below_on h.1 hb, r4_on h.2.1 hb, r4_on h.2.2 hb⟩
theorem fiS_new (w : World) (t t' : TypeId) : FiS w false false false false ((w.alloc (.cells #[.bool false, .bool false, .bool false, .bool false] t)).alloc (.cells #[.bool false, .bool false, .bool false, .bool false] t')) := by
  refine ⟨by go_grown, ⟨by simp; omega, ?_, ?_, ?_, ?_, fun o => ?_⟩, ⟨by simp, ?_, ?_, ?_, ?_, fun o => ?_⟩⟩ <;> simp [go_sem]
theorem fiS_set0 {w W : World} {a b c d : Bool} (x : Bool) (h : FiS w a b c d W) : FiS w x b c d (W.setCell ⟨w.heap.size + 1, 0, none⟩ (.bool x)) := by
  obtain ⟨hb, ⟨h0, h1, h2, h3, h4, h5⟩, ⟨g0, g1, g2, g3, g4, g5⟩⟩ := h
  refine ⟨hb.setCell (Nat.le_succ _) _, ⟨by simpa [World.setCell] using h0, ?_, ?_, ?_, ?_, fun o => ?_⟩, ⟨by simpa [World.setCell] using g0, ?_, ?_, ?_, ?_, fun o => ?_⟩⟩ <;> simp [go_sem, *]
theorem fiS_set1 {w W : World} {a b c d : Bool} (x : Bool) (h : FiS w a b c d W) : FiS w a x c d (W.setCell ⟨w.heap.size + 1, 1, none⟩ (.bool x)) := by
  obtain ⟨hb, ⟨h0, h1, h2, h3, h4, h5⟩, ⟨g0, g1, g2, g3, g4, g5⟩⟩ := h
  refine ⟨hb.setCell (Nat.le_succ _) _, ⟨by simpa [World.setCell] using h0, ?_, ?_, ?_, ?_, fun o => ?_⟩, ⟨by simpa [World.setCell] using g0, ?_, ?_, ?_, ?_, fun o => ?_⟩⟩ <;> simp [go_sem, *]
theorem fiS_set2 {w W : World} {a b c d : Bool} (x : Bool) (h : FiS w a b c d W) : FiS w a b x d (W.setCell ⟨w.heap.size + 1, 2, none⟩ (.bool x)) := by
  obtain ⟨hb, ⟨h0, h1, h2, h3, h4, h5⟩, ⟨g0, g1, g2, g3, g4, g5⟩⟩ := h
  refine ⟨hb.setCell (Nat.le_succ _) _, ⟨by simpa [World.setCell] using h0, ?_, ?_, ?_, ?_, fun o => ?_⟩, ⟨by simpa [World.setCell] using g0, ?_, ?_, ?_, ?_, fun o => ?_⟩⟩ <;> simp [go_sem, *]
theorem fiS_set3 {w W : World} {a b c d : Bool} (x : Bool) (h : FiS w a b c d W) : FiS w a b c x (W.setCell ⟨w.heap.size + 1, 3, none⟩ (.bool x)) := by
  obtain ⟨hb, ⟨h0, h1, h2, h3, h4, h5⟩, ⟨g0, g1, g2, g3, g4, g5⟩⟩ := h
  refine ⟨hb.setCell (Nat.le_succ _) _, ⟨by simpa [World.setCell] using h0, ?_, ?_, ?_, ?_, fun o => ?_⟩, ⟨by simpa [World.setCell] using g0, ?_, ?_, ?_, ?_, fun o => ?_⟩⟩ <;> simp [go_sem, *]

def FiT (a b c d : Bool) (w : World) (e : Ending) (w' : World) : Prop := e = .returned (.agg #[.bool a, .bool b, .bool c, .bool d]) ∧ Below w.heap.size w w'
def mixB (k j : Nat) (a c : Bool) : Bool := if j < k then a || c else a
def InR (w : World) (a0 a1 a2 a3 c0 c1 c2 c3 : Bool) (i : Value) (wr : World) : Prop :=
  ∃ k : Nat, k ≤ 4 ∧ i = .int .i64 k ∧ FiS w (mixB k 0 a0 c0) (mixB k 1 a1 c1) (mixB k 2 a2 c2) (mixB k 3 a3 c3) wr

theorem results_cell1 {fn : Func} {p : Tmp} {ty : TypeId} (h : fn.results = #[.cell p ty]) (tmps : Array Value) (P : Program) (w : World) :
    (results fn tmps).run P w = ((asAddr (tmps.getD p undef)).run P w).andThen fun a w₁ => (loadVar ty a).run P w₁ := by
  simp only [results, h]
  simp [Sem.run_bind, Result.andThen]
theorem Try.tb_bound (b : Bool) (v : Int) (y : Value) (w : World) : (Instr.typeAssert (.iface 112 (.agg #[.bool b, .int .i64 v, y])) 78 112 true).run Try.prog w = .ok (.tuple #[.agg #[.bool b, .int .i64 v, y], .bool true]) w := by kernel_rfl
theorem Try.tb_other (t : TypeId) (y : Value) (h : t = 118 ∨ t = 95 ∨ t = 120 ∨ t = 99) (w : World) : (Instr.typeAssert (.iface t y) 78 112 true).run Try.prog w = .ok (.tuple #[.agg #[.bool false, .int .i64 0, .nilIface], .bool false]) w := by
  rcases h with rfl | rfl | rfl | rfl
  · kernel_rfl
  · kernel_rfl
  · kernel_rfl
  · kernel_rfl

end Go.Proofs.Ytahilpccnabbgaa
