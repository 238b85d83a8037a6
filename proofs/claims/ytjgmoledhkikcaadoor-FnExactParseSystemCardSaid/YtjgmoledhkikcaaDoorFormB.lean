/- Contracts of the laws' own functions on formulas: toFormulaS, toFormula (a copy in new memory), eqFormulaS, eqFormula (of equal formulas). -/
import Derived.Test.YtjgmoledhkikcaaDoorFormA
import Derived.Test.YtjgmoledhkikcaaDoorAtC
import Derived.Deep.RegionWith
namespace Go.Proofs.YtjgmoledhkikcaaDoor
open Go.RowKit

/-- The ten cells of a box with a formula. -/
def C10 (w : World) (x : Nat) (h : FH) (s : Value) : Prop := x < w.heap.size ∧ w.cell? ⟨x, 0, none⟩ = some (.int .i64 h.k) ∧ w.cell? ⟨x, 1, none⟩ = some (.int .i64 h.ak) ∧ w.cell? ⟨x, 2, none⟩ = some (.int .i64 h.am) ∧
  w.cell? ⟨x, 3, none⟩ = some (.int .i64 h.a) ∧ w.cell? ⟨x, 4, none⟩ = some (.int .i64 h.b) ∧ w.cell? ⟨x, 5, none⟩ = some (.int .i64 h.c) ∧ w.cell? ⟨x, 6, none⟩ = some (.int .i64 h.d) ∧ w.cell? ⟨x, 7, none⟩ = some (.int .i64 h.n) ∧ w.cell? ⟨x, 8, none⟩ = some (.int .i64 h.v) ∧ w.cell? ⟨x, 9, none⟩ = some s
theorem c10_on {W w' : World} {x : Nat} {h : FH} {s : Value} (hc : C10 W x h s) (hb : Below W.heap.size W w') : C10 w' x h s := by
  have f : ∀ o, w'.cell? ⟨x, o, none⟩ = W.cell? ⟨x, o, none⟩ := fun o => (bcell hb).1 x o hc.1
  obtain ⟨h0, h1⟩ := hc
  exact ⟨Nat.lt_of_lt_of_le h0 hb.size, by simpa only [f] using h1⟩

def EqR (f : Fo) (b o b' o' lo lo' : Nat) (w : World) (i : Value) (wr : World) : Prop :=
  ∃ (k : Nat) (r : Fo), i = .int .i64 k ∧ k + r.len = f.len ∧ r.size ≤ f.size ∧ FEl wr lo r b (o + k * 10) ∧ FEl wr lo' r b' (o' + k * 10) ∧ Below w.heap.size w wr

end Go.Proofs.YtjgmoledhkikcaaDoor
