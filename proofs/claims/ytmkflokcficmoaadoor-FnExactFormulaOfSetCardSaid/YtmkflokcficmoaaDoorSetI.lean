/- The program's setOf, over any closure. -/
import Derived.Test.YtmkflokcficmoaaDoorSf7
import Derived.Laws.MakeOwn
import Derived.Laws.IdiomStrings
import Derived.Laws.EntriesVeiled
namespace Go.Proofs.YtmkflokcficmoaaDoor
open Go.RowKit

/-- A row of bytes in a block, of which k are known. -/
def BR (W : World) (b : Nat) (g : Nat → UInt8) (m k : Nat) : Prop := ∃ c, W.heap[b]? = some (.cells c 5 (0, 0)) ∧ c.size = m ∧ ∀ i, i < k → c[i]? = some (.int .u8 ((g i).toNat : Int))
theorem br_on {W w' : World} {b m k : Nat} {g : Nat → UInt8} (h : BR W b g m k) (hb : Below W.heap.size W w') : BR w' b g m k := by
  obtain ⟨c, h1, h2, h3⟩ := h
  exact ⟨c, row_on h1 hb, h2, h3⟩
theorem br_any {W : World} {b m k j : Nat} {g : Nat → UInt8} {v : Value} (h : BR W b g m k) (hj : k ≤ j) : BR (W.setCell ⟨b, j, none⟩ v) b g m k := by
  obtain ⟨c, h1, h2, h3⟩ := h
  refine ⟨_, heap_setCell_same _ _ _ _ _ _ h1, by simpa using h2, fun i hi => ?_⟩
  rw [Array.getElem?_setIfInBounds_ne (by omega)]
  exact h3 i hi
theorem br_put {W : World} {b m k : Nat} {g : Nat → UInt8} {z : Int} (h : BR W b g m k) (hk : k < m) (hz : z = ((g k).toNat : Int)) : BR (W.setCell ⟨b, k, none⟩ (.int .u8 z)) b g m (k + 1) := by
  obtain ⟨c, h1, h2, h3⟩ := h
  refine ⟨_, heap_setCell_same _ _ _ _ _ _ h1, by simpa using h2, fun i hi => ?_⟩
  by_cases e : i = k
  · subst e
    rw [Array.getElem?_setIfInBounds_self_of_lt (by omega), hz]
  · rw [Array.getElem?_setIfInBounds_ne (by omega)]
    exact h3 i (by omega)
theorem br_cell {W : World} {b m k j : Nat} {g : Nat → UInt8} (h : BR W b g m k) (hj : j < m) : (∃ v, W.cell? ⟨b, j, none⟩ = some v) ∧ W.frozen? ⟨b, j, none⟩ = false ∧ b < W.heap.size := by
  obtain ⟨c, h1, h2, h3⟩ := h
  refine ⟨?_, frozen_of_row _ _ _ _ _ h1, ?_⟩
  · rw [cell_of_row _ _ _ _ _ _ h1]
    exact ⟨_, Array.getElem?_eq_getElem (by omega)⟩
  · rcases Nat.lt_or_ge b W.heap.size with q | q
    · exact q
    · rw [Array.getElem?_eq_none q] at h1; cases h1
/-- A row of bytes, all known. -/
def RowB (W : World) (b : Nat) (l : List UInt8) : Prop := b < W.heap.size ∧ ∀ i x, l[i]? = some x → W.cell? ⟨b, i, none⟩ = some (.int .u8 (x.toNat : Int))
theorem rowb_on {W w' : World} {b : Nat} {l : List UInt8} (h : RowB W b l) (hb : Below W.heap.size W w') : RowB w' b l :=
  ⟨Nat.lt_of_lt_of_le h.1 hb.size, fun i x hx => ((bcell hb).1 b i h.1).trans (h.2 i x hx)⟩
theorem br_row {W : World} {b m : Nat} {g : Nat → UInt8} (h : BR W b g m m) : RowB W b ((List.range m).map g) := by
  have hb : b < W.heap.size := by
    obtain ⟨c, h1, _⟩ := h
    rcases Nat.lt_or_ge b W.heap.size with q | q
    · exact q
    · rw [Array.getElem?_eq_none q] at h1; cases h1
  refine ⟨hb, fun i x hx => ?_⟩
  obtain ⟨c, h1, h2, h3⟩ := h
  have hi : i < m := by simpa using (List.getElem?_eq_some_iff.1 hx).1
  rw [cell_of_row _ _ _ _ _ _ h1, h3 i hi]
  rw [List.getElem?_map, List.getElem?_range hi] at hx
  rw [← Option.some.inj hx]
/-- A function is entered. -/
def EnF (n : Nat) : Prop := ∀ (args : Array Value) (w : World), Sem.run Tryd.prog (callFunc n args) w = .ok (.enter n args) w
/-- What a closure answers in each world above this one. -/
def ClF (n : Nat) (caps : Array Value) (f : Nat → Bool) (m : Nat) (w : World) : Prop := ∀ W, Below w.heap.size w W → ∀ k, k < m → Calls Tryd.prog n (#[.int .i64 k] ++ caps) W fun e w2 => e = .returned (.bool (f k)) ∧ Below W.heap.size W w2
theorem rng_take (f : Nat → Bool) (N p : Nat) : ((List.range (N + p)).map fun i => bitS (f i)).take N = rawH (fun n => bitS (f n)) N ∧ ((List.range (N + p)).map fun i => bitS (f i)).drop N = rawL (fun n => bitS (f n)) N p :=
  raw_take (by simp) fun n hn => by rw [List.getD_eq_getElem?_getD, List.getElem?_map, List.getElem?_range hn]; rfl

theorem cl_on {n m : Nat} {caps : Array Value} {f : Nat → Bool} {w w0 : World} (h : ClF n caps f m w) (hb : Below w.heap.size w w0) : ClF n caps f m w0 := fun W hW => h W (below_on hb hW)

end Go.Proofs.YtmkflokcficmoaaDoor
