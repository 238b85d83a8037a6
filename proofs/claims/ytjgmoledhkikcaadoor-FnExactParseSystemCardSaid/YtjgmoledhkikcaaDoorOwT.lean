/- Own lists of strings. -/
import Derived.Test.YtjgmoledhkikcaaDoorStA
import Derived.Test.YtjgmoledhkikcaaDoorDr1
import Derived.Laws.AppendOwn
namespace Go.Proofs.YtjgmoledhkikcaaDoor
open Go.RowKit

def stV (x : List UInt8) : Value := .string (bs x)
/-- An own list of strings. -/
def OwnT (w : World) (B : Nat) (v : Value) (L : List (List UInt8)) : Prop := w.ownsRow B 9 1 v L.length (L.map stV)
theorem Tryd.infoStr : (Tryd.prog.info? 9).map (fun i => (i.zero, i.size, i.bytes)) = some (some (.string ⟨#[]⟩), 1, 16) := by kernel_rfl
theorem grown_lowT {W W' : World} {v : Value} {B e size n : Nat} {xs : List Value} (hown : W.ownsRow B e size v n xs) {C : Nat} (hC : C ≤ B) (hCW : C ≤ W.heap.size) (hg : W.grownBy W' v.ownBlock) : Below C W W' := by
  refine ⟨hg.os, hg.tape, hg.output, hg.size, fun i hi => hg.block i (by omega) ?_⟩
  intro e
  rcases hown.2 with ⟨rfl, _⟩ | ⟨g, cap, cur, rfl, hbg, _⟩
  · simp [Value.ownBlock] at e
  · simp [Value.ownBlock] at e; omega
theorem ownT_cell {w : World} {B : Nat} {v : Value} {L : List (List UInt8)} (h : OwnT w B v L) (hL : L ≠ []) : ∃ g cap, v = .slice (some ⟨g, 0, none⟩) L.length cap ∧ L.length ≤ cap ∧ B ≤ g ∧ g < w.heap.size ∧ ∀ (j : Nat) (x : List UInt8), L[j]? = some x → w.cell? ⟨g, j, none⟩ = some (.string (bs x)) := by
  have hrow := h
  rcases h.2 with ⟨_, h0⟩ | ⟨g, cap, cur, rfl, hbg, hg, hnc, _⟩
  · exact absurd (List.length_eq_zero_iff.1 h0) hL
  · refine ⟨g, cap, rfl, hnc, hbg, (World.ownsRow.lt hrow g rfl).2, fun j x hx => ?_⟩
    have hj : j < L.length := (List.getElem?_eq_some_iff.1 hx).1
    have hc := World.ownsRow.cellAt (show w.ownsRow B 9 1 (.slice (some ⟨g, 0, none⟩) L.length cap) L.length (L.map stV) from hrow) j (by omega)
    rw [hc, List.getElem?_map, hx]
    rfl
end Go.Proofs.YtjgmoledhkikcaaDoor
