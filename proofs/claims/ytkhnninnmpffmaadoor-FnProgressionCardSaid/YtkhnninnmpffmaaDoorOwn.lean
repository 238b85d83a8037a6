/- A slice that a call has made: owned still in a later world. -/
import Derived.Test.YtkhnninnmpffmaaDoorBaseC
import Derived.Test.YtkhnninnmpffmaaDoorHeld
import Derived.Laws.OwnMore
namespace Go.Proofs.YtkhnninnmpffmaaDoor
open Go.RowKit

theorem only_below {w w' : World} (h : Below w.heap.size w w') (row : Option Nat) : w.grownBy w' row := ⟨h.os, h.tape, h.output, h.size, fun i hi _ => h.block i hi⟩

theorem own_mono {w : World} {B B' e size n : Nat} {v : Value} {xs : List Value} (h : w.ownsRow B e size v n xs) (hB : B' ≤ B) : w.ownsRow B' e size v n xs := by
  obtain ⟨h1, h2⟩ := h
  refine ⟨h1, ?_⟩
  rcases h2 with h0 | ⟨g, cap, cur, e0, hb, h3⟩
  · exact Or.inl h0
  · exact Or.inr ⟨g, cap, cur, e0, Nat.le_trans hB hb, h3⟩

theorem own_below {w w' : World} {B e size n : Nat} {v : Value} {xs : List Value} (h : w.ownsRow B e size v n xs) (hb : Below w.heap.size w w') : w'.ownsRow B e size v n xs :=
  h.kept (only_below hb none) (by cases hv : v.ownBlock <;> simp)

end Go.Proofs.YtkhnninnmpffmaaDoor
