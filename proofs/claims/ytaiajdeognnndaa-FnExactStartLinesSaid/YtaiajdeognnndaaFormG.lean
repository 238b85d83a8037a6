/- Nodes as values; the contract of nodeWith. -/
import Derived.Test.YtaiajdeognnndaaFormE
import Derived.Test.YtaiajdeognnndaaDr1
import Derived.RegionTactic
namespace Go.Proofs.Ytaiajdeognnndaa
open Go.RowKit

theorem below_dn {B n : Nat} {w w' : World} (h : Below B w w') : Below B w (w'.drewN n) := ⟨h.os, h.tape, h.output, h.size, h.block⟩

theorem own_read {w : World} {base e n : Nat} {v : Value} {xs : List Value} (h : w.ownsRow base e 1 v n xs) (hn : 0 < n) :
    ∃ g cap, v = .slice (some ⟨g, 0, none⟩) n cap ∧ n ≤ cap ∧ cap ≤ maxLen ∧ base ≤ g ∧ g < w.heap.size ∧ ∀ j, j < n → w.cell? ⟨g, j, none⟩ = xs[j]? := by
  obtain ⟨h1, h2⟩ := id h
  rcases h2 with ⟨_, h0⟩ | ⟨g, cap, cur, e0, hb, hg, hc1, hc2, _⟩
  · omega
  · subst e0
    exact ⟨g, cap, rfl, hc1, hc2, hb, (h.lt g rfl).2, fun j hj => h.cellAt j (by omega)⟩

end Go.Proofs.Ytaiajdeognnndaa
