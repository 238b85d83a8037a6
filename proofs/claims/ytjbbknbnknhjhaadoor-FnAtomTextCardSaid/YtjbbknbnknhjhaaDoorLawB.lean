/- Contracts of the laws' own comparisons and copies. -/
import Derived.Test.YtjbbknbnknhjhaaDoorHeld
import Derived.Test.YtjbbknbnknhjhaaDoorSpecB
namespace Go.Proofs.YtjbbknbnknhjhaaDoor
open Go.RowKit

theorem c4_on {W w' : World} {x : Nat} {a b c d : Int} (h : C4 W x a b c d) (hb : Below W.heap.size W w') : C4 w' x a b c d :=
  have f : ∀ o, w'.cell? ⟨x, o, none⟩ = W.cell? ⟨x, o, none⟩ := fun o => (bcell hb).1 x o h.1
  ⟨Nat.lt_of_lt_of_le h.1 hb.size, (f 0).trans h.2.1, (f 1).trans h.2.2.1, (f 2).trans h.2.2.2.1, (f 3).trans h.2.2.2.2⟩





end Go.Proofs.YtjbbknbnknhjhaaDoor
