/- Contracts of the model's l1Plus. -/
import Derived.Test.YtjgmoledhkikcaaDoorSpecC
namespace Go.Proofs.YtjgmoledhkikcaaDoor
open Go.RowKit

theorem wrap_in {x y : Int} (hy : -1000000000 ≤ y ∧ y ≤ 1000000000) (hx : -1000000000 ≤ x ∧ x ≤ 1000000000) : wrap64 (x + wrap64 y) = x + y := by
  rw [IntWalk.wrap64_in y ⟨by omega, by omega⟩, IntWalk.wrap64_in _ ⟨by omega, by omega⟩]

end Go.Proofs.YtjgmoledhkikcaaDoor
