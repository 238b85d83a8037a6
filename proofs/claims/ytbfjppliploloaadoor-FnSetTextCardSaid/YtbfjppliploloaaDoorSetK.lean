/- UnionSets, MeetSets, OtherSet, ProgressionSet, ShiftSet, StretchSet, DivideSet of the program. -/
import Derived.Test.YtbfjppliploloaaDoorSetJ
namespace Go.Proofs.YtbfjppliploloaaDoor
open Go.RowKit

/-- What ProgressionSet answers. -/
noncomputable def prR (f s : Int) : (List UInt8 × List UInt8) × Bool := if (decide (0 ≤ f ∧ f ≤ 400) && decide (0 ≤ s ∧ s ≤ 240)) = true then resA (prA f.toNat s.toNat) else (([], []), false)
theorem pr_bits (f s n : Nat) : bitS (inS (prA f s) n) = prA f s n := bits_in (bits_bit (f := fun n => decide (f ≤ n) && (if s = 0 then decide (n = f) else decide ((n - f) % s = 0)))) n
end Go.Proofs.YtbfjppliploloaaDoor
