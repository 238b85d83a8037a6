/- Contracts of SubstTerm of the program. -/
import Derived.Test.YtbjmnbpomgaioaaImplB
import Derived.Test.YtbjmnbpomgaioaaHeld
namespace Go.Proofs.Ytbjmnbpomgaioaa
open Go.RowKit

theorem sel_bd {a b c d n v : Int} (h : tvB a b c d n = true) : -100 ≤ sel a b c d v 0 ∧ sel a b c d v 0 ≤ 100 := by
  have q := tv_bd h
  unfold sel
  split <;> (try split) <;> (try split) <;> (try split) <;> omega

theorem drop_bd {v i x M : Int} (h0 : -M ≤ x) (h1 : x ≤ M) : -M ≤ (if v = i then 0 else x) ∧ (if v = i then 0 else x) ≤ M := by
  split <;> omega

end Go.Proofs.Ytbjmnbpomgaioaa
