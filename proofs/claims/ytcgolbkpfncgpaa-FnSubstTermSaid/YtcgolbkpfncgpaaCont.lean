/- Contracts of ContentOf of the program and of the model, and the walk of its law. -/
import Derived.Test.YtcgolbkpfncgpaaNbA
import Derived.Test.YtcgolbkpfncgpaaLawB
import Derived.Test.YtcgolbkpfncgpaaIm
namespace Go.Proofs.Ytcgolbkpfncgpaa
open Go.RowKit

def cont (a b c d : Int) : Int := ((Int.gcd ((Int.gcd ((Int.gcd ((Int.gcd 0 a : Nat) : Int) b : Nat) : Int) c : Nat) : Int) d : Nat) : Int)

theorem gcd_le {a b M : Int} (ha : -M ≤ a ∧ a ≤ M) (hb : -M ≤ b ∧ b ≤ M) : -M ≤ ((Int.gcd a b : Nat) : Int) ∧ ((Int.gcd a b : Nat) : Int) ≤ M := by
  have h0 : (0 : Int) ≤ ((Int.gcd a b : Nat) : Int) := Int.natCast_nonneg _
  refine ⟨by omega, ?_⟩
  by_cases hz : a = 0
  · subst hz
    simp
    omega
  · have := Nat.le_of_dvd (by omega) (Nat.gcd_dvd_left a.natAbs b.natAbs)
    unfold Int.gcd
    omega

end Go.Proofs.Ytcgolbkpfncgpaa
