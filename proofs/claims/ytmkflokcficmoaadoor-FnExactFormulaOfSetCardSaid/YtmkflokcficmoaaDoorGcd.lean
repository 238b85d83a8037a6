/- The greatest common divisor, as both programs reckon it. -/
import Derived.Test.YtmkflokcficmoaaDoorBas
import Derived.Deep.QuietTactic
import Derived.BigQuiet
namespace Go.Proofs.YtmkflokcficmoaaDoor
open Go.RowKit

theorem tmod_bd {a b M : Int} (hb : b ≠ 0) (h0 : -M ≤ b) (h1 : b ≤ M) : -M ≤ a.tmod b ∧ a.tmod b ≤ M ∧ (a.tmod b).natAbs < b.natAbs := by
  have h : (a.tmod b).natAbs < b.natAbs := by
    rw [Int.natAbs_tmod]
    exact Nat.mod_lt _ (by omega)
  omega

theorem gcd_step (a b : Int) : Int.gcd b (a.tmod b) = Int.gcd a b := by
  unfold Int.gcd
  rw [Int.natAbs_tmod, Nat.gcd_comm b.natAbs, ← Nat.gcd_rec, Nat.gcd_comm]

theorem gcd_end (a : Int) : ((Int.gcd a 0 : Nat) : Int) = max a (-a) := by
  unfold Int.gcd
  simp
  omega

def Gc (a b : Int) (x y : Value) : Prop := ∃ c d : Int, x = .int .i64 c ∧ y = .int .i64 d ∧ -1000000 ≤ c ∧ c ≤ 1000000 ∧ -1000000 ≤ d ∧ d ≤ 1000000 ∧ Int.gcd c d = Int.gcd a b

end Go.Proofs.YtmkflokcficmoaaDoor
