/- Contracts of the laws' own points and values. -/
import Derived.Test.YtbjmnbpomgaioaaDraw6
import Derived.Test.YtbjmnbpomgaioaaImplB
import Derived.BigGuardPart
namespace Go.Proofs.Ytbjmnbpomgaioaa
open Go.RowKit

/-- A point that the laws make of the bytes: small. -/
def SmallPoint (w : World) (e : Ending) (w' : World) : Prop := ∃ a b c d : Int, e = .returned (.agg #[.int .i64 a, .int .i64 b, .int .i64 c, .int .i64 d]) ∧ Below w.heap.size w w' ∧ (0 ≤ a ∧ a ≤ 6) ∧ (0 ≤ b ∧ b ≤ 5) ∧ (0 ≤ c ∧ c ≤ 4) ∧ (0 ≤ d ∧ d ≤ 3)

def PbR (n : Nat) (x i : Value) : Prop := ∃ (y : Int) (k : Nat), x = .int .i64 y ∧ i = .int .i64 k ∧ k ≤ 8 ∧ k ≤ n ∧ 0 ≤ y ∧ y ≤ 2000000 * 6 ^ k

theorem six_pow (k : Nat) (h : k ≤ 8) : (1 : Int) ≤ 6 ^ k ∧ (6 : Int) ^ k ≤ 1679616 := by
  match k, h with
  | 0, _ => decide
  | 1, _ => decide
  | 2, _ => decide
  | 3, _ => decide
  | 4, _ => decide
  | 5, _ => decide
  | 6, _ => decide
  | 7, _ => decide
  | 8, _ => decide
  | k + 9, h => omega

end Go.Proofs.Ytbjmnbpomgaioaa
