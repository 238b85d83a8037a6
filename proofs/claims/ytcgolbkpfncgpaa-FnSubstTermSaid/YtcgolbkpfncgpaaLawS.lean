/- The walk of the law on multiples of a term. -/
import Derived.Test.YtcgolbkpfncgpaaDraw9
import Derived.Test.YtcgolbkpfncgpaaLawP
import Derived.Test.YtcgolbkpfncgpaaCont
import Derived.Test.YtcgolbkpfncgpaaSpecH
namespace Go.Proofs.Ytcgolbkpfncgpaa
open Go.RowKit

theorem gcd_scale (g : Nat) (b k : Int) : Int.gcd ((g * k.natAbs : Nat) : Int) (b * k) = Int.gcd (g : Int) b * k.natAbs := by
  unfold Int.gcd
  rw [Int.natAbs_mul, Int.natAbs_natCast, Int.natAbs_natCast, Nat.gcd_mul_right]

theorem cont_scale (a b c d k : Int) : cont (a * k) (b * k) (c * k) (d * k) = max k (-k) * cont a b c d := by
  unfold cont
  have e0 : Int.gcd 0 (a * k) = Int.gcd 0 a * k.natAbs := by simp [Int.natAbs_mul]
  rw [e0, gcd_scale, gcd_scale, gcd_scale, Int.natCast_mul]
  have e1 : (k.natAbs : Int) = max k (-k) := by omega
  rw [e1, Int.mul_comm]

theorem cont_bd {a b c d n : Int} (h : tvB a b c d n = true) : 0 ≤ cont a b c d ∧ cont a b c d ≤ 100 := by
  obtain ⟨qa, qb, qc, qd, _⟩ := tv_bd h
  refine ⟨by unfold cont; exact Int.natCast_nonneg _, ?_⟩
  unfold cont
  exact (gcd_le (gcd_le (gcd_le (gcd_le ⟨by omega, by omega⟩ qa) qb) qc) qd).2

theorem ev_scale (a b c d n k x y z u : Int) : ev (a * k) (b * k) (c * k) (d * k) (n * k) x y z u = k * ev a b c d n x y z u := by
  unfold ev
  have e : ∀ p q : Int, p * k * q = k * (p * q) := fun p q => by rw [Int.mul_comm p k, Int.mul_assoc]
  rw [e, e, e, e, Int.mul_comm n k, ← Int.mul_add, ← Int.mul_add, ← Int.mul_add, ← Int.mul_add]

theorem keep554 {W w' : World} {p q t : Nat} {a b c d n a' b' c' d' n' x y z u : Int} (h1 : C5 W p a b c d n) (h2 : C5 W q a' b' c' d' n') (h4 : C4 W t x y z u) (hB : Below W.heap.size W w') :
    Below W.heap.size W w' ∧ (w'.cell? ⟨p, 0, none⟩ = some (.int .i64 a) ∧ w'.cell? ⟨p, 1, none⟩ = some (.int .i64 b) ∧ w'.cell? ⟨p, 2, none⟩ = some (.int .i64 c) ∧ w'.cell? ⟨p, 3, none⟩ = some (.int .i64 d) ∧ w'.cell? ⟨p, 4, none⟩ = some (.int .i64 n)) ∧ (w'.cell? ⟨q, 0, none⟩ = some (.int .i64 a') ∧ w'.cell? ⟨q, 1, none⟩ = some (.int .i64 b') ∧ w'.cell? ⟨q, 2, none⟩ = some (.int .i64 c') ∧ w'.cell? ⟨q, 3, none⟩ = some (.int .i64 d') ∧ w'.cell? ⟨q, 4, none⟩ = some (.int .i64 n')) ∧ (w'.cell? ⟨t, 0, none⟩ = some (.int .i64 x) ∧ w'.cell? ⟨t, 1, none⟩ = some (.int .i64 y) ∧ w'.cell? ⟨t, 2, none⟩ = some (.int .i64 z) ∧ w'.cell? ⟨t, 3, none⟩ = some (.int .i64 u)) :=
  ⟨hB, (c5_on h1 hB).2, (c5_on h2 hB).2, (c4_on h4 hB).2⟩
theorem keep55c {W w' : World} {p q : Nat} {a b c d n a' b' c' d' n' : Int} (h1 : C5 W p a b c d n) (h2 : C5 W q a' b' c' d' n') (hB : Below W.heap.size W w') :
    Below W.heap.size W w' ∧ (w'.cell? ⟨p, 0, none⟩ = some (.int .i64 a) ∧ w'.cell? ⟨p, 1, none⟩ = some (.int .i64 b) ∧ w'.cell? ⟨p, 2, none⟩ = some (.int .i64 c) ∧ w'.cell? ⟨p, 3, none⟩ = some (.int .i64 d) ∧ w'.cell? ⟨p, 4, none⟩ = some (.int .i64 n)) ∧ (w'.cell? ⟨q, 0, none⟩ = some (.int .i64 a') ∧ w'.cell? ⟨q, 1, none⟩ = some (.int .i64 b') ∧ w'.cell? ⟨q, 2, none⟩ = some (.int .i64 c') ∧ w'.cell? ⟨q, 3, none⟩ = some (.int .i64 d') ∧ w'.cell? ⟨q, 4, none⟩ = some (.int .i64 n')) :=
  ⟨hB, (c5_on h1 hB).2, (c5_on h2 hB).2⟩

end Go.Proofs.Ytcgolbkpfncgpaa
