/- The contract of the model's source of numbers: what it draws lies in its bounds, and only its own counter turns. -/
import Derived.Test.YtahilpccnabbgaaBaseC
import Derived.Deep.QuietTactic
import Derived.BigQuiet
import Derived.Laws.BitsAllLaws
import Derived.Laws.BitsLemmas
namespace Go.Proofs.Ytahilpccnabbgaa
open Go.RowKit

theorem ofInt_pos (a : Nat) (ha : a < 4611686018427387904) : (BitVec.ofInt 64 (a : Int)).toNat = a := by
  rw [BitVec.ofInt_natCast, BitVec.toNat_ofNat]
  exact Nat.mod_eq_of_lt (by omega)

theorem xor_nonneg {x y : Int} (x0 : 0 ≤ x) (x1 : x < 4611686018427387904) (y0 : 0 ≤ y) (y1 : y < 4611686018427387904) : 0 ≤ bits .xor .i64 x y := by
  obtain ⟨a, rfl⟩ := Int.eq_ofNat_of_zero_le x0
  obtain ⟨b, rfl⟩ := Int.eq_ofNat_of_zero_le y0
  have hx : a ^^^ b < 2 ^ 62 := Nat.xor_lt_two_pow (by omega) (by omega)
  show 0 ≤ IntKind.i64.wrap ((BitVec.ofInt 64 (a : Int) ^^^ BitVec.ofInt 64 (b : Int)).toNat : Int)
  rw [BitVec.toNat_xor, ofInt_pos a (by omega), ofInt_pos b (by omega), IntKind.wrap_i64]
  omega

/-- What pick answers: a number from 0 on, less than m if there is such a one; only the counter has turned. -/
def Picked (r : Nat) (p m : Int) (w : World) (e : Ending) (w' : World) : Prop :=
  ∃ x : Int, e = .returned (.int .i64 x) ∧ 0 ≤ x ∧ (x = 0 ∨ x < m) ∧ ∃ k, w' = (w.setCell ⟨r, 1, none⟩ (.int .i64 (p + 1))).drewN k

/-- The reader's memory: where it stands, and the bytes that it reads. -/
def Rd (w : World) (r : Nat) (p : Int) : Prop :=
  ∃ (k n cap : Nat) (sp : Option Addr), p = k ∧ n ≤ 2000 ∧ r < w.heap.size ∧ w.cell? ⟨r, 0, none⟩ = some (.slice sp n cap) ∧ w.cell? ⟨r, 1, none⟩ = some (.int .i64 k) ∧ w.frozen? ⟨r, 1, none⟩ = false ∧
    (n = 0 ∨ ∃ b off, sp = some ⟨b, off, none⟩ ∧ b < r ∧ ∀ i, i < n → ∃ u : Int, w.cell? ⟨b, off + i, none⟩ = some (.int .u8 u) ∧ 0 ≤ u ∧ u ≤ 255)

end Go.Proofs.Ytahilpccnabbgaa
