/- Atoms: when one is valid, what it says, and the box that holds one. -/
import Derived.Test.YtjgmoledhkikcaaDoorBas
import Derived.Test.YtjgmoledhkikcaaDoorHeld
namespace Go.Proofs.YtjgmoledhkikcaaDoor
open Go.RowKit

/-- An atom is valid. -/
def avB (k m a b c d n : Int) : Bool := tvB a b c d n && (if k = 0 ∨ k = 1 then decide (m = 0) else if k = 2 ∨ k = 3 then inB m 1 100 else false)
/-- What an atom says of the value of its term. -/
def saysB (k m x : Int) : Bool := if k = 0 then decide (x ≤ 0) else if k = 1 then decide (x = 0) else if k = 2 then decide (x.tmod m = 0) else !decide (x.tmod m = 0)

def C7 (w : World) (bl : Nat) (k m a b c d n : Int) : Prop := bl < w.heap.size ∧ w.cell? ⟨bl, 0, none⟩ = some (.int .i64 k) ∧ w.cell? ⟨bl, 1, none⟩ = some (.int .i64 m) ∧ w.cell? ⟨bl, 2, none⟩ = some (.int .i64 a) ∧ w.cell? ⟨bl, 3, none⟩ = some (.int .i64 b) ∧ w.cell? ⟨bl, 4, none⟩ = some (.int .i64 c) ∧ w.cell? ⟨bl, 5, none⟩ = some (.int .i64 d) ∧ w.cell? ⟨bl, 6, none⟩ = some (.int .i64 n)

theorem c7_on {W w' : World} {x : Nat} {k m a b c d n : Int} (h : C7 W x k m a b c d n) (hb : Below W.heap.size W w') : C7 w' x k m a b c d n :=
  have f : ∀ o, w'.cell? ⟨x, o, none⟩ = W.cell? ⟨x, o, none⟩ := fun o => (bcell hb).1 x o h.1
  ⟨Nat.lt_of_lt_of_le h.1 hb.size, (f 0).trans h.2.1, (f 1).trans h.2.2.1, (f 2).trans h.2.2.2.1, (f 3).trans h.2.2.2.2.1, (f 4).trans h.2.2.2.2.2.1, (f 5).trans h.2.2.2.2.2.2.1, (f 6).trans h.2.2.2.2.2.2.2⟩

theorem fz7_on {W w' : World} {z : Nat} (h : z < W.heap.size) (hf : Hid (∀ o, W.frozen? ⟨z, o, none⟩ = false)) (hb : Below W.heap.size W w') : ∀ o, w'.frozen? ⟨z, o, none⟩ = false :=
  fun o => ((bcell hb).2 z o h).trans (hf.out o)

theorem avB_cases {k m a b c d n : Int} (h : avB k m a b c d n = true) : (k = 0 ∧ m = 0 ∨ k = 1 ∧ m = 0 ∨ k = 2 ∧ 1 ≤ m ∧ m ≤ 100 ∨ k = 3 ∧ 1 ≤ m ∧ m ≤ 100) ∧ tvB a b c d n = true := by
  simp only [avB, Bool.and_eq_true] at h
  refine ⟨?_, h.1⟩
  have h2 := h.2
  split at h2
  · simp at h2; omega
  · split at h2
    · simp [inB] at h2; omega
    · cases h2

theorem avB_most (a b c d n : Int) : avB 0 0 a b c d n = tvB a b c d n := by simp [avB]
theorem avB_zero (a b c d n : Int) : avB 1 0 a b c d n = tvB a b c d n := by simp [avB]
theorem avB_div {m a b c d n : Int} (h0 : 1 ≤ m) (h1 : m ≤ 100) : avB 2 m a b c d n = tvB a b c d n := by simp [avB, inB, h0, h1]
theorem avB_not {m a b c d n : Int} (h0 : 1 ≤ m) (h1 : m ≤ 100) : avB 3 m a b c d n = tvB a b c d n := by simp [avB, inB, h0, h1]
theorem avB_tv {k m a b c d n : Int} (h : tvB a b c d n = false) : avB k m a b c d n = false := by simp [avB, h]

end Go.Proofs.YtjgmoledhkikcaaDoor
