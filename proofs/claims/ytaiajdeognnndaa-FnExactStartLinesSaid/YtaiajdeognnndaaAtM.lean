/- Contracts of the model's l2Most, SplitZero, l2All, l2Negate, NegateAtom. -/
import Derived.Test.YtaiajdeognnndaaAtS
import Derived.Test.YtaiajdeognnndaaSpecD
import Derived.Deep.RegionHeld3
namespace Go.Proofs.Ytaiajdeognnndaa
open Go.RowKit

/-- The atom that a sum is at most 0. -/
def mostD (a b c d n : Int) : AtD := ⟨0, 0, a, b, c, d, n⟩

theorem keep7 {W w' : World} {x : Nat} {k m a b c d n : Int} (hx : C7 W x k m a b c d n) (hB : Below W.heap.size W w') :
    Below W.heap.size W w' ∧ w'.cell? ⟨x, 0, none⟩ = some (.int .i64 k) ∧ w'.cell? ⟨x, 1, none⟩ = some (.int .i64 m) ∧ w'.cell? ⟨x, 2, none⟩ = some (.int .i64 a) ∧ w'.cell? ⟨x, 3, none⟩ = some (.int .i64 b) ∧ w'.cell? ⟨x, 4, none⟩ = some (.int .i64 c) ∧ w'.cell? ⟨x, 5, none⟩ = some (.int .i64 d) ∧ w'.cell? ⟨x, 6, none⟩ = some (.int .i64 n) :=
  ⟨hB, (c7_on hx hB).2⟩

/-- A new list of atoms, and whether there is one. -/
def AtsT (L : List AtD) (ok : Bool) (w : World) (e : Ending) (w' : World) : Prop := ∃ v, e = .returned (.tuple #[v, .bool ok]) ∧ OwnA w' w.heap.size v L ∧ Below w.heap.size w w'

theorem ownA_lit {w : World} {B : Nat} (cs : Array Value) (L : List AtD) (hB : B ≤ w.heap.size) (hl : L.length ≤ 1000) (hcs : cs.toList = AL L) : OwnA (w.alloc (.cells cs 49)) B (.slice (some ⟨w.heap.size, 0, none⟩) L.length L.length) L := by
  have h := World.ownsRow_lit (base := B) (e := 49) (size := 7) w cs L.length hB (by unfold maxLen; omega) (by have := al_len L; rw [← hcs] at this; simpa using this)
  rw [hcs] at h
  exact h

def szL (a b c d n : Int) : List AtD := [mostD a b c d n, mostD (-a) (-b) (-c) (-d) (-n)]

end Go.Proofs.Ytaiajdeognnndaa
