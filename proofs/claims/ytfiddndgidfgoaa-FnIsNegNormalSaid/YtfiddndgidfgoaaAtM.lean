/- Contracts of the model's l2Most, SplitZero, l2All, l2Negate, NegateAtom. -/
import Derived.Test.YtfiddndgidfgoaaAtS
import Derived.Test.YtfiddndgidfgoaaSpecD
import Derived.Deep.RegionHeld3
namespace Go.Proofs.Ytfiddndgidfgoaa
open Go.RowKit

/-- The atom that a sum is at most 0. -/
def mostD (a b c d n : Int) : AtD := ⟨0, 0, a, b, c, d, n⟩

set_option maxHeartbeats 1000000 in
theorem l2Most_g (k a b c d n e A B C D M : Int) (w : World) (hA : k * a = A) (hB : k * b = B) (hC : k * c = C) (hD : k * d = D) (hM : k * n = M)
    (bA : -100 ≤ A ∧ A ≤ 100) (bB : -100 ≤ B ∧ B ≤ 100) (bC : -100 ≤ C ∧ C ≤ 100) (bD : -100 ≤ D ∧ D ≤ 100) (bM : -10000 ≤ M ∧ M ≤ 10000) (he : 0 ≤ e ∧ e ≤ 1) :
    Calls Try.prog 118 #[.int .i64 k, .agg #[.int .i64 a, .int .i64 b, .int .i64 c, .int .i64 d, .int .i64 n], .int .i64 e] w fun r w' => r = .returned (.agg #[.int .i64 0, .int .i64 0, .int .i64 A, .int .i64 B, .int .i64 C, .int .i64 D, .int .i64 (M + e)]) ∧ Below w.heap.size w w' := by
  have hp := fun W => l1Plus_any 0 0 0 0 0 k a b c d n W (by rw [hA]; omega) (by rw [hB]; omega) (by rw [hC]; omega) (by rw [hD]; omega) (by rw [hM]; omega) (by omega) (by omega) (by omega) (by omega) (by omega)
  simp only [Int.zero_add] at hp
  rw [hA, hB, hC, hD, hM] at hp
  have HP := Lib.hid hp
  obtain ⟨e0, e1⟩ := he
  obtain ⟨m0, m1⟩ := bM
  clear hp hA hB hC hD hM bA bB bC bD
  go_enter Try.func118, Try.ntmps118
  go_wp2_with fail
  generalize hW : World.alloc _ _ = W
  have hz : C7 W (w.heap.size + 1) 0 0 0 0 0 0 0 := by subst hW; exact (by refine ⟨?_, ?_, ?_, ?_, ?_, ?_, ?_, ?_⟩ <;> first | (simp [go_sem]; done) | (simp; omega))
  have fz : Hid (∀ o, W.frozen? ⟨w.heap.size + 1, o, none⟩ = false) := by intro o; subst hW; simp [go_sem]
  have hw0 : Below w.heap.size w W := by subst hW; go_grown
  clear hW
  refine (HP.out _).mono ?_
  rintro r w1 ⟨rfl, hb1⟩
  obtain ⟨z0, z1, z2, z3, z4, z5, z6, z7⟩ := c7_on hz hb1
  have fz1 : Hid _ := fz7_on hz.1 fz hb1
  have hw1 := below_on hw0 hb1
  have hs1 : w.heap.size + 1 < w1.heap.size := z0
  have hz1 := c7_on hz hb1
  clear z0 z1 z2 z3 z4 z5 z6 z7
  go_upto_region 3 with fail
  generalize hW2 : w1.alloc _ = W2
  have hb2 : Below w1.heap.size w1 W2 := by subst hW2; go_grown
  obtain ⟨k0, k1, k2, k3, k4, k5⟩ : C5 W2 w1.heap.size A B C D (M + e) := by subst hW2; exact (by refine ⟨?_, ?_, ?_, ?_, ?_, ?_⟩ <;> first | (simp [go_sem]; done) | (simp; omega))
  obtain ⟨z0, z1, z2, z3, z4, z5, z6, z7⟩ := c7_on hz1 hb2
  have fz2 := fz7_on hz1.1 fz1 hb2
  have hw2 := below_on hw1 hb2
  clear hW2 hz hz1 fz fz1
  go_wp2
  refine bodyPost_ret (v := .agg #[.int .i64 0, .int .i64 0, .int .i64 A, .int .i64 B, .int .i64 C, .int .i64 D, .int .i64 (M + e)]) (by simp [results, Try.results118, go_sem, z1, z2, z3, z4, z5, z6, z7]) rfl ⟨rfl, ?_⟩
  go_grown

theorem l2Most_pos (a b c d n e : Int) (w : World) (h : tvB a b c d n = true) (he : 0 ≤ e ∧ e ≤ 1) :
    Calls Try.prog 118 #[.int .i64 1, .agg #[.int .i64 a, .int .i64 b, .int .i64 c, .int .i64 d, .int .i64 n], .int .i64 e] w fun r w' => r = .returned (.agg #[.int .i64 0, .int .i64 0, .int .i64 a, .int .i64 b, .int .i64 c, .int .i64 d, .int .i64 (n + e)]) ∧ Below w.heap.size w w' := by
  obtain ⟨b1, b2, b3, b4, b5⟩ := tv_bd h
  exact l2Most_g 1 a b c d n e a b c d n w (Int.one_mul _) (Int.one_mul _) (Int.one_mul _) (Int.one_mul _) (Int.one_mul _) b1 b2 b3 b4 b5 he
theorem l2Most_neg (a b c d n e : Int) (w : World) (h : tvB a b c d n = true) (he : 0 ≤ e ∧ e ≤ 1) :
    Calls Try.prog 118 #[.int .i64 (-1), .agg #[.int .i64 a, .int .i64 b, .int .i64 c, .int .i64 d, .int .i64 n], .int .i64 e] w fun r w' => r = .returned (.agg #[.int .i64 0, .int .i64 0, .int .i64 (-a), .int .i64 (-b), .int .i64 (-c), .int .i64 (-d), .int .i64 (-n + e)]) ∧ Below w.heap.size w w' := by
  obtain ⟨b1, b2, b3, b4, b5⟩ := tv_bd h
  exact l2Most_g (-1) a b c d n e (-a) (-b) (-c) (-d) (-n) w (by omega) (by omega) (by omega) (by omega) (by omega) (by omega) (by omega) (by omega) (by omega) (by omega) he

theorem keep7 {W w' : World} {x : Nat} {k m a b c d n : Int} (hx : C7 W x k m a b c d n) (hB : Below W.heap.size W w') :
    Below W.heap.size W w' ∧ w'.cell? ⟨x, 0, none⟩ = some (.int .i64 k) ∧ w'.cell? ⟨x, 1, none⟩ = some (.int .i64 m) ∧ w'.cell? ⟨x, 2, none⟩ = some (.int .i64 a) ∧ w'.cell? ⟨x, 3, none⟩ = some (.int .i64 b) ∧ w'.cell? ⟨x, 4, none⟩ = some (.int .i64 c) ∧ w'.cell? ⟨x, 5, none⟩ = some (.int .i64 d) ∧ w'.cell? ⟨x, 6, none⟩ = some (.int .i64 n) :=
  ⟨hB, (c7_on hx hB).2⟩

/-- A new list of atoms, and whether there is one. -/
def AtsT (L : List AtD) (ok : Bool) (w : World) (e : Ending) (w' : World) : Prop := ∃ v, e = .returned (.tuple #[v, .bool ok]) ∧ OwnA w' w.heap.size v L ∧ Below w.heap.size w w'

theorem ownA_lit {w : World} {B : Nat} (cs : Array Value) (L : List AtD) (hB : B ≤ w.heap.size) (hl : L.length ≤ 1000) (hcs : cs.toList = AL L) : OwnA (w.alloc (.cells cs 26)) B (.slice (some ⟨w.heap.size, 0, none⟩) L.length L.length) L := by
  have h := World.ownsRow_lit (base := B) (e := 26) (size := 7) w cs L.length hB (by unfold maxLen; omega) (by have := al_len L; rw [← hcs] at this; simpa using this)
  rw [hcs] at h
  exact h

def szL (a b c d n : Int) : List AtD := [mostD a b c d n, mostD (-a) (-b) (-c) (-d) (-n)]

end Go.Proofs.Ytfiddndgidfgoaa
