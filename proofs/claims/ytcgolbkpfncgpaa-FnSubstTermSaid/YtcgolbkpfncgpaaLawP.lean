/- The walk of the law on sums of terms. -/
import Derived.Test.YtcgolbkpfncgpaaDraw8
import Derived.Test.YtcgolbkpfncgpaaPb
import Derived.Test.YtcgolbkpfncgpaaImplC
import Derived.Test.YtcgolbkpfncgpaaImplD
import Derived.Test.YtcgolbkpfncgpaaSpecF
import Derived.Deep.RegionHeld3
namespace Go.Proofs.Ytcgolbkpfncgpaa
open Go.RowKit

/-- Three boxes of five ints and one of four, still there in a later world. -/
theorem keep5554 {W w' : World} {p q r t : Nat} {a b c d n a' b' c' d' n' A B C D N x y z u : Int} (h1 : C5 W p a b c d n) (h2 : C5 W q a' b' c' d' n') (h3 : C5 W r A B C D N) (h4 : C4 W t x y z u) (hB : Below W.heap.size W w') :
    Below W.heap.size W w' ∧ (w'.cell? ⟨p, 0, none⟩ = some (.int .i64 a) ∧ w'.cell? ⟨p, 1, none⟩ = some (.int .i64 b) ∧ w'.cell? ⟨p, 2, none⟩ = some (.int .i64 c) ∧ w'.cell? ⟨p, 3, none⟩ = some (.int .i64 d) ∧ w'.cell? ⟨p, 4, none⟩ = some (.int .i64 n)) ∧ (w'.cell? ⟨q, 0, none⟩ = some (.int .i64 a') ∧ w'.cell? ⟨q, 1, none⟩ = some (.int .i64 b') ∧ w'.cell? ⟨q, 2, none⟩ = some (.int .i64 c') ∧ w'.cell? ⟨q, 3, none⟩ = some (.int .i64 d') ∧ w'.cell? ⟨q, 4, none⟩ = some (.int .i64 n')) ∧ (w'.cell? ⟨r, 0, none⟩ = some (.int .i64 A) ∧ w'.cell? ⟨r, 1, none⟩ = some (.int .i64 B) ∧ w'.cell? ⟨r, 2, none⟩ = some (.int .i64 C) ∧ w'.cell? ⟨r, 3, none⟩ = some (.int .i64 D) ∧ w'.cell? ⟨r, 4, none⟩ = some (.int .i64 N)) ∧ (w'.cell? ⟨t, 0, none⟩ = some (.int .i64 x) ∧ w'.cell? ⟨t, 1, none⟩ = some (.int .i64 y) ∧ w'.cell? ⟨t, 2, none⟩ = some (.int .i64 z) ∧ w'.cell? ⟨t, 3, none⟩ = some (.int .i64 u)) :=
  ⟨hB, (c5_on h1 hB).2, (c5_on h2 hB).2, (c5_on h3 hB).2, (c4_on h4 hB).2⟩

theorem ev_add (a b c d n a' b' c' d' n' x y z u : Int) : ev (a + a') (b + b') (c + c') (d + d') (n + n') x y z u = ev a b c d n x y z u + ev a' b' c' d' n' x y z u := by
  unfold ev
  simp only [Int.add_mul]
  omega

theorem ev_bd {a b c d n x y z u : Int} (h : tvB a b c d n = true) (hp : pvB x y z u = true) : -1000000 ≤ ev a b c d n x y z u ∧ ev a b c d n x y z u ≤ 1000000 := by
  obtain ⟨⟨a0, a1⟩, ⟨b0, b1⟩, ⟨c0, c1⟩, ⟨d0, d1⟩, n0, n1⟩ := tv_bd h
  simp only [pvB, inB, Bool.and_eq_true, decide_eq_true_eq] at hp
  obtain ⟨⟨⟨⟨x0, x1⟩, y0, y1⟩, z0, z1⟩, u0, u1⟩ := hp
  obtain ⟨p0, p1⟩ := mul_bd a0 a1 x0 x1 (by omega)
  obtain ⟨q0, q1⟩ := mul_bd b0 b1 y0 y1 (by omega)
  obtain ⟨r0, r1⟩ := mul_bd c0 c1 z0 z1 (by omega)
  obtain ⟨s0, s1⟩ := mul_bd d0 d1 u0 u1 (by omega)
  unfold ev
  omega

theorem tv_neg {a b c d n : Int} (h : tvB a b c d n = true) : tvB (a * -1) (b * -1) (c * -1) (d * -1) (n * -1) = true := by
  have := tv_bd h
  simp only [tvB, wlB, Bool.and_eq_true, decide_eq_true_eq]
  omega

end Go.Proofs.Ytcgolbkpfncgpaa
