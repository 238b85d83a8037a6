/- The contract of ownFormula at an atom. -/
import Derived.Test.YtahilpccnabbgaaOwnF
namespace Go.Proofs.Ytahilpccnabbgaa
open Go.RowKit

set_option maxRecDepth 10000 in
set_option maxHeartbeats 1000000 in
theorem own_a (ak am a b c d n : Int) (w : World) : Calls Try.prog 95 #[.iface 99 (.agg #[.int .i64 ak, .int .i64 am, .int .i64 a, .int .i64 b, .int .i64 c, .int .i64 d, .int .i64 n])] w (OwT ⟨2, ak, am, a, b, c, d, n, 0⟩ w) := by
  have hta := fun w => Try.ta_atom ak am a b c d n w
  have htb := fun w => Try.tb_other 99 (.agg #[.int .i64 ak, .int .i64 am, .int .i64 a, .int .i64 b, .int .i64 c, .int .i64 d, .int .i64 n]) (.inr (.inr (.inr rfl))) w
  have HK := Lib.hid fun W => (show Calls Try.prog 141 #[.agg #[.int .i64 ak, .int .i64 am, .int .i64 a, .int .i64 b, .int .i64 c, .int .i64 d, .int .i64 n]] W (IntT 2 W) from kind_a _ W)
  go_enter Try.func95, Try.ntmps95
  go_wp2_with fail
  generalize hW : World.alloc _ _ = W
  have hw : Below w.heap.size w W := by subst hW; go_grown
  have hx : C10 W w.heap.size ⟨0, 0, 0, 0, 0, 0, 0, 0, 0⟩ (.slice none 0 0) := by subst hW; exact (by refine ⟨?_, ?_, ?_, ?_, ?_, ?_, ?_, ?_, ?_, ?_, ?_⟩ <;> first | (simp [go_sem]; done) | (simp; omega))
  have hf : ∀ o, W.frozen? ⟨w.heap.size, o, none⟩ = false := fun o => by subst hW; simp [go_sem]
  clear hW
  refine (HK.out _).mono ?_
  rintro e w1 ⟨rfl, hb1⟩
  have hw1 := below_on hw hb1
  have hf1 : ∀ o, w1.frozen? ⟨w.heap.size, o, none⟩ = false := fun o => ((bcell hb1).2 _ o hx.1).trans (hf o)
  obtain ⟨x0, c0, c1, c2, c3, c4, c5, c6, c7, c8, c9⟩ := c10_on hx hb1
  clear hx hf hb1 hw HK
  go_upto_region 2 with fail
  generalize hW2 : World.alloc _ _ = W2
  have hw2 : Below w1.heap.size w1 W2 := by subst hW2; go_grown
  have hy : C10 W2 w1.heap.size ⟨2, 0, 0, 0, 0, 0, 0, 0, 0⟩ (.slice none 0 0) := by subst hW2; exact (by refine ⟨?_, ?_, ?_, ?_, ?_, ?_, ?_, ?_, ?_, ?_, ?_⟩ <;> first | (simp [go_sem]; done) | (simp; omega))
  have hx2 : C10 W2 w.heap.size ⟨0, 0, 0, 0, 0, 0, 0, 0, 0⟩ (.slice none 0 0) := c10_on ⟨x0, c0, c1, c2, c3, c4, c5, c6, c7, c8, c9⟩ hw2
  have hf2 : ∀ o, W2.frozen? ⟨w.heap.size, o, none⟩ = false := fun o => ((bcell hw2).2 _ o x0).trans (hf1 o)
  have hww := below_on hw1 hw2
  have HFY : Hid (∀ o, W2.frozen? ⟨w1.heap.size, o, none⟩ = false) := fun o => by subst hW2; simp [go_sem]
  have x0' : w.heap.size < w1.heap.size := x0
  clear hW2 x0 c0 c1 c2 c3 c4 c5 c6 c7 c8 c9 hf1 hw1 hw2
  obtain ⟨y0, d0, d1, d2, d3, d4, d5, d6, d7, d8, d9⟩ := hy
  obtain ⟨x0, c0, c1, c2, c3, c4, c5, c6, c7, c8, c9⟩ := hx2
  have hfy : ∀ o, W2.frozen? ⟨w1.heap.size, o, none⟩ = false := HFY.out
  go_upto_region 5 with fail
  generalize hW4 : World.alloc _ _ = W4
  have hw4 : Below W2.heap.size W2 W4 := by subst hW4; go_grown
  have hz4 : C7 W4 W2.heap.size ak am a b c d n := by subst hW4; exact (by refine ⟨?_, ?_, ?_, ?_, ?_, ?_, ?_, ?_⟩ <;> first | (simp [go_sem]; done) | (simp; omega))
  have hx4 := c10_on (h := ⟨0, 0, 0, 0, 0, 0, 0, 0, 0⟩) ⟨x0, c0, c1, c2, c3, c4, c5, c6, c7, c8, c9⟩ hw4
  have hy4 := c10_on (h := ⟨2, 0, 0, 0, 0, 0, 0, 0, 0⟩) ⟨y0, d0, d1, d2, d3, d4, d5, d6, d7, d8, d9⟩ hw4
  have hf4 : ∀ o, W4.frozen? ⟨w.heap.size, o, none⟩ = false := fun o => ((bcell hw4).2 _ o x0).trans (hf2 o)
  have hg4 : ∀ o, W4.frozen? ⟨w1.heap.size, o, none⟩ = false := fun o => ((bcell hw4).2 _ o y0).trans (hfy o)
  have hne := x0'
  have hww4 := below_on hww hw4
  clear hW4 hw4 hww hf2 hfy hta htb x0 c0 c1 c2 c3 c4 c5 c6 c7 c8 c9 y0 d0 d1 d2 d3 d4 d5 d6 d7 d8 d9
  obtain ⟨z0, e0, e1, e2, e3, e4, e5, e6⟩ := hz4
  obtain ⟨y0, d0, d1, d2, d3, d4, d5, d6, d7, d8, d9⟩ := hy4
  obtain ⟨x0, c0, c1, c2, c3, c4, c5, c6, c7, c8, c9⟩ := hx4
  go_upto_region 9 with fail
  generalize hW5 : World.setCell _ _ _ = W5
  have hle := Nat.le_of_lt hne
  have hww : Below w.heap.size w W5 := by subst hW5; exact ((((((hww4.setCell hle _).setCell hle _).setCell hle _).setCell hle _).setCell hle _).setCell hle _).setCell hle _
  have hy5 : C10 W5 w1.heap.size ⟨2, ak, am, a, b, c, d, n, 0⟩ (.slice none 0 0) := by subst hW5; refine ⟨by simpa [World.setCell] using y0, ?_, ?_, ?_, ?_, ?_, ?_, ?_, ?_, ?_, ?_⟩ <;> simp [go_sem, *]
  have hx5 : C10 W5 w.heap.size ⟨0, 0, 0, 0, 0, 0, 0, 0, 0⟩ (.slice none 0 0) := by subst hW5; refine ⟨by simpa [World.setCell] using x0, ?_, ?_, ?_, ?_, ?_, ?_, ?_, ?_, ?_, ?_⟩ <;> simp [go_sem, *]
  have hf2 : ∀ o, W5.frozen? ⟨w.heap.size, o, none⟩ = false := fun o => by subst hW5; simp [go_sem, hf4]
  clear hW5 hf4 hg4 hww4 z0 e0 e1 e2 e3 e4 e5 e6 x0 c0 c1 c2 c3 c4 c5 c6 c7 c8 c9 y0 d0 d1 d2 d3 d4 d5 d6 d7 d8 d9
  obtain ⟨y0, d0, d1, d2, d3, d4, d5, d6, d7, d8, d9⟩ := hy5
  obtain ⟨x0, c0, c1, c2, c3, c4, c5, c6, c7, c8, c9⟩ := hx5
  go_wp2_with fail
  generalize hW3 : World.setCell _ _ _ = W3
  obtain ⟨hx3, hb3⟩ := put10b (h := ⟨0, 0, 0, 0, 0, 0, 0, 0, 0⟩) (s := .slice none 0 0) (g := ⟨2, ak, am, a, b, c, d, n, 0⟩) ⟨x0, c0, c1, c2, c3, c4, c5, c6, c7, c8, c9⟩ hW3
  have hw3 := hww.trans (hb3 w.heap.size (Nat.le_refl _))
  clear hW3 hb3 x0 c0 c1 c2 c3 c4 c5 c6 c7 c8 c9 y0 d0 d1 d2 d3 d4 d5 d6 d7 d8 d9 hf2
  obtain ⟨x0, c0, c1, c2, c3, c4, c5, c6, c7, c8, c9⟩ := hx3
  (try simp only [Exit.inBlock, Exit.then])
  refine bodyPost_ret (v := .agg #[.int .i64 2, .int .i64 ak, .int .i64 am, .int .i64 a, .int .i64 b, .int .i64 c, .int .i64 d, .int .i64 n, .int .i64 0, .slice none 0 0]) ?_ rfl ⟨rfl, hw3⟩
  rw [results_cell1 rfl]
  go_simp

/-- What ownFormula answers at a node. -/
theorem own_zero {h : FH} {len : Nat} (ho : ownB h len = true) (hk : h.k ≠ 2) : h.ak = 0 ∧ h.am = 0 ∧ h.a = 0 ∧ h.b = 0 ∧ h.c = 0 ∧ h.d = 0 ∧ h.n = 0 := by
  unfold ownB zB at ho
  rw [if_neg hk] at ho
  simp only [Bool.and_eq_true, decide_eq_true_eq] at ho
  exact ho.1.1
theorem own_v0 {h : FH} {len : Nat} (ho : ownB h len = true) (hq : qB h.k = false) : h.v = 0 := by
  unfold ownB at ho
  rw [hq] at ho
  simp only [Bool.and_eq_true, decide_eq_true_eq, Bool.false_eq_true, if_false] at ho
  exact ho.1.2

end Go.Proofs.Ytahilpccnabbgaa
