/- The contract of ownFormula: a node's own fields. -/
import Derived.Test.YtahilpccnabbgaaFormK
import Derived.Test.YtahilpccnabbgaaFormV
namespace Go.Proofs.Ytahilpccnabbgaa
open Go.RowKit

theorem put10b {w W : World} {b : Nat} {h g : FH} {s t : Value} (hx : C10 w b h s) (hW : ((((((((((w.setCell ⟨b, 0, none⟩ (.int .i64 g.k)).setCell ⟨b, 1, none⟩ (.int .i64 g.ak)).setCell ⟨b, 2, none⟩ (.int .i64 g.am)).setCell ⟨b, 3, none⟩ (.int .i64 g.a)).setCell ⟨b, 4, none⟩ (.int .i64 g.b)).setCell ⟨b, 5, none⟩ (.int .i64 g.c)).setCell ⟨b, 6, none⟩ (.int .i64 g.d)).setCell ⟨b, 7, none⟩ (.int .i64 g.n)).setCell ⟨b, 8, none⟩ (.int .i64 g.v)).setCell ⟨b, 9, none⟩ t) = W) : C10 W b g t ∧ ∀ B, B ≤ b → Below B w W := by
  subst hW
  obtain ⟨x0, c0, c1, c2, c3, c4, c5, c6, c7, c8, c9⟩ := hx
  refine ⟨⟨by simpa [World.setCell] using x0, ?_, ?_, ?_, ?_, ?_, ?_, ?_, ?_, ?_, ?_⟩, fun B hB => ((((((((((Below.refl _ _).setCell hB _).setCell hB _).setCell hB _).setCell hB _).setCell hB _).setCell hB _).setCell hB _).setCell hB _).setCell hB _).setCell hB _⟩
  all_goals simp [go_sem, *]

def OwT (h : FH) (w : World) (e : Ending) (w' : World) : Prop := e = .returned (.agg #[.int .i64 h.k, .int .i64 h.ak, .int .i64 h.am, .int .i64 h.a, .int .i64 h.b, .int .i64 h.c, .int .i64 h.d, .int .i64 h.n, .int .i64 h.v, .slice none 0 0]) ∧ Below w.heap.size w w'

set_option maxRecDepth 10000 in
set_option maxHeartbeats 1000000 in
theorem own_t0  (w : World) : Calls Try.prog 95 #[.iface 118 (.agg #[.bool true])] w (OwT ⟨0, 0, 0, 0, 0, 0, 0, 0, 0⟩ w) := by
  have hta := fun w => Try.ta_other 118 (.agg #[.bool true]) (.inl rfl) w
  have htb := fun w => Try.tb_other 118 (.agg #[.bool true]) (.inl rfl) w
  have HK := Lib.hid fun W => (show Calls Try.prog 146 #[.agg #[.bool true]] W (IntT 0 W) from kind_t true W)
  go_enter Try.func95, Try.ntmps95
  go_wp2_with fail
  generalize hW : World.alloc _ _ = W
  have hw : Below w.heap.size w W := by subst hW; go_grown
  have hx : C10 W w.heap.size ⟨0, 0, 0, 0, 0, 0, 0, 0, 0⟩ (.slice none 0 0) := by subst hW; exact (by refine ⟨?_, ?_, ?_, ?_, ?_, ?_, ?_, ?_, ?_, ?_, ?_⟩ <;> first | (simp [go_sem]; done) | (simp; omega))
  have hf : ∀ o, W.frozen? ⟨w.heap.size, o, none⟩ = false := fun o => by subst hW; simp [go_sem]
  clear hW
  refine (HK.out _).mono ?_
  rintro e w1 ⟨rfl, hb1⟩
  have hw1 := below_on hw hb1
  have hf1 : ∀ o, w1.frozen? ⟨w.heap.size, o, none⟩ = false := fun o => ((bcell hb1).2 _ o hx.1).trans (hf o)
  obtain ⟨x0, c0, c1, c2, c3, c4, c5, c6, c7, c8, c9⟩ := c10_on hx hb1
  clear hx hf hb1 hw HK
  go_upto_region 2 with fail
  generalize hW2 : World.alloc _ _ = W2
  have hw2 : Below w1.heap.size w1 W2 := by subst hW2; go_grown
  have hy : C10 W2 w1.heap.size ⟨0, 0, 0, 0, 0, 0, 0, 0, 0⟩ (.slice none 0 0) := by subst hW2; exact (by refine ⟨?_, ?_, ?_, ?_, ?_, ?_, ?_, ?_, ?_, ?_, ?_⟩ <;> first | (simp [go_sem]; done) | (simp; omega))
  have hx2 : C10 W2 w.heap.size ⟨0, 0, 0, 0, 0, 0, 0, 0, 0⟩ (.slice none 0 0) := c10_on ⟨x0, c0, c1, c2, c3, c4, c5, c6, c7, c8, c9⟩ hw2
  have hf2 : ∀ o, W2.frozen? ⟨w.heap.size, o, none⟩ = false := fun o => ((bcell hw2).2 _ o x0).trans (hf1 o)
  have hww := below_on hw1 hw2
  clear hW2 x0 c0 c1 c2 c3 c4 c5 c6 c7 c8 c9 hf1 hw1 hw2
  obtain ⟨y0, d0, d1, d2, d3, d4, d5, d6, d7, d8, d9⟩ := hy
  obtain ⟨x0, c0, c1, c2, c3, c4, c5, c6, c7, c8, c9⟩ := hx2
  go_upto_region 9 with fail
  clear hta htb
  go_wp2_with fail
  generalize hW3 : World.setCell _ _ _ = W3
  obtain ⟨hx3, hb3⟩ := put10b (h := ⟨0, 0, 0, 0, 0, 0, 0, 0, 0⟩) (s := .slice none 0 0) (g := ⟨0, 0, 0, 0, 0, 0, 0, 0, 0⟩) ⟨x0, c0, c1, c2, c3, c4, c5, c6, c7, c8, c9⟩ hW3
  have hw3 := hww.trans (hb3 w.heap.size (Nat.le_refl _))
  clear hW3 hb3 x0 c0 c1 c2 c3 c4 c5 c6 c7 c8 c9 y0 d0 d1 d2 d3 d4 d5 d6 d7 d8 d9 hf2
  obtain ⟨x0, c0, c1, c2, c3, c4, c5, c6, c7, c8, c9⟩ := hx3
  (try simp only [Exit.inBlock, Exit.then])
  refine bodyPost_ret (v := .agg #[.int .i64 0, .int .i64 0, .int .i64 0, .int .i64 0, .int .i64 0, .int .i64 0, .int .i64 0, .int .i64 0, .int .i64 0, .slice none 0 0]) ?_ rfl ⟨rfl, hw3⟩
  rw [results_cell1 rfl]
  go_simp

set_option maxRecDepth 10000 in
set_option maxHeartbeats 1000000 in
theorem own_t1  (w : World) : Calls Try.prog 95 #[.iface 118 (.agg #[.bool false])] w (OwT ⟨1, 0, 0, 0, 0, 0, 0, 0, 0⟩ w) := by
  have hta := fun w => Try.ta_other 118 (.agg #[.bool false]) (.inl rfl) w
  have htb := fun w => Try.tb_other 118 (.agg #[.bool false]) (.inl rfl) w
  have HK := Lib.hid fun W => (show Calls Try.prog 146 #[.agg #[.bool false]] W (IntT 1 W) from kind_t false W)
  go_enter Try.func95, Try.ntmps95
  go_wp2_with fail
  generalize hW : World.alloc _ _ = W
  have hw : Below w.heap.size w W := by subst hW; go_grown
  have hx : C10 W w.heap.size ⟨0, 0, 0, 0, 0, 0, 0, 0, 0⟩ (.slice none 0 0) := by subst hW; exact (by refine ⟨?_, ?_, ?_, ?_, ?_, ?_, ?_, ?_, ?_, ?_, ?_⟩ <;> first | (simp [go_sem]; done) | (simp; omega))
  have hf : ∀ o, W.frozen? ⟨w.heap.size, o, none⟩ = false := fun o => by subst hW; simp [go_sem]
  clear hW
  refine (HK.out _).mono ?_
  rintro e w1 ⟨rfl, hb1⟩
  have hw1 := below_on hw hb1
  have hf1 : ∀ o, w1.frozen? ⟨w.heap.size, o, none⟩ = false := fun o => ((bcell hb1).2 _ o hx.1).trans (hf o)
  obtain ⟨x0, c0, c1, c2, c3, c4, c5, c6, c7, c8, c9⟩ := c10_on hx hb1
  clear hx hf hb1 hw HK
  go_upto_region 2 with fail
  generalize hW2 : World.alloc _ _ = W2
  have hw2 : Below w1.heap.size w1 W2 := by subst hW2; go_grown
  have hy : C10 W2 w1.heap.size ⟨1, 0, 0, 0, 0, 0, 0, 0, 0⟩ (.slice none 0 0) := by subst hW2; exact (by refine ⟨?_, ?_, ?_, ?_, ?_, ?_, ?_, ?_, ?_, ?_, ?_⟩ <;> first | (simp [go_sem]; done) | (simp; omega))
  have hx2 : C10 W2 w.heap.size ⟨0, 0, 0, 0, 0, 0, 0, 0, 0⟩ (.slice none 0 0) := c10_on ⟨x0, c0, c1, c2, c3, c4, c5, c6, c7, c8, c9⟩ hw2
  have hf2 : ∀ o, W2.frozen? ⟨w.heap.size, o, none⟩ = false := fun o => ((bcell hw2).2 _ o x0).trans (hf1 o)
  have hww := below_on hw1 hw2
  clear hW2 x0 c0 c1 c2 c3 c4 c5 c6 c7 c8 c9 hf1 hw1 hw2
  obtain ⟨y0, d0, d1, d2, d3, d4, d5, d6, d7, d8, d9⟩ := hy
  obtain ⟨x0, c0, c1, c2, c3, c4, c5, c6, c7, c8, c9⟩ := hx2
  go_upto_region 9 with fail
  clear hta htb
  go_wp2_with fail
  generalize hW3 : World.setCell _ _ _ = W3
  obtain ⟨hx3, hb3⟩ := put10b (h := ⟨0, 0, 0, 0, 0, 0, 0, 0, 0⟩) (s := .slice none 0 0) (g := ⟨1, 0, 0, 0, 0, 0, 0, 0, 0⟩) ⟨x0, c0, c1, c2, c3, c4, c5, c6, c7, c8, c9⟩ hW3
  have hw3 := hww.trans (hb3 w.heap.size (Nat.le_refl _))
  clear hW3 hb3 x0 c0 c1 c2 c3 c4 c5 c6 c7 c8 c9 y0 d0 d1 d2 d3 d4 d5 d6 d7 d8 d9 hf2
  obtain ⟨x0, c0, c1, c2, c3, c4, c5, c6, c7, c8, c9⟩ := hx3
  (try simp only [Exit.inBlock, Exit.then])
  refine bodyPost_ret (v := .agg #[.int .i64 1, .int .i64 0, .int .i64 0, .int .i64 0, .int .i64 0, .int .i64 0, .int .i64 0, .int .i64 0, .int .i64 0, .slice none 0 0]) ?_ rfl ⟨rfl, hw3⟩
  rw [results_cell1 rfl]
  go_simp

set_option maxRecDepth 10000 in
set_option maxHeartbeats 1000000 in
theorem own_n (t : TypeId) (y : Value) (w : World) : Calls Try.prog 95 #[.iface 95 (.agg #[.iface t y])] w (OwT ⟨3, 0, 0, 0, 0, 0, 0, 0, 0⟩ w) := by
  have hta := fun w => Try.ta_other 95 (.agg #[.iface t y]) (.inr (.inl rfl)) w
  have htb := fun w => Try.tb_other 95 (.agg #[.iface t y]) (.inr (.inl rfl)) w
  have HK := Lib.hid fun W => kind_n t y W
  go_enter Try.func95, Try.ntmps95
  go_wp2_with fail
  generalize hW : World.alloc _ _ = W
  have hw : Below w.heap.size w W := by subst hW; go_grown
  have hx : C10 W w.heap.size ⟨0, 0, 0, 0, 0, 0, 0, 0, 0⟩ (.slice none 0 0) := by subst hW; exact (by refine ⟨?_, ?_, ?_, ?_, ?_, ?_, ?_, ?_, ?_, ?_, ?_⟩ <;> first | (simp [go_sem]; done) | (simp; omega))
  have hf : ∀ o, W.frozen? ⟨w.heap.size, o, none⟩ = false := fun o => by subst hW; simp [go_sem]
  clear hW
  refine (HK.out _).mono ?_
  rintro e w1 ⟨rfl, hb1⟩
  have hw1 := below_on hw hb1
  have hf1 : ∀ o, w1.frozen? ⟨w.heap.size, o, none⟩ = false := fun o => ((bcell hb1).2 _ o hx.1).trans (hf o)
  obtain ⟨x0, c0, c1, c2, c3, c4, c5, c6, c7, c8, c9⟩ := c10_on hx hb1
  clear hx hf hb1 hw HK
  go_upto_region 2 with fail
  generalize hW2 : World.alloc _ _ = W2
  have hw2 : Below w1.heap.size w1 W2 := by subst hW2; go_grown
  have hy : C10 W2 w1.heap.size ⟨3, 0, 0, 0, 0, 0, 0, 0, 0⟩ (.slice none 0 0) := by subst hW2; exact (by refine ⟨?_, ?_, ?_, ?_, ?_, ?_, ?_, ?_, ?_, ?_, ?_⟩ <;> first | (simp [go_sem]; done) | (simp; omega))
  have hx2 : C10 W2 w.heap.size ⟨0, 0, 0, 0, 0, 0, 0, 0, 0⟩ (.slice none 0 0) := c10_on ⟨x0, c0, c1, c2, c3, c4, c5, c6, c7, c8, c9⟩ hw2
  have hf2 : ∀ o, W2.frozen? ⟨w.heap.size, o, none⟩ = false := fun o => ((bcell hw2).2 _ o x0).trans (hf1 o)
  have hww := below_on hw1 hw2
  clear hW2 x0 c0 c1 c2 c3 c4 c5 c6 c7 c8 c9 hf1 hw1 hw2
  obtain ⟨y0, d0, d1, d2, d3, d4, d5, d6, d7, d8, d9⟩ := hy
  obtain ⟨x0, c0, c1, c2, c3, c4, c5, c6, c7, c8, c9⟩ := hx2
  go_upto_region 9 with fail
  clear hta htb
  go_wp2_with fail
  generalize hW3 : World.setCell _ _ _ = W3
  obtain ⟨hx3, hb3⟩ := put10b (h := ⟨0, 0, 0, 0, 0, 0, 0, 0, 0⟩) (s := .slice none 0 0) (g := ⟨3, 0, 0, 0, 0, 0, 0, 0, 0⟩) ⟨x0, c0, c1, c2, c3, c4, c5, c6, c7, c8, c9⟩ hW3
  have hw3 := hww.trans (hb3 w.heap.size (Nat.le_refl _))
  clear hW3 hb3 x0 c0 c1 c2 c3 c4 c5 c6 c7 c8 c9 y0 d0 d1 d2 d3 d4 d5 d6 d7 d8 d9 hf2
  obtain ⟨x0, c0, c1, c2, c3, c4, c5, c6, c7, c8, c9⟩ := hx3
  (try simp only [Exit.inBlock, Exit.then])
  refine bodyPost_ret (v := .agg #[.int .i64 3, .int .i64 0, .int .i64 0, .int .i64 0, .int .i64 0, .int .i64 0, .int .i64 0, .int .i64 0, .int .i64 0, .slice none 0 0]) ?_ rfl ⟨rfl, hw3⟩
  rw [results_cell1 rfl]
  go_simp

set_option maxRecDepth 10000 in
set_option maxHeartbeats 1000000 in
theorem own_p4 (t t' : TypeId) (y y' : Value) (w : World) : Calls Try.prog 95 #[.iface 120 (.agg #[.bool true, .iface t y, .iface t' y'])] w (OwT ⟨4, 0, 0, 0, 0, 0, 0, 0, 0⟩ w) := by
  have hta := fun w => Try.ta_other 120 (.agg #[.bool true, .iface t y, .iface t' y']) (.inr (.inr (.inl rfl))) w
  have htb := fun w => Try.tb_other 120 (.agg #[.bool true, .iface t y, .iface t' y']) (.inr (.inr (.inl rfl))) w
  have HK := Lib.hid fun W => (show Calls Try.prog 148 #[.agg #[.bool true, .iface t y, .iface t' y']] W (IntT 4 W) from kind_p true t t' y y' W)
  go_enter Try.func95, Try.ntmps95
  go_wp2_with fail
  generalize hW : World.alloc _ _ = W
  have hw : Below w.heap.size w W := by subst hW; go_grown
  have hx : C10 W w.heap.size ⟨0, 0, 0, 0, 0, 0, 0, 0, 0⟩ (.slice none 0 0) := by subst hW; exact (by refine ⟨?_, ?_, ?_, ?_, ?_, ?_, ?_, ?_, ?_, ?_, ?_⟩ <;> first | (simp [go_sem]; done) | (simp; omega))
  have hf : ∀ o, W.frozen? ⟨w.heap.size, o, none⟩ = false := fun o => by subst hW; simp [go_sem]
  clear hW
  refine (HK.out _).mono ?_
  rintro e w1 ⟨rfl, hb1⟩
  have hw1 := below_on hw hb1
  have hf1 : ∀ o, w1.frozen? ⟨w.heap.size, o, none⟩ = false := fun o => ((bcell hb1).2 _ o hx.1).trans (hf o)
  obtain ⟨x0, c0, c1, c2, c3, c4, c5, c6, c7, c8, c9⟩ := c10_on hx hb1
  clear hx hf hb1 hw HK
  go_upto_region 2 with fail
  generalize hW2 : World.alloc _ _ = W2
  have hw2 : Below w1.heap.size w1 W2 := by subst hW2; go_grown
  have hy : C10 W2 w1.heap.size ⟨4, 0, 0, 0, 0, 0, 0, 0, 0⟩ (.slice none 0 0) := by subst hW2; exact (by refine ⟨?_, ?_, ?_, ?_, ?_, ?_, ?_, ?_, ?_, ?_, ?_⟩ <;> first | (simp [go_sem]; done) | (simp; omega))
  have hx2 : C10 W2 w.heap.size ⟨0, 0, 0, 0, 0, 0, 0, 0, 0⟩ (.slice none 0 0) := c10_on ⟨x0, c0, c1, c2, c3, c4, c5, c6, c7, c8, c9⟩ hw2
  have hf2 : ∀ o, W2.frozen? ⟨w.heap.size, o, none⟩ = false := fun o => ((bcell hw2).2 _ o x0).trans (hf1 o)
  have hww := below_on hw1 hw2
  clear hW2 x0 c0 c1 c2 c3 c4 c5 c6 c7 c8 c9 hf1 hw1 hw2
  obtain ⟨y0, d0, d1, d2, d3, d4, d5, d6, d7, d8, d9⟩ := hy
  obtain ⟨x0, c0, c1, c2, c3, c4, c5, c6, c7, c8, c9⟩ := hx2
  go_upto_region 9 with fail
  clear hta htb
  go_wp2_with fail
  generalize hW3 : World.setCell _ _ _ = W3
  obtain ⟨hx3, hb3⟩ := put10b (h := ⟨0, 0, 0, 0, 0, 0, 0, 0, 0⟩) (s := .slice none 0 0) (g := ⟨4, 0, 0, 0, 0, 0, 0, 0, 0⟩) ⟨x0, c0, c1, c2, c3, c4, c5, c6, c7, c8, c9⟩ hW3
  have hw3 := hww.trans (hb3 w.heap.size (Nat.le_refl _))
  clear hW3 hb3 x0 c0 c1 c2 c3 c4 c5 c6 c7 c8 c9 y0 d0 d1 d2 d3 d4 d5 d6 d7 d8 d9 hf2
  obtain ⟨x0, c0, c1, c2, c3, c4, c5, c6, c7, c8, c9⟩ := hx3
  (try simp only [Exit.inBlock, Exit.then])
  refine bodyPost_ret (v := .agg #[.int .i64 4, .int .i64 0, .int .i64 0, .int .i64 0, .int .i64 0, .int .i64 0, .int .i64 0, .int .i64 0, .int .i64 0, .slice none 0 0]) ?_ rfl ⟨rfl, hw3⟩
  rw [results_cell1 rfl]
  go_simp

set_option maxRecDepth 10000 in
set_option maxHeartbeats 1000000 in
theorem own_p5 (t t' : TypeId) (y y' : Value) (w : World) : Calls Try.prog 95 #[.iface 120 (.agg #[.bool false, .iface t y, .iface t' y'])] w (OwT ⟨5, 0, 0, 0, 0, 0, 0, 0, 0⟩ w) := by
  have hta := fun w => Try.ta_other 120 (.agg #[.bool false, .iface t y, .iface t' y']) (.inr (.inr (.inl rfl))) w
  have htb := fun w => Try.tb_other 120 (.agg #[.bool false, .iface t y, .iface t' y']) (.inr (.inr (.inl rfl))) w
  have HK := Lib.hid fun W => (show Calls Try.prog 148 #[.agg #[.bool false, .iface t y, .iface t' y']] W (IntT 5 W) from kind_p false t t' y y' W)
  go_enter Try.func95, Try.ntmps95
  go_wp2_with fail
  generalize hW : World.alloc _ _ = W
  have hw : Below w.heap.size w W := by subst hW; go_grown
  have hx : C10 W w.heap.size ⟨0, 0, 0, 0, 0, 0, 0, 0, 0⟩ (.slice none 0 0) := by subst hW; exact (by refine ⟨?_, ?_, ?_, ?_, ?_, ?_, ?_, ?_, ?_, ?_, ?_⟩ <;> first | (simp [go_sem]; done) | (simp; omega))
  have hf : ∀ o, W.frozen? ⟨w.heap.size, o, none⟩ = false := fun o => by subst hW; simp [go_sem]
  clear hW
  refine (HK.out _).mono ?_
  rintro e w1 ⟨rfl, hb1⟩
  have hw1 := below_on hw hb1
  have hf1 : ∀ o, w1.frozen? ⟨w.heap.size, o, none⟩ = false := fun o => ((bcell hb1).2 _ o hx.1).trans (hf o)
  obtain ⟨x0, c0, c1, c2, c3, c4, c5, c6, c7, c8, c9⟩ := c10_on hx hb1
  clear hx hf hb1 hw HK
  go_upto_region 2 with fail
  generalize hW2 : World.alloc _ _ = W2
  have hw2 : Below w1.heap.size w1 W2 := by subst hW2; go_grown
  have hy : C10 W2 w1.heap.size ⟨5, 0, 0, 0, 0, 0, 0, 0, 0⟩ (.slice none 0 0) := by subst hW2; exact (by refine ⟨?_, ?_, ?_, ?_, ?_, ?_, ?_, ?_, ?_, ?_, ?_⟩ <;> first | (simp [go_sem]; done) | (simp; omega))
  have hx2 : C10 W2 w.heap.size ⟨0, 0, 0, 0, 0, 0, 0, 0, 0⟩ (.slice none 0 0) := c10_on ⟨x0, c0, c1, c2, c3, c4, c5, c6, c7, c8, c9⟩ hw2
  have hf2 : ∀ o, W2.frozen? ⟨w.heap.size, o, none⟩ = false := fun o => ((bcell hw2).2 _ o x0).trans (hf1 o)
  have hww := below_on hw1 hw2
  clear hW2 x0 c0 c1 c2 c3 c4 c5 c6 c7 c8 c9 hf1 hw1 hw2
  obtain ⟨y0, d0, d1, d2, d3, d4, d5, d6, d7, d8, d9⟩ := hy
  obtain ⟨x0, c0, c1, c2, c3, c4, c5, c6, c7, c8, c9⟩ := hx2
  go_upto_region 9 with fail
  clear hta htb
  go_wp2_with fail
  generalize hW3 : World.setCell _ _ _ = W3
  obtain ⟨hx3, hb3⟩ := put10b (h := ⟨0, 0, 0, 0, 0, 0, 0, 0, 0⟩) (s := .slice none 0 0) (g := ⟨5, 0, 0, 0, 0, 0, 0, 0, 0⟩) ⟨x0, c0, c1, c2, c3, c4, c5, c6, c7, c8, c9⟩ hW3
  have hw3 := hww.trans (hb3 w.heap.size (Nat.le_refl _))
  clear hW3 hb3 x0 c0 c1 c2 c3 c4 c5 c6 c7 c8 c9 y0 d0 d1 d2 d3 d4 d5 d6 d7 d8 d9 hf2
  obtain ⟨x0, c0, c1, c2, c3, c4, c5, c6, c7, c8, c9⟩ := hx3
  (try simp only [Exit.inBlock, Exit.then])
  refine bodyPost_ret (v := .agg #[.int .i64 5, .int .i64 0, .int .i64 0, .int .i64 0, .int .i64 0, .int .i64 0, .int .i64 0, .int .i64 0, .int .i64 0, .slice none 0 0]) ?_ rfl ⟨rfl, hw3⟩
  rw [results_cell1 rfl]
  go_simp

set_option maxRecDepth 10000 in
set_option maxHeartbeats 1000000 in
theorem own_b6 (u : Int) (t : TypeId) (y : Value) (w : World) : Calls Try.prog 95 #[.iface 112 (.agg #[.bool true, .int .i64 u, .iface t y])] w (OwT ⟨6, 0, 0, 0, 0, 0, 0, 0, u⟩ w) := by
  have hta := fun w => Try.ta_other 112 (.agg #[.bool true, .int .i64 u, .iface t y]) (.inr (.inr (.inr rfl))) w
  have htb := fun w => Try.tb_bound true u (.iface t y) w
  have HK := Lib.hid fun W => (show Calls Try.prog 144 #[.agg #[.bool true, .int .i64 u, .iface t y]] W (IntT 6 W) from kind_b true u t y W)
  go_enter Try.func95, Try.ntmps95
  go_wp2_with fail
  generalize hW : World.alloc _ _ = W
  have hw : Below w.heap.size w W := by subst hW; go_grown
  have hx : C10 W w.heap.size ⟨0, 0, 0, 0, 0, 0, 0, 0, 0⟩ (.slice none 0 0) := by subst hW; exact (by refine ⟨?_, ?_, ?_, ?_, ?_, ?_, ?_, ?_, ?_, ?_, ?_⟩ <;> first | (simp [go_sem]; done) | (simp; omega))
  have hf : ∀ o, W.frozen? ⟨w.heap.size, o, none⟩ = false := fun o => by subst hW; simp [go_sem]
  clear hW
  refine (HK.out _).mono ?_
  rintro e w1 ⟨rfl, hb1⟩
  have hw1 := below_on hw hb1
  have hf1 : ∀ o, w1.frozen? ⟨w.heap.size, o, none⟩ = false := fun o => ((bcell hb1).2 _ o hx.1).trans (hf o)
  obtain ⟨x0, c0, c1, c2, c3, c4, c5, c6, c7, c8, c9⟩ := c10_on hx hb1
  clear hx hf hb1 hw HK
  go_upto_region 2 with fail
  generalize hW2 : World.alloc _ _ = W2
  have hw2 : Below w1.heap.size w1 W2 := by subst hW2; go_grown
  have hy : C10 W2 w1.heap.size ⟨6, 0, 0, 0, 0, 0, 0, 0, 0⟩ (.slice none 0 0) := by subst hW2; exact (by refine ⟨?_, ?_, ?_, ?_, ?_, ?_, ?_, ?_, ?_, ?_, ?_⟩ <;> first | (simp [go_sem]; done) | (simp; omega))
  have hx2 : C10 W2 w.heap.size ⟨0, 0, 0, 0, 0, 0, 0, 0, 0⟩ (.slice none 0 0) := c10_on ⟨x0, c0, c1, c2, c3, c4, c5, c6, c7, c8, c9⟩ hw2
  have hf2 : ∀ o, W2.frozen? ⟨w.heap.size, o, none⟩ = false := fun o => ((bcell hw2).2 _ o x0).trans (hf1 o)
  have hww := below_on hw1 hw2
  have HFY : Hid (∀ o, W2.frozen? ⟨w1.heap.size, o, none⟩ = false) := fun o => by subst hW2; simp [go_sem]
  have x0' : w.heap.size < w1.heap.size := x0
  clear hW2 x0 c0 c1 c2 c3 c4 c5 c6 c7 c8 c9 hf1 hw1 hw2
  obtain ⟨y0, d0, d1, d2, d3, d4, d5, d6, d7, d8, d9⟩ := hy
  obtain ⟨x0, c0, c1, c2, c3, c4, c5, c6, c7, c8, c9⟩ := hx2
  have hfy : ∀ o, W2.frozen? ⟨w1.heap.size, o, none⟩ = false := HFY.out
  go_upto_region 8 with fail
  generalize hW4 : World.alloc _ _ = W4
  have hw4 : Below W2.heap.size W2 W4 := by subst hW4; go_grown
  have e1 : W4.cell? ⟨W2.heap.size, 1, none⟩ = some (.int .i64 u) := by subst hW4; simp [go_sem]
  have hx4 := c10_on (h := ⟨0, 0, 0, 0, 0, 0, 0, 0, 0⟩) ⟨x0, c0, c1, c2, c3, c4, c5, c6, c7, c8, c9⟩ hw4
  have hy4 := c10_on (h := ⟨6, 0, 0, 0, 0, 0, 0, 0, 0⟩) ⟨y0, d0, d1, d2, d3, d4, d5, d6, d7, d8, d9⟩ hw4
  have hf4 : ∀ o, W4.frozen? ⟨w.heap.size, o, none⟩ = false := fun o => ((bcell hw4).2 _ o x0).trans (hf2 o)
  have hg4 : ∀ o, W4.frozen? ⟨w1.heap.size, o, none⟩ = false := fun o => ((bcell hw4).2 _ o y0).trans (hfy o)
  have hne := x0'
  have hww4 := below_on hww hw4
  clear hW4 hw4 hww hf2 hfy hta htb x0 c0 c1 c2 c3 c4 c5 c6 c7 c8 c9 y0 d0 d1 d2 d3 d4 d5 d6 d7 d8 d9
  obtain ⟨y0, d0, d1, d2, d3, d4, d5, d6, d7, d8, d9⟩ := hy4
  obtain ⟨x0, c0, c1, c2, c3, c4, c5, c6, c7, c8, c9⟩ := hx4
  go_upto_region 9 with fail
  generalize hW5 : World.setCell _ _ _ = W5
  have hww : Below w.heap.size w W5 := by subst hW5; exact hww4.setCell (Nat.le_of_lt hne) _
  have hy5 : C10 W5 w1.heap.size ⟨6, 0, 0, 0, 0, 0, 0, 0, u⟩ (.slice none 0 0) := by subst hW5; refine ⟨by simpa [World.setCell] using y0, ?_, ?_, ?_, ?_, ?_, ?_, ?_, ?_, ?_, ?_⟩ <;> simp [go_sem, *]
  have hx5 : C10 W5 w.heap.size ⟨0, 0, 0, 0, 0, 0, 0, 0, 0⟩ (.slice none 0 0) := by subst hW5; refine ⟨by simpa [World.setCell] using x0, ?_, ?_, ?_, ?_, ?_, ?_, ?_, ?_, ?_, ?_⟩ <;> simp [go_sem, *]
  have hf2 : ∀ o, W5.frozen? ⟨w.heap.size, o, none⟩ = false := fun o => by subst hW5; simp [go_sem, hf4]
  clear hW5 hf4 hg4 hww4 e1 x0 c0 c1 c2 c3 c4 c5 c6 c7 c8 c9 y0 d0 d1 d2 d3 d4 d5 d6 d7 d8 d9
  obtain ⟨y0, d0, d1, d2, d3, d4, d5, d6, d7, d8, d9⟩ := hy5
  obtain ⟨x0, c0, c1, c2, c3, c4, c5, c6, c7, c8, c9⟩ := hx5
  go_wp2_with fail
  generalize hW3 : World.setCell _ _ _ = W3
  obtain ⟨hx3, hb3⟩ := put10b (h := ⟨0, 0, 0, 0, 0, 0, 0, 0, 0⟩) (s := .slice none 0 0) (g := ⟨6, 0, 0, 0, 0, 0, 0, 0, u⟩) ⟨x0, c0, c1, c2, c3, c4, c5, c6, c7, c8, c9⟩ hW3
  have hw3 := hww.trans (hb3 w.heap.size (Nat.le_refl _))
  clear hW3 hb3 x0 c0 c1 c2 c3 c4 c5 c6 c7 c8 c9 y0 d0 d1 d2 d3 d4 d5 d6 d7 d8 d9 hf2
  obtain ⟨x0, c0, c1, c2, c3, c4, c5, c6, c7, c8, c9⟩ := hx3
  (try simp only [Exit.inBlock, Exit.then])
  refine bodyPost_ret (v := .agg #[.int .i64 6, .int .i64 0, .int .i64 0, .int .i64 0, .int .i64 0, .int .i64 0, .int .i64 0, .int .i64 0, .int .i64 u, .slice none 0 0]) ?_ rfl ⟨rfl, hw3⟩
  rw [results_cell1 rfl]
  go_simp

set_option maxRecDepth 10000 in
set_option maxHeartbeats 1000000 in
theorem own_b7 (u : Int) (t : TypeId) (y : Value) (w : World) : Calls Try.prog 95 #[.iface 112 (.agg #[.bool false, .int .i64 u, .iface t y])] w (OwT ⟨7, 0, 0, 0, 0, 0, 0, 0, u⟩ w) := by
  have hta := fun w => Try.ta_other 112 (.agg #[.bool false, .int .i64 u, .iface t y]) (.inr (.inr (.inr rfl))) w
  have htb := fun w => Try.tb_bound false u (.iface t y) w
  have HK := Lib.hid fun W => (show Calls Try.prog 144 #[.agg #[.bool false, .int .i64 u, .iface t y]] W (IntT 7 W) from kind_b false u t y W)
  go_enter Try.func95, Try.ntmps95
  go_wp2_with fail
  generalize hW : World.alloc _ _ = W
  have hw : Below w.heap.size w W := by subst hW; go_grown
  have hx : C10 W w.heap.size ⟨0, 0, 0, 0, 0, 0, 0, 0, 0⟩ (.slice none 0 0) := by subst hW; exact (by refine ⟨?_, ?_, ?_, ?_, ?_, ?_, ?_, ?_, ?_, ?_, ?_⟩ <;> first | (simp [go_sem]; done) | (simp; omega))
  have hf : ∀ o, W.frozen? ⟨w.heap.size, o, none⟩ = false := fun o => by subst hW; simp [go_sem]
  clear hW
  refine (HK.out _).mono ?_
  rintro e w1 ⟨rfl, hb1⟩
  have hw1 := below_on hw hb1
  have hf1 : ∀ o, w1.frozen? ⟨w.heap.size, o, none⟩ = false := fun o => ((bcell hb1).2 _ o hx.1).trans (hf o)
  obtain ⟨x0, c0, c1, c2, c3, c4, c5, c6, c7, c8, c9⟩ := c10_on hx hb1
  clear hx hf hb1 hw HK
  go_upto_region 2 with fail
  generalize hW2 : World.alloc _ _ = W2
  have hw2 : Below w1.heap.size w1 W2 := by subst hW2; go_grown
  have hy : C10 W2 w1.heap.size ⟨7, 0, 0, 0, 0, 0, 0, 0, 0⟩ (.slice none 0 0) := by subst hW2; exact (by refine ⟨?_, ?_, ?_, ?_, ?_, ?_, ?_, ?_, ?_, ?_, ?_⟩ <;> first | (simp [go_sem]; done) | (simp; omega))
  have hx2 : C10 W2 w.heap.size ⟨0, 0, 0, 0, 0, 0, 0, 0, 0⟩ (.slice none 0 0) := c10_on ⟨x0, c0, c1, c2, c3, c4, c5, c6, c7, c8, c9⟩ hw2
  have hf2 : ∀ o, W2.frozen? ⟨w.heap.size, o, none⟩ = false := fun o => ((bcell hw2).2 _ o x0).trans (hf1 o)
  have hww := below_on hw1 hw2
  have HFY : Hid (∀ o, W2.frozen? ⟨w1.heap.size, o, none⟩ = false) := fun o => by subst hW2; simp [go_sem]
  have x0' : w.heap.size < w1.heap.size := x0
  clear hW2 x0 c0 c1 c2 c3 c4 c5 c6 c7 c8 c9 hf1 hw1 hw2
  obtain ⟨y0, d0, d1, d2, d3, d4, d5, d6, d7, d8, d9⟩ := hy
  obtain ⟨x0, c0, c1, c2, c3, c4, c5, c6, c7, c8, c9⟩ := hx2
  have hfy : ∀ o, W2.frozen? ⟨w1.heap.size, o, none⟩ = false := HFY.out
  go_upto_region 8 with fail
  generalize hW4 : World.alloc _ _ = W4
  have hw4 : Below W2.heap.size W2 W4 := by subst hW4; go_grown
  have e1 : W4.cell? ⟨W2.heap.size, 1, none⟩ = some (.int .i64 u) := by subst hW4; simp [go_sem]
  have hx4 := c10_on (h := ⟨0, 0, 0, 0, 0, 0, 0, 0, 0⟩) ⟨x0, c0, c1, c2, c3, c4, c5, c6, c7, c8, c9⟩ hw4
  have hy4 := c10_on (h := ⟨7, 0, 0, 0, 0, 0, 0, 0, 0⟩) ⟨y0, d0, d1, d2, d3, d4, d5, d6, d7, d8, d9⟩ hw4
  have hf4 : ∀ o, W4.frozen? ⟨w.heap.size, o, none⟩ = false := fun o => ((bcell hw4).2 _ o x0).trans (hf2 o)
  have hg4 : ∀ o, W4.frozen? ⟨w1.heap.size, o, none⟩ = false := fun o => ((bcell hw4).2 _ o y0).trans (hfy o)
  have hne := x0'
  have hww4 := below_on hww hw4
  clear hW4 hw4 hww hf2 hfy hta htb x0 c0 c1 c2 c3 c4 c5 c6 c7 c8 c9 y0 d0 d1 d2 d3 d4 d5 d6 d7 d8 d9
  obtain ⟨y0, d0, d1, d2, d3, d4, d5, d6, d7, d8, d9⟩ := hy4
  obtain ⟨x0, c0, c1, c2, c3, c4, c5, c6, c7, c8, c9⟩ := hx4
  go_upto_region 9 with fail
  generalize hW5 : World.setCell _ _ _ = W5
  have hww : Below w.heap.size w W5 := by subst hW5; exact hww4.setCell (Nat.le_of_lt hne) _
  have hy5 : C10 W5 w1.heap.size ⟨7, 0, 0, 0, 0, 0, 0, 0, u⟩ (.slice none 0 0) := by subst hW5; refine ⟨by simpa [World.setCell] using y0, ?_, ?_, ?_, ?_, ?_, ?_, ?_, ?_, ?_, ?_⟩ <;> simp [go_sem, *]
  have hx5 : C10 W5 w.heap.size ⟨0, 0, 0, 0, 0, 0, 0, 0, 0⟩ (.slice none 0 0) := by subst hW5; refine ⟨by simpa [World.setCell] using x0, ?_, ?_, ?_, ?_, ?_, ?_, ?_, ?_, ?_, ?_⟩ <;> simp [go_sem, *]
  have hf2 : ∀ o, W5.frozen? ⟨w.heap.size, o, none⟩ = false := fun o => by subst hW5; simp [go_sem, hf4]
  clear hW5 hf4 hg4 hww4 e1 x0 c0 c1 c2 c3 c4 c5 c6 c7 c8 c9 y0 d0 d1 d2 d3 d4 d5 d6 d7 d8 d9
  obtain ⟨y0, d0, d1, d2, d3, d4, d5, d6, d7, d8, d9⟩ := hy5
  obtain ⟨x0, c0, c1, c2, c3, c4, c5, c6, c7, c8, c9⟩ := hx5
  go_wp2_with fail
  generalize hW3 : World.setCell _ _ _ = W3
  obtain ⟨hx3, hb3⟩ := put10b (h := ⟨0, 0, 0, 0, 0, 0, 0, 0, 0⟩) (s := .slice none 0 0) (g := ⟨7, 0, 0, 0, 0, 0, 0, 0, u⟩) ⟨x0, c0, c1, c2, c3, c4, c5, c6, c7, c8, c9⟩ hW3
  have hw3 := hww.trans (hb3 w.heap.size (Nat.le_refl _))
  clear hW3 hb3 x0 c0 c1 c2 c3 c4 c5 c6 c7 c8 c9 y0 d0 d1 d2 d3 d4 d5 d6 d7 d8 d9 hf2
  obtain ⟨x0, c0, c1, c2, c3, c4, c5, c6, c7, c8, c9⟩ := hx3
  (try simp only [Exit.inBlock, Exit.then])
  refine bodyPost_ret (v := .agg #[.int .i64 7, .int .i64 0, .int .i64 0, .int .i64 0, .int .i64 0, .int .i64 0, .int .i64 0, .int .i64 0, .int .i64 u, .slice none 0 0]) ?_ rfl ⟨rfl, hw3⟩
  rw [results_cell1 rfl]
  go_simp

end Go.Proofs.Ytahilpccnabbgaa
