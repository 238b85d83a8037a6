/- Several texts in one: FormV OwnF OwnG Own3 FormP HeldF Sep SepM FoOf FoOg FormQ. -/
import Derived.Test.YtmkflokcficmoaaDoorFormU
import Derived.Test.YtmkflokcficmoaaDoorFormS
import Derived.Test.YtmkflokcficmoaaDoorFormK
import Derived.Test.YtmkflokcficmoaaDoorOwn2
import Derived.Test.YtmkflokcficmoaaDoorFormC
import Derived.Test.YtmkflokcficmoaaDoorFormR
import Derived.Deep.RegionHeld3

/- Free variables: the contracts of the program's freeIn and FreeVars. -/
namespace Go.Proofs.YtmkflokcficmoaaDoor
open Go.RowKit

/-- Four bools in the cells of a block that may be written. -/
def R4 (W : World) (r : Nat) (a b c d : Bool) : Prop := r < W.heap.size ∧ W.cell? ⟨r, 0, none⟩ = some (.bool a) ∧ W.cell? ⟨r, 1, none⟩ = some (.bool b) ∧ W.cell? ⟨r, 2, none⟩ = some (.bool c) ∧ W.cell? ⟨r, 3, none⟩ = some (.bool d) ∧ ∀ o, W.frozen? ⟨r, o, none⟩ = false
theorem r4_on {W W' : World} {r : Nat} {a b c d : Bool} (h : R4 W r a b c d) (hb : Below W.heap.size W W') : R4 W' r a b c d :=
  have f : ∀ o, W'.cell? ⟨r, o, none⟩ = W.cell? ⟨r, o, none⟩ := fun o => (bcell hb).1 r o h.1
  ⟨Nat.lt_of_lt_of_le h.1 hb.size, (f 0).trans h.2.1, (f 1).trans h.2.2.1, (f 2).trans h.2.2.2.1, (f 3).trans h.2.2.2.2.1, fun o => ((bcell hb).2 r o h.1).trans (h.2.2.2.2.2 o)⟩
/-- The world inside of freeIn: its result's cells, and those of the bools that it gathers. -/
def FiS (w : World) (a b c d : Bool) (W : World) : Prop := Below w.heap.size w W ∧ R4 W w.heap.size false false false false ∧ R4 W (w.heap.size + 1) a b c d
theorem fiS_on {w W W' : World} {a b c d : Bool} (h : FiS w a b c d W) (hb : Below W.heap.size W W') : FiS w a b c d W' :=
  ⟨below_on h.1 hb, r4_on h.2.1 hb, r4_on h.2.2 hb⟩
theorem fiS_new (w : World) (t t' : TypeId) : FiS w false false false false ((w.alloc (.cells #[.bool false, .bool false, .bool false, .bool false] t)).alloc (.cells #[.bool false, .bool false, .bool false, .bool false] t')) := by
  refine ⟨by go_grown, ⟨by simp; omega, ?_, ?_, ?_, ?_, fun o => ?_⟩, ⟨by simp, ?_, ?_, ?_, ?_, fun o => ?_⟩⟩ <;> simp [go_sem]
theorem fiS_set0 {w W : World} {a b c d : Bool} (x : Bool) (h : FiS w a b c d W) : FiS w x b c d (W.setCell ⟨w.heap.size + 1, 0, none⟩ (.bool x)) := by
  obtain ⟨hb, ⟨h0, h1, h2, h3, h4, h5⟩, ⟨g0, g1, g2, g3, g4, g5⟩⟩ := h
  refine ⟨hb.setCell (Nat.le_succ _) _, ⟨by simpa [World.setCell] using h0, ?_, ?_, ?_, ?_, fun o => ?_⟩, ⟨by simpa [World.setCell] using g0, ?_, ?_, ?_, ?_, fun o => ?_⟩⟩ <;> simp [go_sem, *]
theorem fiS_set1 {w W : World} {a b c d : Bool} (x : Bool) (h : FiS w a b c d W) : FiS w a x c d (W.setCell ⟨w.heap.size + 1, 1, none⟩ (.bool x)) := by
  obtain ⟨hb, ⟨h0, h1, h2, h3, h4, h5⟩, ⟨g0, g1, g2, g3, g4, g5⟩⟩ := h
  refine ⟨hb.setCell (Nat.le_succ _) _, ⟨by simpa [World.setCell] using h0, ?_, ?_, ?_, ?_, fun o => ?_⟩, ⟨by simpa [World.setCell] using g0, ?_, ?_, ?_, ?_, fun o => ?_⟩⟩ <;> simp [go_sem, *]
theorem fiS_set2 {w W : World} {a b c d : Bool} (x : Bool) (h : FiS w a b c d W) : FiS w a b x d (W.setCell ⟨w.heap.size + 1, 2, none⟩ (.bool x)) := by
  obtain ⟨hb, ⟨h0, h1, h2, h3, h4, h5⟩, ⟨g0, g1, g2, g3, g4, g5⟩⟩ := h
  refine ⟨hb.setCell (Nat.le_succ _) _, ⟨by simpa [World.setCell] using h0, ?_, ?_, ?_, ?_, fun o => ?_⟩, ⟨by simpa [World.setCell] using g0, ?_, ?_, ?_, ?_, fun o => ?_⟩⟩ <;> simp [go_sem, *]
theorem fiS_set3 {w W : World} {a b c d : Bool} (x : Bool) (h : FiS w a b c d W) : FiS w a b c x (W.setCell ⟨w.heap.size + 1, 3, none⟩ (.bool x)) := by
  obtain ⟨hb, ⟨h0, h1, h2, h3, h4, h5⟩, ⟨g0, g1, g2, g3, g4, g5⟩⟩ := h
  refine ⟨hb.setCell (Nat.le_succ _) _, ⟨by simpa [World.setCell] using h0, ?_, ?_, ?_, ?_, fun o => ?_⟩, ⟨by simpa [World.setCell] using g0, ?_, ?_, ?_, ?_, fun o => ?_⟩⟩ <;> simp [go_sem, *]

def FiT (a b c d : Bool) (w : World) (e : Ending) (w' : World) : Prop := e = .returned (.agg #[.bool a, .bool b, .bool c, .bool d]) ∧ Below w.heap.size w w'
def mixB (k j : Nat) (a c : Bool) : Bool := if j < k then a || c else a
def InR (w : World) (a0 a1 a2 a3 c0 c1 c2 c3 : Bool) (i : Value) (wr : World) : Prop :=
  ∃ k : Nat, k ≤ 4 ∧ i = .int .i64 k ∧ FiS w (mixB k 0 a0 c0) (mixB k 1 a1 c1) (mixB k 2 a2 c2) (mixB k 3 a3 c3) wr

theorem results_cell1 {fn : Func} {p : Tmp} {ty : TypeId} (h : fn.results = #[.cell p ty]) (tmps : Array Value) (P : Program) (w : World) :
    (results fn tmps).run P w = ((asAddr (tmps.getD p undef)).run P w).andThen fun a w₁ => (loadVar ty a).run P w₁ := by
  simp only [results, h]
  simp [Sem.run_bind, Result.andThen]
theorem Tryd.tb_bound (b : Bool) (v : Int) (y : Value) (w : World) : (Instr.typeAssert (.iface 107 (.agg #[.bool b, .int .i64 v, y])) 79 107 true).run Tryd.prog w = .ok (.tuple #[.agg #[.bool b, .int .i64 v, y], .bool true]) w := by kernel_rfl
theorem Tryd.tb_other (t : TypeId) (y : Value) (h : t = 98 ∨ t = 105 ∨ t = 100 ∨ t = 109) (w : World) : (Instr.typeAssert (.iface t y) 79 107 true).run Tryd.prog w = .ok (.tuple #[.agg #[.bool false, .int .i64 0, .nilIface], .bool false]) w := by
  rcases h with rfl | rfl | rfl | rfl
  · kernel_rfl
  · kernel_rfl
  · kernel_rfl
  · kernel_rfl

end Go.Proofs.YtmkflokcficmoaaDoor

/- The contract of ownFormula: a node's own fields. -/
namespace Go.Proofs.YtmkflokcficmoaaDoor
open Go.RowKit

theorem put10b {w W : World} {b : Nat} {h g : FH} {s t : Value} (hx : C10 w b h s) (hW : ((((((((((w.setCell ⟨b, 0, none⟩ (.int .i64 g.k)).setCell ⟨b, 1, none⟩ (.int .i64 g.ak)).setCell ⟨b, 2, none⟩ (.int .i64 g.am)).setCell ⟨b, 3, none⟩ (.int .i64 g.a)).setCell ⟨b, 4, none⟩ (.int .i64 g.b)).setCell ⟨b, 5, none⟩ (.int .i64 g.c)).setCell ⟨b, 6, none⟩ (.int .i64 g.d)).setCell ⟨b, 7, none⟩ (.int .i64 g.n)).setCell ⟨b, 8, none⟩ (.int .i64 g.v)).setCell ⟨b, 9, none⟩ t) = W) : C10 W b g t ∧ ∀ B, B ≤ b → Below B w W := by
  subst hW
  obtain ⟨x0, c0, c1, c2, c3, c4, c5, c6, c7, c8, c9⟩ := hx
  refine ⟨⟨by simpa [World.setCell] using x0, ?_, ?_, ?_, ?_, ?_, ?_, ?_, ?_, ?_, ?_⟩, fun B hB => ((((((((((Below.refl _ _).setCell hB _).setCell hB _).setCell hB _).setCell hB _).setCell hB _).setCell hB _).setCell hB _).setCell hB _).setCell hB _).setCell hB _⟩
  all_goals simp [go_sem, *]

def OwT (h : FH) (w : World) (e : Ending) (w' : World) : Prop := e = .returned (.agg #[.int .i64 h.k, .int .i64 h.ak, .int .i64 h.am, .int .i64 h.a, .int .i64 h.b, .int .i64 h.c, .int .i64 h.d, .int .i64 h.n, .int .i64 h.v, .slice none 0 0]) ∧ Below w.heap.size w w'

set_option maxRecDepth 10000 in
set_option maxHeartbeats 1000000 in
theorem own_t0  (w : World) : Calls Tryd.prog 75 #[.iface 98 (.agg #[.bool true])] w (OwT ⟨0, 0, 0, 0, 0, 0, 0, 0, 0⟩ w) := by
  have hta := fun w => Tryd.ta_other 98 (.agg #[.bool true]) (.inl rfl) w
  have htb := fun w => Tryd.tb_other 98 (.agg #[.bool true]) (.inl rfl) w
  have HK := Lib.hid fun W => (show Calls Tryd.prog 105 #[.agg #[.bool true]] W (IntT 0 W) from kind_t true W)
  go_enter Tryd.func75, Tryd.ntmps75
  go_wp2_with fail
  generalize hW : World.alloc _ _ = W
  have hw : Below w.heap.size w W := by subst hW; go_grown
  have hx : C10 W w.heap.size ⟨0, 0, 0, 0, 0, 0, 0, 0, 0⟩ (.slice none 0 0) := by subst hW; exact (by refine ⟨?_, ?_, ?_, ?_, ?_, ?_, ?_, ?_, ?_, ?_, ?_⟩ <;> first | (simp [go_sem]; done) | (simp; omega))
  have hf : ∀ o, W.frozen? ⟨w.heap.size, o, none⟩ = false := fun o => by subst hW; simp [go_sem]
  clear hW
  refine (HK.out _).mono ?_
  rintro e w1 ⟨rfl, hb1⟩
  have hw1 := below_on hw hb1
  have hf1 : ∀ o, w1.frozen? ⟨w.heap.size, o, none⟩ = false := fun o => ((bcell hb1).2 _ o hx.1).trans (hf o)
  obtain ⟨x0, c0, c1, c2, c3, c4, c5, c6, c7, c8, c9⟩ := c10_on hx hb1
  clear hx hf hb1 hw HK
  go_upto_region 2 with fail
  generalize hW2 : World.alloc _ _ = W2
  have hw2 : Below w1.heap.size w1 W2 := by subst hW2; go_grown
  have hy : C10 W2 w1.heap.size ⟨0, 0, 0, 0, 0, 0, 0, 0, 0⟩ (.slice none 0 0) := by subst hW2; exact (by refine ⟨?_, ?_, ?_, ?_, ?_, ?_, ?_, ?_, ?_, ?_, ?_⟩ <;> first | (simp [go_sem]; done) | (simp; omega))
  have hx2 : C10 W2 w.heap.size ⟨0, 0, 0, 0, 0, 0, 0, 0, 0⟩ (.slice none 0 0) := c10_on ⟨x0, c0, c1, c2, c3, c4, c5, c6, c7, c8, c9⟩ hw2
  have hf2 : ∀ o, W2.frozen? ⟨w.heap.size, o, none⟩ = false := fun o => ((bcell hw2).2 _ o x0).trans (hf1 o)
  have hww := below_on hw1 hw2
  clear hW2 x0 c0 c1 c2 c3 c4 c5 c6 c7 c8 c9 hf1 hw1 hw2
  obtain ⟨y0, d0, d1, d2, d3, d4, d5, d6, d7, d8, d9⟩ := hy
  obtain ⟨x0, c0, c1, c2, c3, c4, c5, c6, c7, c8, c9⟩ := hx2
  go_upto_region 9 with fail
  clear hta htb
  go_wp2_with fail
  generalize hW3 : World.setCell _ _ _ = W3
  obtain ⟨hx3, hb3⟩ := put10b (h := ⟨0, 0, 0, 0, 0, 0, 0, 0, 0⟩) (s := .slice none 0 0) (g := ⟨0, 0, 0, 0, 0, 0, 0, 0, 0⟩) ⟨x0, c0, c1, c2, c3, c4, c5, c6, c7, c8, c9⟩ hW3
  have hw3 := hww.trans (hb3 w.heap.size (Nat.le_refl _))
  clear hW3 hb3 x0 c0 c1 c2 c3 c4 c5 c6 c7 c8 c9 y0 d0 d1 d2 d3 d4 d5 d6 d7 d8 d9 hf2
  obtain ⟨x0, c0, c1, c2, c3, c4, c5, c6, c7, c8, c9⟩ := hx3
  (try simp only [Exit.inBlock, Exit.then])
  refine bodyPost_ret (v := .agg #[.int .i64 0, .int .i64 0, .int .i64 0, .int .i64 0, .int .i64 0, .int .i64 0, .int .i64 0, .int .i64 0, .int .i64 0, .slice none 0 0]) ?_ rfl ⟨rfl, hw3⟩
  rw [results_cell1 rfl]
  go_simp

set_option maxRecDepth 10000 in
set_option maxHeartbeats 1000000 in
theorem own_t1  (w : World) : Calls Tryd.prog 75 #[.iface 98 (.agg #[.bool false])] w (OwT ⟨1, 0, 0, 0, 0, 0, 0, 0, 0⟩ w) := by
  have hta := fun w => Tryd.ta_other 98 (.agg #[.bool false]) (.inl rfl) w
  have htb := fun w => Tryd.tb_other 98 (.agg #[.bool false]) (.inl rfl) w
  have HK := Lib.hid fun W => (show Calls Tryd.prog 105 #[.agg #[.bool false]] W (IntT 1 W) from kind_t false W)
  go_enter Tryd.func75, Tryd.ntmps75
  go_wp2_with fail
  generalize hW : World.alloc _ _ = W
  have hw : Below w.heap.size w W := by subst hW; go_grown
  have hx : C10 W w.heap.size ⟨0, 0, 0, 0, 0, 0, 0, 0, 0⟩ (.slice none 0 0) := by subst hW; exact (by refine ⟨?_, ?_, ?_, ?_, ?_, ?_, ?_, ?_, ?_, ?_, ?_⟩ <;> first | (simp [go_sem]; done) | (simp; omega))
  have hf : ∀ o, W.frozen? ⟨w.heap.size, o, none⟩ = false := fun o => by subst hW; simp [go_sem]
  clear hW
  refine (HK.out _).mono ?_
  rintro e w1 ⟨rfl, hb1⟩
  have hw1 := below_on hw hb1
  have hf1 : ∀ o, w1.frozen? ⟨w.heap.size, o, none⟩ = false := fun o => ((bcell hb1).2 _ o hx.1).trans (hf o)
  obtain ⟨x0, c0, c1, c2, c3, c4, c5, c6, c7, c8, c9⟩ := c10_on hx hb1
  clear hx hf hb1 hw HK
  go_upto_region 2 with fail
  generalize hW2 : World.alloc _ _ = W2
  have hw2 : Below w1.heap.size w1 W2 := by subst hW2; go_grown
  have hy : C10 W2 w1.heap.size ⟨1, 0, 0, 0, 0, 0, 0, 0, 0⟩ (.slice none 0 0) := by subst hW2; exact (by refine ⟨?_, ?_, ?_, ?_, ?_, ?_, ?_, ?_, ?_, ?_, ?_⟩ <;> first | (simp [go_sem]; done) | (simp; omega))
  have hx2 : C10 W2 w.heap.size ⟨0, 0, 0, 0, 0, 0, 0, 0, 0⟩ (.slice none 0 0) := c10_on ⟨x0, c0, c1, c2, c3, c4, c5, c6, c7, c8, c9⟩ hw2
  have hf2 : ∀ o, W2.frozen? ⟨w.heap.size, o, none⟩ = false := fun o => ((bcell hw2).2 _ o x0).trans (hf1 o)
  have hww := below_on hw1 hw2
  clear hW2 x0 c0 c1 c2 c3 c4 c5 c6 c7 c8 c9 hf1 hw1 hw2
  obtain ⟨y0, d0, d1, d2, d3, d4, d5, d6, d7, d8, d9⟩ := hy
  obtain ⟨x0, c0, c1, c2, c3, c4, c5, c6, c7, c8, c9⟩ := hx2
  go_upto_region 9 with fail
  clear hta htb
  go_wp2_with fail
  generalize hW3 : World.setCell _ _ _ = W3
  obtain ⟨hx3, hb3⟩ := put10b (h := ⟨0, 0, 0, 0, 0, 0, 0, 0, 0⟩) (s := .slice none 0 0) (g := ⟨1, 0, 0, 0, 0, 0, 0, 0, 0⟩) ⟨x0, c0, c1, c2, c3, c4, c5, c6, c7, c8, c9⟩ hW3
  have hw3 := hww.trans (hb3 w.heap.size (Nat.le_refl _))
  clear hW3 hb3 x0 c0 c1 c2 c3 c4 c5 c6 c7 c8 c9 y0 d0 d1 d2 d3 d4 d5 d6 d7 d8 d9 hf2
  obtain ⟨x0, c0, c1, c2, c3, c4, c5, c6, c7, c8, c9⟩ := hx3
  (try simp only [Exit.inBlock, Exit.then])
  refine bodyPost_ret (v := .agg #[.int .i64 1, .int .i64 0, .int .i64 0, .int .i64 0, .int .i64 0, .int .i64 0, .int .i64 0, .int .i64 0, .int .i64 0, .slice none 0 0]) ?_ rfl ⟨rfl, hw3⟩
  rw [results_cell1 rfl]
  go_simp

set_option maxRecDepth 10000 in
set_option maxHeartbeats 1000000 in
theorem own_n (t : TypeId) (y : Value) (w : World) : Calls Tryd.prog 75 #[.iface 105 (.agg #[.iface t y])] w (OwT ⟨3, 0, 0, 0, 0, 0, 0, 0, 0⟩ w) := by
  have hta := fun w => Tryd.ta_other 105 (.agg #[.iface t y]) (.inr (.inl rfl)) w
  have htb := fun w => Tryd.tb_other 105 (.agg #[.iface t y]) (.inr (.inl rfl)) w
  have HK := Lib.hid fun W => kind_n t y W
  go_enter Tryd.func75, Tryd.ntmps75
  go_wp2_with fail
  generalize hW : World.alloc _ _ = W
  have hw : Below w.heap.size w W := by subst hW; go_grown
  have hx : C10 W w.heap.size ⟨0, 0, 0, 0, 0, 0, 0, 0, 0⟩ (.slice none 0 0) := by subst hW; exact (by refine ⟨?_, ?_, ?_, ?_, ?_, ?_, ?_, ?_, ?_, ?_, ?_⟩ <;> first | (simp [go_sem]; done) | (simp; omega))
  have hf : ∀ o, W.frozen? ⟨w.heap.size, o, none⟩ = false := fun o => by subst hW; simp [go_sem]
  clear hW
  refine (HK.out _).mono ?_
  rintro e w1 ⟨rfl, hb1⟩
  have hw1 := below_on hw hb1
  have hf1 : ∀ o, w1.frozen? ⟨w.heap.size, o, none⟩ = false := fun o => ((bcell hb1).2 _ o hx.1).trans (hf o)
  obtain ⟨x0, c0, c1, c2, c3, c4, c5, c6, c7, c8, c9⟩ := c10_on hx hb1
  clear hx hf hb1 hw HK
  go_upto_region 2 with fail
  generalize hW2 : World.alloc _ _ = W2
  have hw2 : Below w1.heap.size w1 W2 := by subst hW2; go_grown
  have hy : C10 W2 w1.heap.size ⟨3, 0, 0, 0, 0, 0, 0, 0, 0⟩ (.slice none 0 0) := by subst hW2; exact (by refine ⟨?_, ?_, ?_, ?_, ?_, ?_, ?_, ?_, ?_, ?_, ?_⟩ <;> first | (simp [go_sem]; done) | (simp; omega))
  have hx2 : C10 W2 w.heap.size ⟨0, 0, 0, 0, 0, 0, 0, 0, 0⟩ (.slice none 0 0) := c10_on ⟨x0, c0, c1, c2, c3, c4, c5, c6, c7, c8, c9⟩ hw2
  have hf2 : ∀ o, W2.frozen? ⟨w.heap.size, o, none⟩ = false := fun o => ((bcell hw2).2 _ o x0).trans (hf1 o)
  have hww := below_on hw1 hw2
  clear hW2 x0 c0 c1 c2 c3 c4 c5 c6 c7 c8 c9 hf1 hw1 hw2
  obtain ⟨y0, d0, d1, d2, d3, d4, d5, d6, d7, d8, d9⟩ := hy
  obtain ⟨x0, c0, c1, c2, c3, c4, c5, c6, c7, c8, c9⟩ := hx2
  go_upto_region 9 with fail
  clear hta htb
  go_wp2_with fail
  generalize hW3 : World.setCell _ _ _ = W3
  obtain ⟨hx3, hb3⟩ := put10b (h := ⟨0, 0, 0, 0, 0, 0, 0, 0, 0⟩) (s := .slice none 0 0) (g := ⟨3, 0, 0, 0, 0, 0, 0, 0, 0⟩) ⟨x0, c0, c1, c2, c3, c4, c5, c6, c7, c8, c9⟩ hW3
  have hw3 := hww.trans (hb3 w.heap.size (Nat.le_refl _))
  clear hW3 hb3 x0 c0 c1 c2 c3 c4 c5 c6 c7 c8 c9 y0 d0 d1 d2 d3 d4 d5 d6 d7 d8 d9 hf2
  obtain ⟨x0, c0, c1, c2, c3, c4, c5, c6, c7, c8, c9⟩ := hx3
  (try simp only [Exit.inBlock, Exit.then])
  refine bodyPost_ret (v := .agg #[.int .i64 3, .int .i64 0, .int .i64 0, .int .i64 0, .int .i64 0, .int .i64 0, .int .i64 0, .int .i64 0, .int .i64 0, .slice none 0 0]) ?_ rfl ⟨rfl, hw3⟩
  rw [results_cell1 rfl]
  go_simp

set_option maxRecDepth 10000 in
set_option maxHeartbeats 1000000 in
theorem own_p4 (t t' : TypeId) (y y' : Value) (w : World) : Calls Tryd.prog 75 #[.iface 100 (.agg #[.bool true, .iface t y, .iface t' y'])] w (OwT ⟨4, 0, 0, 0, 0, 0, 0, 0, 0⟩ w) := by
  have hta := fun w => Tryd.ta_other 100 (.agg #[.bool true, .iface t y, .iface t' y']) (.inr (.inr (.inl rfl))) w
  have htb := fun w => Tryd.tb_other 100 (.agg #[.bool true, .iface t y, .iface t' y']) (.inr (.inr (.inl rfl))) w
  have HK := Lib.hid fun W => (show Calls Tryd.prog 107 #[.agg #[.bool true, .iface t y, .iface t' y']] W (IntT 4 W) from kind_p true t t' y y' W)
  go_enter Tryd.func75, Tryd.ntmps75
  go_wp2_with fail
  generalize hW : World.alloc _ _ = W
  have hw : Below w.heap.size w W := by subst hW; go_grown
  have hx : C10 W w.heap.size ⟨0, 0, 0, 0, 0, 0, 0, 0, 0⟩ (.slice none 0 0) := by subst hW; exact (by refine ⟨?_, ?_, ?_, ?_, ?_, ?_, ?_, ?_, ?_, ?_, ?_⟩ <;> first | (simp [go_sem]; done) | (simp; omega))
  have hf : ∀ o, W.frozen? ⟨w.heap.size, o, none⟩ = false := fun o => by subst hW; simp [go_sem]
  clear hW
  refine (HK.out _).mono ?_
  rintro e w1 ⟨rfl, hb1⟩
  have hw1 := below_on hw hb1
  have hf1 : ∀ o, w1.frozen? ⟨w.heap.size, o, none⟩ = false := fun o => ((bcell hb1).2 _ o hx.1).trans (hf o)
  obtain ⟨x0, c0, c1, c2, c3, c4, c5, c6, c7, c8, c9⟩ := c10_on hx hb1
  clear hx hf hb1 hw HK
  go_upto_region 2 with fail
  generalize hW2 : World.alloc _ _ = W2
  have hw2 : Below w1.heap.size w1 W2 := by subst hW2; go_grown
  have hy : C10 W2 w1.heap.size ⟨4, 0, 0, 0, 0, 0, 0, 0, 0⟩ (.slice none 0 0) := by subst hW2; exact (by refine ⟨?_, ?_, ?_, ?_, ?_, ?_, ?_, ?_, ?_, ?_, ?_⟩ <;> first | (simp [go_sem]; done) | (simp; omega))
  have hx2 : C10 W2 w.heap.size ⟨0, 0, 0, 0, 0, 0, 0, 0, 0⟩ (.slice none 0 0) := c10_on ⟨x0, c0, c1, c2, c3, c4, c5, c6, c7, c8, c9⟩ hw2
  have hf2 : ∀ o, W2.frozen? ⟨w.heap.size, o, none⟩ = false := fun o => ((bcell hw2).2 _ o x0).trans (hf1 o)
  have hww := below_on hw1 hw2
  clear hW2 x0 c0 c1 c2 c3 c4 c5 c6 c7 c8 c9 hf1 hw1 hw2
  obtain ⟨y0, d0, d1, d2, d3, d4, d5, d6, d7, d8, d9⟩ := hy
  obtain ⟨x0, c0, c1, c2, c3, c4, c5, c6, c7, c8, c9⟩ := hx2
  go_upto_region 9 with fail
  clear hta htb
  go_wp2_with fail
  generalize hW3 : World.setCell _ _ _ = W3
  obtain ⟨hx3, hb3⟩ := put10b (h := ⟨0, 0, 0, 0, 0, 0, 0, 0, 0⟩) (s := .slice none 0 0) (g := ⟨4, 0, 0, 0, 0, 0, 0, 0, 0⟩) ⟨x0, c0, c1, c2, c3, c4, c5, c6, c7, c8, c9⟩ hW3
  have hw3 := hww.trans (hb3 w.heap.size (Nat.le_refl _))
  clear hW3 hb3 x0 c0 c1 c2 c3 c4 c5 c6 c7 c8 c9 y0 d0 d1 d2 d3 d4 d5 d6 d7 d8 d9 hf2
  obtain ⟨x0, c0, c1, c2, c3, c4, c5, c6, c7, c8, c9⟩ := hx3
  (try simp only [Exit.inBlock, Exit.then])
  refine bodyPost_ret (v := .agg #[.int .i64 4, .int .i64 0, .int .i64 0, .int .i64 0, .int .i64 0, .int .i64 0, .int .i64 0, .int .i64 0, .int .i64 0, .slice none 0 0]) ?_ rfl ⟨rfl, hw3⟩
  rw [results_cell1 rfl]
  go_simp

set_option maxRecDepth 10000 in
set_option maxHeartbeats 1000000 in
theorem own_p5 (t t' : TypeId) (y y' : Value) (w : World) : Calls Tryd.prog 75 #[.iface 100 (.agg #[.bool false, .iface t y, .iface t' y'])] w (OwT ⟨5, 0, 0, 0, 0, 0, 0, 0, 0⟩ w) := by
  have hta := fun w => Tryd.ta_other 100 (.agg #[.bool false, .iface t y, .iface t' y']) (.inr (.inr (.inl rfl))) w
  have htb := fun w => Tryd.tb_other 100 (.agg #[.bool false, .iface t y, .iface t' y']) (.inr (.inr (.inl rfl))) w
  have HK := Lib.hid fun W => (show Calls Tryd.prog 107 #[.agg #[.bool false, .iface t y, .iface t' y']] W (IntT 5 W) from kind_p false t t' y y' W)
  go_enter Tryd.func75, Tryd.ntmps75
  go_wp2_with fail
  generalize hW : World.alloc _ _ = W
  have hw : Below w.heap.size w W := by subst hW; go_grown
  have hx : C10 W w.heap.size ⟨0, 0, 0, 0, 0, 0, 0, 0, 0⟩ (.slice none 0 0) := by subst hW; exact (by refine ⟨?_, ?_, ?_, ?_, ?_, ?_, ?_, ?_, ?_, ?_, ?_⟩ <;> first | (simp [go_sem]; done) | (simp; omega))
  have hf : ∀ o, W.frozen? ⟨w.heap.size, o, none⟩ = false := fun o => by subst hW; simp [go_sem]
  clear hW
  refine (HK.out _).mono ?_
  rintro e w1 ⟨rfl, hb1⟩
  have hw1 := below_on hw hb1
  have hf1 : ∀ o, w1.frozen? ⟨w.heap.size, o, none⟩ = false := fun o => ((bcell hb1).2 _ o hx.1).trans (hf o)
  obtain ⟨x0, c0, c1, c2, c3, c4, c5, c6, c7, c8, c9⟩ := c10_on hx hb1
  clear hx hf hb1 hw HK
  go_upto_region 2 with fail
  generalize hW2 : World.alloc _ _ = W2
  have hw2 : Below w1.heap.size w1 W2 := by subst hW2; go_grown
  have hy : C10 W2 w1.heap.size ⟨5, 0, 0, 0, 0, 0, 0, 0, 0⟩ (.slice none 0 0) := by subst hW2; exact (by refine ⟨?_, ?_, ?_, ?_, ?_, ?_, ?_, ?_, ?_, ?_, ?_⟩ <;> first | (simp [go_sem]; done) | (simp; omega))
  have hx2 : C10 W2 w.heap.size ⟨0, 0, 0, 0, 0, 0, 0, 0, 0⟩ (.slice none 0 0) := c10_on ⟨x0, c0, c1, c2, c3, c4, c5, c6, c7, c8, c9⟩ hw2
  have hf2 : ∀ o, W2.frozen? ⟨w.heap.size, o, none⟩ = false := fun o => ((bcell hw2).2 _ o x0).trans (hf1 o)
  have hww := below_on hw1 hw2
  clear hW2 x0 c0 c1 c2 c3 c4 c5 c6 c7 c8 c9 hf1 hw1 hw2
  obtain ⟨y0, d0, d1, d2, d3, d4, d5, d6, d7, d8, d9⟩ := hy
  obtain ⟨x0, c0, c1, c2, c3, c4, c5, c6, c7, c8, c9⟩ := hx2
  go_upto_region 9 with fail
  clear hta htb
  go_wp2_with fail
  generalize hW3 : World.setCell _ _ _ = W3
  obtain ⟨hx3, hb3⟩ := put10b (h := ⟨0, 0, 0, 0, 0, 0, 0, 0, 0⟩) (s := .slice none 0 0) (g := ⟨5, 0, 0, 0, 0, 0, 0, 0, 0⟩) ⟨x0, c0, c1, c2, c3, c4, c5, c6, c7, c8, c9⟩ hW3
  have hw3 := hww.trans (hb3 w.heap.size (Nat.le_refl _))
  clear hW3 hb3 x0 c0 c1 c2 c3 c4 c5 c6 c7 c8 c9 y0 d0 d1 d2 d3 d4 d5 d6 d7 d8 d9 hf2
  obtain ⟨x0, c0, c1, c2, c3, c4, c5, c6, c7, c8, c9⟩ := hx3
  (try simp only [Exit.inBlock, Exit.then])
  refine bodyPost_ret (v := .agg #[.int .i64 5, .int .i64 0, .int .i64 0, .int .i64 0, .int .i64 0, .int .i64 0, .int .i64 0, .int .i64 0, .int .i64 0, .slice none 0 0]) ?_ rfl ⟨rfl, hw3⟩
  rw [results_cell1 rfl]
  go_simp

set_option maxRecDepth 10000 in
set_option maxHeartbeats 1000000 in
theorem own_b6 (u : Int) (t : TypeId) (y : Value) (w : World) : Calls Tryd.prog 75 #[.iface 107 (.agg #[.bool true, .int .i64 u, .iface t y])] w (OwT ⟨6, 0, 0, 0, 0, 0, 0, 0, u⟩ w) := by
  have hta := fun w => Tryd.ta_other 107 (.agg #[.bool true, .int .i64 u, .iface t y]) (.inr (.inr (.inr rfl))) w
  have htb := fun w => Tryd.tb_bound true u (.iface t y) w
  have HK := Lib.hid fun W => (show Calls Tryd.prog 111 #[.agg #[.bool true, .int .i64 u, .iface t y]] W (IntT 6 W) from kind_b true u t y W)
  go_enter Tryd.func75, Tryd.ntmps75
  go_wp2_with fail
  generalize hW : World.alloc _ _ = W
  have hw : Below w.heap.size w W := by subst hW; go_grown
  have hx : C10 W w.heap.size ⟨0, 0, 0, 0, 0, 0, 0, 0, 0⟩ (.slice none 0 0) := by subst hW; exact (by refine ⟨?_, ?_, ?_, ?_, ?_, ?_, ?_, ?_, ?_, ?_, ?_⟩ <;> first | (simp [go_sem]; done) | (simp; omega))
  have hf : ∀ o, W.frozen? ⟨w.heap.size, o, none⟩ = false := fun o => by subst hW; simp [go_sem]
  clear hW
  refine (HK.out _).mono ?_
  rintro e w1 ⟨rfl, hb1⟩
  have hw1 := below_on hw hb1
  have hf1 : ∀ o, w1.frozen? ⟨w.heap.size, o, none⟩ = false := fun o => ((bcell hb1).2 _ o hx.1).trans (hf o)
  obtain ⟨x0, c0, c1, c2, c3, c4, c5, c6, c7, c8, c9⟩ := c10_on hx hb1
  clear hx hf hb1 hw HK
  go_upto_region 2 with fail
  generalize hW2 : World.alloc _ _ = W2
  have hw2 : Below w1.heap.size w1 W2 := by subst hW2; go_grown
  have hy : C10 W2 w1.heap.size ⟨6, 0, 0, 0, 0, 0, 0, 0, 0⟩ (.slice none 0 0) := by subst hW2; exact (by refine ⟨?_, ?_, ?_, ?_, ?_, ?_, ?_, ?_, ?_, ?_, ?_⟩ <;> first | (simp [go_sem]; done) | (simp; omega))
  have hx2 : C10 W2 w.heap.size ⟨0, 0, 0, 0, 0, 0, 0, 0, 0⟩ (.slice none 0 0) := c10_on ⟨x0, c0, c1, c2, c3, c4, c5, c6, c7, c8, c9⟩ hw2
  have hf2 : ∀ o, W2.frozen? ⟨w.heap.size, o, none⟩ = false := fun o => ((bcell hw2).2 _ o x0).trans (hf1 o)
  have hww := below_on hw1 hw2
  have HFY : Hid (∀ o, W2.frozen? ⟨w1.heap.size, o, none⟩ = false) := fun o => by subst hW2; simp [go_sem]
  have x0' : w.heap.size < w1.heap.size := x0
  clear hW2 x0 c0 c1 c2 c3 c4 c5 c6 c7 c8 c9 hf1 hw1 hw2
  obtain ⟨y0, d0, d1, d2, d3, d4, d5, d6, d7, d8, d9⟩ := hy
  obtain ⟨x0, c0, c1, c2, c3, c4, c5, c6, c7, c8, c9⟩ := hx2
  have hfy : ∀ o, W2.frozen? ⟨w1.heap.size, o, none⟩ = false := HFY.out
  go_upto_region 8 with fail
  generalize hW4 : World.alloc _ _ = W4
  have hw4 : Below W2.heap.size W2 W4 := by subst hW4; go_grown
  have e1 : W4.cell? ⟨W2.heap.size, 1, none⟩ = some (.int .i64 u) := by subst hW4; simp [go_sem]
  have hx4 := c10_on (h := ⟨0, 0, 0, 0, 0, 0, 0, 0, 0⟩) ⟨x0, c0, c1, c2, c3, c4, c5, c6, c7, c8, c9⟩ hw4
  have hy4 := c10_on (h := ⟨6, 0, 0, 0, 0, 0, 0, 0, 0⟩) ⟨y0, d0, d1, d2, d3, d4, d5, d6, d7, d8, d9⟩ hw4
  have hf4 : ∀ o, W4.frozen? ⟨w.heap.size, o, none⟩ = false := fun o => ((bcell hw4).2 _ o x0).trans (hf2 o)
  have hg4 : ∀ o, W4.frozen? ⟨w1.heap.size, o, none⟩ = false := fun o => ((bcell hw4).2 _ o y0).trans (hfy o)
  have hne := x0'
  have hww4 := below_on hww hw4
  clear hW4 hw4 hww hf2 hfy hta htb x0 c0 c1 c2 c3 c4 c5 c6 c7 c8 c9 y0 d0 d1 d2 d3 d4 d5 d6 d7 d8 d9
  obtain ⟨y0, d0, d1, d2, d3, d4, d5, d6, d7, d8, d9⟩ := hy4
  obtain ⟨x0, c0, c1, c2, c3, c4, c5, c6, c7, c8, c9⟩ := hx4
  go_upto_region 9 with fail
  generalize hW5 : World.setCell _ _ _ = W5
  have hww : Below w.heap.size w W5 := by subst hW5; exact hww4.setCell (Nat.le_of_lt hne) _
  have hy5 : C10 W5 w1.heap.size ⟨6, 0, 0, 0, 0, 0, 0, 0, u⟩ (.slice none 0 0) := by subst hW5; refine ⟨by simpa [World.setCell] using y0, ?_, ?_, ?_, ?_, ?_, ?_, ?_, ?_, ?_, ?_⟩ <;> simp [go_sem, *]
  have hx5 : C10 W5 w.heap.size ⟨0, 0, 0, 0, 0, 0, 0, 0, 0⟩ (.slice none 0 0) := by subst hW5; refine ⟨by simpa [World.setCell] using x0, ?_, ?_, ?_, ?_, ?_, ?_, ?_, ?_, ?_, ?_⟩ <;> simp [go_sem, *]
  have hf2 : ∀ o, W5.frozen? ⟨w.heap.size, o, none⟩ = false := fun o => by subst hW5; simp [go_sem, hf4]
  clear hW5 hf4 hg4 hww4 e1 x0 c0 c1 c2 c3 c4 c5 c6 c7 c8 c9 y0 d0 d1 d2 d3 d4 d5 d6 d7 d8 d9
  obtain ⟨y0, d0, d1, d2, d3, d4, d5, d6, d7, d8, d9⟩ := hy5
  obtain ⟨x0, c0, c1, c2, c3, c4, c5, c6, c7, c8, c9⟩ := hx5
  go_wp2_with fail
  generalize hW3 : World.setCell _ _ _ = W3
  obtain ⟨hx3, hb3⟩ := put10b (h := ⟨0, 0, 0, 0, 0, 0, 0, 0, 0⟩) (s := .slice none 0 0) (g := ⟨6, 0, 0, 0, 0, 0, 0, 0, u⟩) ⟨x0, c0, c1, c2, c3, c4, c5, c6, c7, c8, c9⟩ hW3
  have hw3 := hww.trans (hb3 w.heap.size (Nat.le_refl _))
  clear hW3 hb3 x0 c0 c1 c2 c3 c4 c5 c6 c7 c8 c9 y0 d0 d1 d2 d3 d4 d5 d6 d7 d8 d9 hf2
  obtain ⟨x0, c0, c1, c2, c3, c4, c5, c6, c7, c8, c9⟩ := hx3
  (try simp only [Exit.inBlock, Exit.then])
  refine bodyPost_ret (v := .agg #[.int .i64 6, .int .i64 0, .int .i64 0, .int .i64 0, .int .i64 0, .int .i64 0, .int .i64 0, .int .i64 0, .int .i64 u, .slice none 0 0]) ?_ rfl ⟨rfl, hw3⟩
  rw [results_cell1 rfl]
  go_simp

set_option maxRecDepth 10000 in
set_option maxHeartbeats 1000000 in
theorem own_b7 (u : Int) (t : TypeId) (y : Value) (w : World) : Calls Tryd.prog 75 #[.iface 107 (.agg #[.bool false, .int .i64 u, .iface t y])] w (OwT ⟨7, 0, 0, 0, 0, 0, 0, 0, u⟩ w) := by
  have hta := fun w => Tryd.ta_other 107 (.agg #[.bool false, .int .i64 u, .iface t y]) (.inr (.inr (.inr rfl))) w
  have htb := fun w => Tryd.tb_bound false u (.iface t y) w
  have HK := Lib.hid fun W => (show Calls Tryd.prog 111 #[.agg #[.bool false, .int .i64 u, .iface t y]] W (IntT 7 W) from kind_b false u t y W)
  go_enter Tryd.func75, Tryd.ntmps75
  go_wp2_with fail
  generalize hW : World.alloc _ _ = W
  have hw : Below w.heap.size w W := by subst hW; go_grown
  have hx : C10 W w.heap.size ⟨0, 0, 0, 0, 0, 0, 0, 0, 0⟩ (.slice none 0 0) := by subst hW; exact (by refine ⟨?_, ?_, ?_, ?_, ?_, ?_, ?_, ?_, ?_, ?_, ?_⟩ <;> first | (simp [go_sem]; done) | (simp; omega))
  have hf : ∀ o, W.frozen? ⟨w.heap.size, o, none⟩ = false := fun o => by subst hW; simp [go_sem]
  clear hW
  refine (HK.out _).mono ?_
  rintro e w1 ⟨rfl, hb1⟩
  have hw1 := below_on hw hb1
  have hf1 : ∀ o, w1.frozen? ⟨w.heap.size, o, none⟩ = false := fun o => ((bcell hb1).2 _ o hx.1).trans (hf o)
  obtain ⟨x0, c0, c1, c2, c3, c4, c5, c6, c7, c8, c9⟩ := c10_on hx hb1
  clear hx hf hb1 hw HK
  go_upto_region 2 with fail
  generalize hW2 : World.alloc _ _ = W2
  have hw2 : Below w1.heap.size w1 W2 := by subst hW2; go_grown
  have hy : C10 W2 w1.heap.size ⟨7, 0, 0, 0, 0, 0, 0, 0, 0⟩ (.slice none 0 0) := by subst hW2; exact (by refine ⟨?_, ?_, ?_, ?_, ?_, ?_, ?_, ?_, ?_, ?_, ?_⟩ <;> first | (simp [go_sem]; done) | (simp; omega))
  have hx2 : C10 W2 w.heap.size ⟨0, 0, 0, 0, 0, 0, 0, 0, 0⟩ (.slice none 0 0) := c10_on ⟨x0, c0, c1, c2, c3, c4, c5, c6, c7, c8, c9⟩ hw2
  have hf2 : ∀ o, W2.frozen? ⟨w.heap.size, o, none⟩ = false := fun o => ((bcell hw2).2 _ o x0).trans (hf1 o)
  have hww := below_on hw1 hw2
  have HFY : Hid (∀ o, W2.frozen? ⟨w1.heap.size, o, none⟩ = false) := fun o => by subst hW2; simp [go_sem]
  have x0' : w.heap.size < w1.heap.size := x0
  clear hW2 x0 c0 c1 c2 c3 c4 c5 c6 c7 c8 c9 hf1 hw1 hw2
  obtain ⟨y0, d0, d1, d2, d3, d4, d5, d6, d7, d8, d9⟩ := hy
  obtain ⟨x0, c0, c1, c2, c3, c4, c5, c6, c7, c8, c9⟩ := hx2
  have hfy : ∀ o, W2.frozen? ⟨w1.heap.size, o, none⟩ = false := HFY.out
  go_upto_region 8 with fail
  generalize hW4 : World.alloc _ _ = W4
  have hw4 : Below W2.heap.size W2 W4 := by subst hW4; go_grown
  have e1 : W4.cell? ⟨W2.heap.size, 1, none⟩ = some (.int .i64 u) := by subst hW4; simp [go_sem]
  have hx4 := c10_on (h := ⟨0, 0, 0, 0, 0, 0, 0, 0, 0⟩) ⟨x0, c0, c1, c2, c3, c4, c5, c6, c7, c8, c9⟩ hw4
  have hy4 := c10_on (h := ⟨7, 0, 0, 0, 0, 0, 0, 0, 0⟩) ⟨y0, d0, d1, d2, d3, d4, d5, d6, d7, d8, d9⟩ hw4
  have hf4 : ∀ o, W4.frozen? ⟨w.heap.size, o, none⟩ = false := fun o => ((bcell hw4).2 _ o x0).trans (hf2 o)
  have hg4 : ∀ o, W4.frozen? ⟨w1.heap.size, o, none⟩ = false := fun o => ((bcell hw4).2 _ o y0).trans (hfy o)
  have hne := x0'
  have hww4 := below_on hww hw4
  clear hW4 hw4 hww hf2 hfy hta htb x0 c0 c1 c2 c3 c4 c5 c6 c7 c8 c9 y0 d0 d1 d2 d3 d4 d5 d6 d7 d8 d9
  obtain ⟨y0, d0, d1, d2, d3, d4, d5, d6, d7, d8, d9⟩ := hy4
  obtain ⟨x0, c0, c1, c2, c3, c4, c5, c6, c7, c8, c9⟩ := hx4
  go_upto_region 9 with fail
  generalize hW5 : World.setCell _ _ _ = W5
  have hww : Below w.heap.size w W5 := by subst hW5; exact hww4.setCell (Nat.le_of_lt hne) _
  have hy5 : C10 W5 w1.heap.size ⟨7, 0, 0, 0, 0, 0, 0, 0, u⟩ (.slice none 0 0) := by subst hW5; refine ⟨by simpa [World.setCell] using y0, ?_, ?_, ?_, ?_, ?_, ?_, ?_, ?_, ?_, ?_⟩ <;> simp [go_sem, *]
  have hx5 : C10 W5 w.heap.size ⟨0, 0, 0, 0, 0, 0, 0, 0, 0⟩ (.slice none 0 0) := by subst hW5; refine ⟨by simpa [World.setCell] using x0, ?_, ?_, ?_, ?_, ?_, ?_, ?_, ?_, ?_, ?_⟩ <;> simp [go_sem, *]
  have hf2 : ∀ o, W5.frozen? ⟨w.heap.size, o, none⟩ = false := fun o => by subst hW5; simp [go_sem, hf4]
  clear hW5 hf4 hg4 hww4 e1 x0 c0 c1 c2 c3 c4 c5 c6 c7 c8 c9 y0 d0 d1 d2 d3 d4 d5 d6 d7 d8 d9
  obtain ⟨y0, d0, d1, d2, d3, d4, d5, d6, d7, d8, d9⟩ := hy5
  obtain ⟨x0, c0, c1, c2, c3, c4, c5, c6, c7, c8, c9⟩ := hx5
  go_wp2_with fail
  generalize hW3 : World.setCell _ _ _ = W3
  obtain ⟨hx3, hb3⟩ := put10b (h := ⟨0, 0, 0, 0, 0, 0, 0, 0, 0⟩) (s := .slice none 0 0) (g := ⟨7, 0, 0, 0, 0, 0, 0, 0, u⟩) ⟨x0, c0, c1, c2, c3, c4, c5, c6, c7, c8, c9⟩ hW3
  have hw3 := hww.trans (hb3 w.heap.size (Nat.le_refl _))
  clear hW3 hb3 x0 c0 c1 c2 c3 c4 c5 c6 c7 c8 c9 y0 d0 d1 d2 d3 d4 d5 d6 d7 d8 d9 hf2
  obtain ⟨x0, c0, c1, c2, c3, c4, c5, c6, c7, c8, c9⟩ := hx3
  (try simp only [Exit.inBlock, Exit.then])
  refine bodyPost_ret (v := .agg #[.int .i64 7, .int .i64 0, .int .i64 0, .int .i64 0, .int .i64 0, .int .i64 0, .int .i64 0, .int .i64 0, .int .i64 u, .slice none 0 0]) ?_ rfl ⟨rfl, hw3⟩
  rw [results_cell1 rfl]
  go_simp

end Go.Proofs.YtmkflokcficmoaaDoor

/- The contract of ownFormula at an atom. -/
namespace Go.Proofs.YtmkflokcficmoaaDoor
open Go.RowKit

set_option maxRecDepth 10000 in
set_option maxHeartbeats 1000000 in
theorem own_a (ak am a b c d n : Int) (w : World) : Calls Tryd.prog 75 #[.iface 109 (.agg #[.int .i64 ak, .int .i64 am, .int .i64 a, .int .i64 b, .int .i64 c, .int .i64 d, .int .i64 n])] w (OwT ⟨2, ak, am, a, b, c, d, n, 0⟩ w) := by
  have hta := fun w => Tryd.ta_atom ak am a b c d n w
  have htb := fun w => Tryd.tb_other 109 (.agg #[.int .i64 ak, .int .i64 am, .int .i64 a, .int .i64 b, .int .i64 c, .int .i64 d, .int .i64 n]) (.inr (.inr (.inr rfl))) w
  have HK := Lib.hid fun W => (show Calls Tryd.prog 113 #[.agg #[.int .i64 ak, .int .i64 am, .int .i64 a, .int .i64 b, .int .i64 c, .int .i64 d, .int .i64 n]] W (IntT 2 W) from kind_a _ W)
  go_enter Tryd.func75, Tryd.ntmps75
  go_wp2_with fail
  generalize hW : World.alloc _ _ = W
  have hw : Below w.heap.size w W := by subst hW; go_grown
  have hx : C10 W w.heap.size ⟨0, 0, 0, 0, 0, 0, 0, 0, 0⟩ (.slice none 0 0) := by subst hW; exact (by refine ⟨?_, ?_, ?_, ?_, ?_, ?_, ?_, ?_, ?_, ?_, ?_⟩ <;> first | (simp [go_sem]; done) | (simp; omega))
  have hf : ∀ o, W.frozen? ⟨w.heap.size, o, none⟩ = false := fun o => by subst hW; simp [go_sem]
  clear hW
  refine (HK.out _).mono ?_
  rintro e w1 ⟨rfl, hb1⟩
  have hw1 := below_on hw hb1
  have hf1 : ∀ o, w1.frozen? ⟨w.heap.size, o, none⟩ = false := fun o => ((bcell hb1).2 _ o hx.1).trans (hf o)
  obtain ⟨x0, c0, c1, c2, c3, c4, c5, c6, c7, c8, c9⟩ := c10_on hx hb1
  clear hx hf hb1 hw HK
  go_upto_region 2 with fail
  generalize hW2 : World.alloc _ _ = W2
  have hw2 : Below w1.heap.size w1 W2 := by subst hW2; go_grown
  have hy : C10 W2 w1.heap.size ⟨2, 0, 0, 0, 0, 0, 0, 0, 0⟩ (.slice none 0 0) := by subst hW2; exact (by refine ⟨?_, ?_, ?_, ?_, ?_, ?_, ?_, ?_, ?_, ?_, ?_⟩ <;> first | (simp [go_sem]; done) | (simp; omega))
  have hx2 : C10 W2 w.heap.size ⟨0, 0, 0, 0, 0, 0, 0, 0, 0⟩ (.slice none 0 0) := c10_on ⟨x0, c0, c1, c2, c3, c4, c5, c6, c7, c8, c9⟩ hw2
  have hf2 : ∀ o, W2.frozen? ⟨w.heap.size, o, none⟩ = false := fun o => ((bcell hw2).2 _ o x0).trans (hf1 o)
  have hww := below_on hw1 hw2
  have HFY : Hid (∀ o, W2.frozen? ⟨w1.heap.size, o, none⟩ = false) := fun o => by subst hW2; simp [go_sem]
  have x0' : w.heap.size < w1.heap.size := x0
  clear hW2 x0 c0 c1 c2 c3 c4 c5 c6 c7 c8 c9 hf1 hw1 hw2
  obtain ⟨y0, d0, d1, d2, d3, d4, d5, d6, d7, d8, d9⟩ := hy
  obtain ⟨x0, c0, c1, c2, c3, c4, c5, c6, c7, c8, c9⟩ := hx2
  have hfy : ∀ o, W2.frozen? ⟨w1.heap.size, o, none⟩ = false := HFY.out
  go_upto_region 5 with fail
  generalize hW4 : World.alloc _ _ = W4
  have hw4 : Below W2.heap.size W2 W4 := by subst hW4; go_grown
  have hz4 : C7 W4 W2.heap.size ak am a b c d n := by subst hW4; exact (by refine ⟨?_, ?_, ?_, ?_, ?_, ?_, ?_, ?_⟩ <;> first | (simp [go_sem]; done) | (simp; omega))
  have hx4 := c10_on (h := ⟨0, 0, 0, 0, 0, 0, 0, 0, 0⟩) ⟨x0, c0, c1, c2, c3, c4, c5, c6, c7, c8, c9⟩ hw4
  have hy4 := c10_on (h := ⟨2, 0, 0, 0, 0, 0, 0, 0, 0⟩) ⟨y0, d0, d1, d2, d3, d4, d5, d6, d7, d8, d9⟩ hw4
  have hf4 : ∀ o, W4.frozen? ⟨w.heap.size, o, none⟩ = false := fun o => ((bcell hw4).2 _ o x0).trans (hf2 o)
  have hg4 : ∀ o, W4.frozen? ⟨w1.heap.size, o, none⟩ = false := fun o => ((bcell hw4).2 _ o y0).trans (hfy o)
  have hne := x0'
  have hww4 := below_on hww hw4
  clear hW4 hw4 hww hf2 hfy hta htb x0 c0 c1 c2 c3 c4 c5 c6 c7 c8 c9 y0 d0 d1 d2 d3 d4 d5 d6 d7 d8 d9
  obtain ⟨z0, e0, e1, e2, e3, e4, e5, e6⟩ := hz4
  obtain ⟨y0, d0, d1, d2, d3, d4, d5, d6, d7, d8, d9⟩ := hy4
  obtain ⟨x0, c0, c1, c2, c3, c4, c5, c6, c7, c8, c9⟩ := hx4
  go_upto_region 9 with fail
  generalize hW5 : World.setCell _ _ _ = W5
  have hle := Nat.le_of_lt hne
  have hww : Below w.heap.size w W5 := by subst hW5; exact ((((((hww4.setCell hle _).setCell hle _).setCell hle _).setCell hle _).setCell hle _).setCell hle _).setCell hle _
  have hy5 : C10 W5 w1.heap.size ⟨2, ak, am, a, b, c, d, n, 0⟩ (.slice none 0 0) := by subst hW5; refine ⟨by simpa [World.setCell] using y0, ?_, ?_, ?_, ?_, ?_, ?_, ?_, ?_, ?_, ?_⟩ <;> simp [go_sem, *]
  have hx5 : C10 W5 w.heap.size ⟨0, 0, 0, 0, 0, 0, 0, 0, 0⟩ (.slice none 0 0) := by subst hW5; refine ⟨by simpa [World.setCell] using x0, ?_, ?_, ?_, ?_, ?_, ?_, ?_, ?_, ?_, ?_⟩ <;> simp [go_sem, *]
  have hf2 : ∀ o, W5.frozen? ⟨w.heap.size, o, none⟩ = false := fun o => by subst hW5; simp [go_sem, hf4]
  clear hW5 hf4 hg4 hww4 z0 e0 e1 e2 e3 e4 e5 e6 x0 c0 c1 c2 c3 c4 c5 c6 c7 c8 c9 y0 d0 d1 d2 d3 d4 d5 d6 d7 d8 d9
  obtain ⟨y0, d0, d1, d2, d3, d4, d5, d6, d7, d8, d9⟩ := hy5
  obtain ⟨x0, c0, c1, c2, c3, c4, c5, c6, c7, c8, c9⟩ := hx5
  go_wp2_with fail
  generalize hW3 : World.setCell _ _ _ = W3
  obtain ⟨hx3, hb3⟩ := put10b (h := ⟨0, 0, 0, 0, 0, 0, 0, 0, 0⟩) (s := .slice none 0 0) (g := ⟨2, ak, am, a, b, c, d, n, 0⟩) ⟨x0, c0, c1, c2, c3, c4, c5, c6, c7, c8, c9⟩ hW3
  have hw3 := hww.trans (hb3 w.heap.size (Nat.le_refl _))
  clear hW3 hb3 x0 c0 c1 c2 c3 c4 c5 c6 c7 c8 c9 y0 d0 d1 d2 d3 d4 d5 d6 d7 d8 d9 hf2
  obtain ⟨x0, c0, c1, c2, c3, c4, c5, c6, c7, c8, c9⟩ := hx3
  (try simp only [Exit.inBlock, Exit.then])
  refine bodyPost_ret (v := .agg #[.int .i64 2, .int .i64 ak, .int .i64 am, .int .i64 a, .int .i64 b, .int .i64 c, .int .i64 d, .int .i64 n, .int .i64 0, .slice none 0 0]) ?_ rfl ⟨rfl, hw3⟩
  rw [results_cell1 rfl]
  go_simp

/-- What ownFormula answers at a node. -/
theorem own_zero {h : FH} {len : Nat} (ho : ownB h len = true) (hk : h.k ≠ 2) : h.ak = 0 ∧ h.am = 0 ∧ h.a = 0 ∧ h.b = 0 ∧ h.c = 0 ∧ h.d = 0 ∧ h.n = 0 := by
  unfold ownB zB at ho
  rw [if_neg hk] at ho
  simp only [Bool.and_eq_true, decide_eq_true_eq] at ho
  exact ho.1.1
theorem own_v0 {h : FH} {len : Nat} (ho : ownB h len = true) (hq : qB h.k = false) : h.v = 0 := by
  unfold ownB at ho
  rw [hq] at ho
  simp only [Bool.and_eq_true, decide_eq_true_eq, Bool.false_eq_true, if_false] at ho
  exact ho.1.2

end Go.Proofs.YtmkflokcficmoaaDoor

/- Elements of several cells put behind a list that a call has made: where the new list lies; an append as a drawn region meets it. -/
namespace Go.Proofs.YtmkflokcficmoaaDoor
open Go.RowKit

theorem append_row {P : Program} {w : World} {base t ty e sz : Nat} {i : TypeInfo} {z : Value} {bytes : Nat} (ht : P.underlying t = some (.slice e)) (hi : P.info? e = some i) (hz : i.zero = some z) (hsize : i.size = sz) (hby : i.bytes = bytes) (hzs : z.cells.size = sz) (hsz : 0 < sz)
    {v : Value} {n : Nat} {xs : List Value} (hown : w.ownsRow base e sz v n xs) {a : Addr} {row : List Value} (hrow : row.length = sz) (hnews : ∀ j u, row[j]? = some u → w.cell? (a.add j) = some u) (h1 : ∀ u ∈ row, u.oneCell' = true) (hn : n ≤ 1048576) (hbt : bytes ≤ 1024) (hbase : base ≤ w.heap.size) :
    ∃ v' w', (Builtin.append_ #[t, t] ty #[v, .slice (some a) 1 1]).run P w = .ok v' w' ∧ w'.ownsRow base e sz v' (n + 1) (xs ++ row) ∧ w.grownBy w' v.ownBlock ∧ (v'.ownBlock = v.ownBlock ∨ v'.ownBlock = some w.heap.size) := by
  have hbb : (n + 1) * bytes ≤ 140737488355328 := Nat.le_trans (Nat.mul_le_mul (by omega : n + 1 ≤ 1048577) hbt) (by omega)
  have hm : n + 1 ≤ maxLen := by unfold maxLen; omega
  have hrow1 : row.length = 1 * sz := by omega
  obtain ⟨v', w', hr, h2, h3, _⟩ := run_append_own (P := P) w base t ty e i z sz bytes ht hi hz hsize hby hzs hsz v n xs hown a 1 1 row hrow1 hnews h1 hm hbb hbase
  refine ⟨v', w', hr, h2, h3, ?_⟩
  rcases hown.2 with ⟨rfl, rfl⟩ | ⟨g, cap, cur, rfl, _, hg, hnc, _, hcs, _⟩
  · have h := run_append_nil (P := P) w t ty e i z ht hi hz a 1 1 row (by rw [hsize]; exact hrow1) hnews (by omega) (by omega) (by rw [hby]; omega)
    rw [h] at hr
    injection hr with e1 e2
    exact .inr (by rw [← e1]; rfl)
  · by_cases hroom : n + 1 ≤ cap
    · have h := run_append_room (P := P) w t ty e i ht hi g n cap cur hg a 1 1 row (by rw [hsize]; exact hrow1) hnews h1 hroom (by rw [hsize, hcs, hrow, ← Nat.succ_mul]; exact Nat.mul_le_mul_right sz hroom)
      rw [h] at hr
      injection hr with e1 e2
      exact .inl (by rw [← e1]; rfl)
    · have holds : ∀ j u, xs[j]? = some u → w.cell? ((⟨g, 0, none⟩ : Addr).add j) = some u := hown.cells (g := g) rfl
      have h := run_append_grow (P := P) w t ty e i z ht hi hz ⟨g, 0, none⟩ n cap xs (by rw [hsize]; exact hown.1) holds a 1 1 row (by rw [hsize]; exact hrow1) hnews (by omega) (by have := hm; unfold maxLen at this; omega) (growslice_fits (by omega) (by rw [hby]; exact hbb))
      rw [h] at hr
      injection hr with e1 e2
      exact .inr (by rw [← e1]; rfl)

theorem oper_append {P : Program} {w w' : World} {o : Oper} {a : Act} {K : Act → World → Prop} {Q : Exit → Act → World → Prop} (s x : Operand) (t : TypeId)
    (ho : o.op = .call { callee := .builtin .append, args := #[s, x], argTypes := #[t, t] }) {v y v' : Value} (hs : a.eval s = v) (hx : a.eval x = y)
    (hr : (Builtin.append_ #[t, t] o.type #[v, y]).run P w = .ok v' w') (h : K (a.put o.dst v') w') : Oper.wp P o a w K Q := by
  unfold Oper.wp execOp
  simp only [ho, resolve, invoke, builtin, Sem.run_bind, Sem.run_pure, Result.andThen_ok, List.map_toArray, List.map_cons, List.map_nil, hs, hx, hr]
  exact h

end Go.Proofs.YtmkflokcficmoaaDoor

/- The marks on a formula's parts: what they keep; contracts of toFormulaS, toFormula that tell that the copy can be marked; contracts of markFormulaS, markFormula. -/
namespace Go.Proofs.YtmkflokcficmoaaDoor
open Go.RowKit

/-- A slice that can be marked: its elements begin at the head of a block. -/
def NSl (w : World) (lo hi len : Nat) (P : Nat → Nat → Prop) (s : Value) : Prop :=
  (len = 0 ∧ ∃ x cap, s = .slice x 0 cap) ∨ (0 < len ∧ ∃ b cap, s = .slice (some ⟨b, 0, none⟩) len cap ∧ len ≤ cap ∧ cap ≤ maxLen ∧ lo ≤ b ∧ b < hi ∧ (∀ o, w.frozen? ⟨b, o, none⟩ = false) ∧ P b 0)
/-- The rows of a forest's heads, whatever the heads are. -/
def NEl (w : World) (lo hi : Nat) : Fo → Nat → Nat → Prop
  | .nil, _, _ => True
  | .cons _ s r, b, i => (∃ hh sl, FRow w b (i * 10) hh sl ∧ NSl w lo hi s.len (NEl w lo hi s) sl) ∧ NEl w lo hi r b (i + 1)
def NS (w : World) (lo hi : Nat) (f : Fo) (s : Value) : Prop := NSl w lo hi f.len (NEl w lo hi f) s

theorem NEl.mono {w : World} {lo lo' hi hi' : Nat} (hl : lo' ≤ lo) (hh : hi ≤ hi') : ∀ (f : Fo) (b i : Nat), NEl w lo hi f b i → NEl w lo' hi' f b i := by
  intro f
  induction f with
  | nil => intro _ _ _; trivial
  | cons h s r ihs ihr =>
    intro b i hf
    obtain ⟨⟨hd, sl, hr, hsl⟩, hrest⟩ := hf
    refine ⟨⟨hd, sl, hr, ?_⟩, ihr b (i + 1) hrest⟩
    rcases hsl with h0 | ⟨h0, b', cap, e, h1, h2, h3, h4, h5, h6⟩
    · exact .inl h0
    · exact .inr ⟨h0, b', cap, e, h1, h2, by omega, by omega, h5, ihs b' 0 h6⟩
theorem NS.mono {w : World} {lo lo' hi hi' : Nat} (hl : lo' ≤ lo) (hh : hi ≤ hi') {f : Fo} {s : Value} (h : NS w lo hi f s) : NS w lo' hi' f s := by
  rcases h with h0 | ⟨h0, b', cap, e, h1, h2, h3, h4, h5, h6⟩
  · exact .inl h0
  · exact .inr ⟨h0, b', cap, e, h1, h2, by omega, by omega, h5, NEl.mono hl hh f b' 0 h6⟩

/-- What marks keep in the blocks from lo to hi: each tenth cell, and that the others are ints. -/
structure Keeps (lo hi : Nat) (w w' : World) : Prop where
  last : ∀ b o, lo ≤ b → b < hi → w'.cell? ⟨b, o * 10 + 9, none⟩ = w.cell? ⟨b, o * 10 + 9, none⟩
  ints : ∀ b o j, lo ≤ b → b < hi → j < 9 → ∀ v, w.cell? ⟨b, o * 10 + j, none⟩ = some (.int .i64 v) → ∃ v', w'.cell? ⟨b, o * 10 + j, none⟩ = some (.int .i64 v')
  froz : ∀ b o, lo ≤ b → b < hi → w'.frozen? ⟨b, o, none⟩ = w.frozen? ⟨b, o, none⟩
  os : w'.os = w.os
  tape : w'.tape = w.tape
  output : w'.output = w.output
  size : w.heap.size ≤ w'.heap.size
  block : ∀ k, k < w.heap.size → (k < lo ∨ hi ≤ k) → w'.heap[k]? = w.heap[k]?

theorem Keeps.refl (lo hi : Nat) (w : World) : Keeps lo hi w w := ⟨fun _ _ _ _ => rfl, fun _ _ _ _ _ _ v h => ⟨v, h⟩, fun _ _ _ _ => rfl, rfl, rfl, rfl, Nat.le_refl _, fun _ _ _ => rfl⟩
theorem Keeps.trans {lo hi : Nat} {a b c : World} (h : Keeps lo hi a b) (k : Keeps lo hi b c) : Keeps lo hi a c :=
  ⟨fun x o h1 h2 => (k.last x o h1 h2).trans (h.last x o h1 h2), fun x o j h1 h2 h3 v hv => by obtain ⟨v', e⟩ := h.ints x o j h1 h2 h3 v hv; exact k.ints x o j h1 h2 h3 v' e,
    fun x o h1 h2 => (k.froz x o h1 h2).trans (h.froz x o h1 h2), k.os.trans h.os, k.tape.trans h.tape, k.output.trans h.output, Nat.le_trans h.size k.size,
    fun x h1 h2 => (k.block x (Nat.lt_of_lt_of_le h1 h.size) h2).trans (h.block x h1 h2)⟩
theorem Keeps.below {lo hi : Nat} {w w' : World} (h : Keeps lo hi w w') (hl : lo ≤ w.heap.size) : Below lo w w' := ⟨h.os, h.tape, h.output, h.size, fun k hk => h.block k (by omega) (.inl hk)⟩
theorem Keeps.of_below {lo hi : Nat} {w w' : World} (hb : Below w.heap.size w w') (hh : hi ≤ w.heap.size) : Keeps lo hi w w' :=
  ⟨fun _ _ _ h => hb.cell (by dsimp only; omega), fun b o j _ h _ v hv => ⟨v, (hb.cell (p := ⟨b, o * 10 + j, none⟩) (by dsimp only; omega)).trans hv⟩, fun _ _ _ h => hb.frozen (by dsimp only; omega), hb.os, hb.tape, hb.output, hb.size, fun k hk _ => hb.block k hk⟩
theorem keeps_set {lo hi : Nat} {w : World} {b i t : Nat} {u v : Int} (hl : lo ≤ b) (hh : b < hi) (ht : t < 9) (hc : w.cell? ⟨b, i * 10 + t, none⟩ = some (.int .i64 u)) : Keeps lo hi w (w.setCell ⟨b, i * 10 + t, none⟩ (.int .i64 v)) := by
  refine ⟨?_, ?_, ?_, rfl, rfl, rfl, by simp [World.setCell], ?_⟩
  · intro b' o _ _
    refine World.cell?_setCell_other w _ _ _ (fun e => ?_)
    injection e with e1 e2 e3
    omega
  · intro b' o j _ _ hj v' hv
    by_cases e : (⟨b, i * 10 + t, none⟩ : Addr) = ⟨b', o * 10 + j, none⟩
    · rw [← e]
      exact ⟨v, World.cell?_setCell_same w _ _ hc⟩
    · exact ⟨v', (World.cell?_setCell_other w _ _ _ (by first | exact e | exact fun h => e h.symm)).trans hv⟩
  · intro b' o _ _
    simp [go_sem]
  · intro k _ hk
    exact Below.heap_setCell _ _ _ _ (by dsimp only; omega)

theorem NEl.keeps {lo hi : Nat} {w w' : World} (hk : Keeps lo hi w w') : ∀ (f : Fo) (b i : Nat), lo ≤ b → b < hi → NEl w lo hi f b i → NEl w' lo hi f b i := by
  intro f
  induction f with
  | nil => intro _ _ _ _ _; trivial
  | cons h s r ihs ihr =>
    intro b i hl hh hf
    obtain ⟨⟨hd, sl, hr, hsl⟩, hrest⟩ := hf
    obtain ⟨r0, r1, r2, r3, r4, r5, r6, r7, r8, r9⟩ := hr
    obtain ⟨a0, e0⟩ := hk.ints b i 0 hl hh (by omega) _ r0
    obtain ⟨a1, e1⟩ := hk.ints b i 1 hl hh (by omega) _ r1
    obtain ⟨a2, e2⟩ := hk.ints b i 2 hl hh (by omega) _ r2
    obtain ⟨a3, e3⟩ := hk.ints b i 3 hl hh (by omega) _ r3
    obtain ⟨a4, e4⟩ := hk.ints b i 4 hl hh (by omega) _ r4
    obtain ⟨a5, e5⟩ := hk.ints b i 5 hl hh (by omega) _ r5
    obtain ⟨a6, e6⟩ := hk.ints b i 6 hl hh (by omega) _ r6
    obtain ⟨a7, e7⟩ := hk.ints b i 7 hl hh (by omega) _ r7
    obtain ⟨a8, e8⟩ := hk.ints b i 8 hl hh (by omega) _ r8
    refine ⟨⟨⟨a0, a1, a2, a3, a4, a5, a6, a7, a8⟩, sl, ⟨e0, e1, e2, e3, e4, e5, e6, e7, e8, (hk.last b i hl hh).trans r9⟩, ?_⟩, ihr b (i + 1) hl hh hrest⟩
    rcases hsl with h0 | ⟨h0, b', cap, e, h1, h2, h3, h4, h5, h6⟩
    · exact .inl h0
    · exact .inr ⟨h0, b', cap, e, h1, h2, h3, h4, fun o => (hk.froz b' o h3 h4).trans (h5 o), ihs b' 0 h3 h4 h6⟩
theorem NS.keeps {lo hi : Nat} {w w' : World} (hk : Keeps lo hi w w') {f : Fo} {s : Value} (h : NS w lo hi f s) : NS w' lo hi f s := by
  rcases h with h0 | ⟨h0, b', cap, e, h1, h2, h3, h4, h5, h6⟩
  · exact .inl h0
  · exact .inr ⟨h0, b', cap, e, h1, h2, h3, h4, fun o => (hk.froz b' o h3 h4).trans (h5 o), NEl.keeps hk f b' 0 h3 h4 h6⟩
theorem NEl.same {lo hi : Nat} {w w' : World} (hk : ∀ x, lo ≤ x → x < hi → w'.heap[x]? = w.heap[x]?) : ∀ (f : Fo) (b i : Nat), (∀ j, i * 10 ≤ j → j < (i + f.len) * 10 → w'.cell? ⟨b, j, none⟩ = w.cell? ⟨b, j, none⟩) → NEl w lo hi f b i → NEl w' lo hi f b i := by
  intro f
  induction f with
  | nil => intro _ _ _ _; trivial
  | cons h s r ihs ihr =>
    intro b i hc hf
    simp only [Fo.len] at hc
    obtain ⟨⟨hd, sl, hr, hsl⟩, hrest⟩ := hf
    obtain ⟨r0, r1, r2, r3, r4, r5, r6, r7, r8, r9⟩ := hr
    refine ⟨⟨hd, sl, ⟨(hc _ (by omega) (by omega)).trans r0, (hc _ (by omega) (by omega)).trans r1, (hc _ (by omega) (by omega)).trans r2, (hc _ (by omega) (by omega)).trans r3, (hc _ (by omega) (by omega)).trans r4, (hc _ (by omega) (by omega)).trans r5, (hc _ (by omega) (by omega)).trans r6, (hc _ (by omega) (by omega)).trans r7, (hc _ (by omega) (by omega)).trans r8, (hc _ (by omega) (by omega)).trans r9⟩, ?_⟩, ihr b (i + 1) (fun j h1 h2 => hc j (by omega) (by omega)) hrest⟩
    rcases hsl with h0 | ⟨h0, b', cap, e, h1, h2, h3, h4, h5, h6⟩
    · exact .inl h0
    · exact .inr ⟨h0, b', cap, e, h1, h2, h3, h4, fun o => (World.frozen?_of_block (a := ⟨b', o, none⟩) (hk b' h3 h4)).trans (h5 o), ihs b' 0 (fun j _ _ => World.cell?_of_block (a := ⟨b', j, none⟩) (hk b' h3 h4)) h6⟩
theorem NS.same {lo hi : Nat} {w w' : World} (hk : ∀ x, lo ≤ x → x < hi → w'.heap[x]? = w.heap[x]?) {f : Fo} {s : Value} (h : NS w lo hi f s) : NS w' lo hi f s := by
  rcases h with h0 | ⟨h0, b', cap, e, h1, h2, h3, h4, h5, h6⟩
  · exact .inl h0
  · exact .inr ⟨h0, b', cap, e, h1, h2, h3, h4, fun o => (World.frozen?_of_block (a := ⟨b', o, none⟩) (hk b' h3 h4)).trans (h5 o), NEl.same hk f b' 0 (fun j _ _ => World.cell?_of_block (a := ⟨b', j, none⟩) (hk b' h3 h4)) h6⟩
theorem NEl.app {w : World} {lo hi b : Nat} : ∀ (f g : Fo) (i : Nat), NEl w lo hi f b i → NEl w lo hi g b (i + f.len) → NEl w lo hi (f.app g) b i := by
  intro f
  induction f with
  | nil => intro g i _ h; simpa [Fo.app, Fo.len] using h
  | cons h s r _ ih =>
    intro g i hf hg
    refine ⟨hf.1, ih g (i + 1) hf.2 ?_⟩
    have e : i + (Fo.cons h s r).len = i + 1 + r.len := by simp only [Fo.len]; omega
    rwa [e] at hg

theorem keeps9 {lo hi : Nat} {w W : World} {b i : Nat} {hd : FH} {sl : Value} {v0 v1 v2 v3 v4 v5 v6 v7 v8 : Int} (hl : lo ≤ b) (hh : b < hi) (hr : FRow w b (i * 10) hd sl) (hW : (((((((((w.setCell ⟨b, i * 10, none⟩ (.int .i64 v0)).setCell ⟨b, i * 10 + 1, none⟩ (.int .i64 v1)).setCell ⟨b, i * 10 + 2, none⟩ (.int .i64 v2)).setCell ⟨b, i * 10 + 3, none⟩ (.int .i64 v3)).setCell ⟨b, i * 10 + 4, none⟩ (.int .i64 v4)).setCell ⟨b, i * 10 + 5, none⟩ (.int .i64 v5)).setCell ⟨b, i * 10 + 6, none⟩ (.int .i64 v6)).setCell ⟨b, i * 10 + 7, none⟩ (.int .i64 v7)).setCell ⟨b, i * 10 + 8, none⟩ (.int .i64 v8)) = W) : Keeps lo hi w W := by
  subst hW
  obtain ⟨r0, r1, r2, r3, r4, r5, r6, r7, r8, r9⟩ := hr
  have k0 := keeps_set (v := v0) (t := 0) hl hh (by omega) r0
  obtain ⟨u1, e1⟩ := k0.ints b i 1 hl hh (by omega) _ r1
  have k1 := k0.trans (keeps_set (v := v1) (t := 1) hl hh (by omega) e1)
  obtain ⟨u2, e2⟩ := k1.ints b i 2 hl hh (by omega) _ r2
  have k2 := k1.trans (keeps_set (v := v2) (t := 2) hl hh (by omega) e2)
  obtain ⟨u3, e3⟩ := k2.ints b i 3 hl hh (by omega) _ r3
  have k3 := k2.trans (keeps_set (v := v3) (t := 3) hl hh (by omega) e3)
  obtain ⟨u4, e4⟩ := k3.ints b i 4 hl hh (by omega) _ r4
  have k4 := k3.trans (keeps_set (v := v4) (t := 4) hl hh (by omega) e4)
  obtain ⟨u5, e5⟩ := k4.ints b i 5 hl hh (by omega) _ r5
  have k5 := k4.trans (keeps_set (v := v5) (t := 5) hl hh (by omega) e5)
  obtain ⟨u6, e6⟩ := k5.ints b i 6 hl hh (by omega) _ r6
  have k6 := k5.trans (keeps_set (v := v6) (t := 6) hl hh (by omega) e6)
  obtain ⟨u7, e7⟩ := k6.ints b i 7 hl hh (by omega) _ r7
  have k7 := k6.trans (keeps_set (v := v7) (t := 7) hl hh (by omega) e7)
  obtain ⟨u8, e8⟩ := k7.ints b i 8 hl hh (by omega) _ r8
  have k8 := k7.trans (keeps_set (v := v8) (t := 8) hl hh (by omega) e8)
  exact k8

/-- How many marks. -/
def MkT (f : Fo) (lo hi : Nat) (k : Int) (w : World) (e : Ending) (w' : World) : Prop := e = .returned (.int .i64 (k + ((f.size * 9 : Nat) : Int))) ∧ Keeps lo hi w w'
def MkS (f : Fo) : Prop := ∀ (w : World) (lo hi : Nat) (s : Value) (k : Int), NS w lo hi f s → hi ≤ w.heap.size → 0 ≤ k → k + ((f.size * 9 : Nat) : Int) ≤ 20000000 → Calls Tryd.prog 20 #[s, .int .i64 k] w (MkT f lo hi k w)

def MkR (f : Fo) (lo hi b : Nat) (k : Int) (w : World) (i kv : Value) (wr : World) : Prop :=
  ∃ (j : Nat) (r : Fo), i = .int .i64 j ∧ j + r.len = f.len ∧ r.size ≤ f.size ∧ kv = .int .i64 (k + (((f.size - r.size) * 9 : Nat) : Int)) ∧ NEl wr lo hi r b j ∧ Keeps lo hi w wr

set_option maxRecDepth 10000 in
set_option maxHeartbeats 2000000 in
theorem mkS_of {f : Fo} (HF : ∀ s : Fo, s.size < f.size → MkS s) : MkS f := by
  intro w lo hi s k hs hhi k0 k1
  have H := Lib.hid HF
  clear HF
  rcases hs with ⟨h0, x, cap, rfl⟩ | ⟨h0, b, cap, rfl, hc1, hc2, hlo, hb, hfz, hel⟩
  · obtain rfl : f = .nil := Fo.len_zero h0
    clear h0
    have HK := Lib.hid (show k + ((Fo.nil.size * 9 : Nat) : Int) = k by simp [Fo.size])
    clear k1
    go_enter Tryd.func20, Tryd.ntmps20
    go_wp2
    refine wp_loop_rounds 1 ?_
    rw [rounds_succ]
    go_wp2
    go_ret
    exact ⟨ret_int' HK.out.symm, Keeps.refl _ _ _⟩
  · have HST := Lib.hid (show MkR f lo hi b k w (.int .i64 0) (.int .i64 k) w from ⟨0, f, rfl, by omega, Nat.le_refl _, by simp, hel, Keeps.refl _ _ _⟩)
    have HFZ := Lib.hid hfz
    unfold maxLen at hc2
    clear hel hfz
    go_enter Tryd.func20, Tryd.ntmps20
    go_wp2
    go_loopw [5, 1] (fun i kv wr => MkR f lo hi b k w i kv wr) (fun i _ _ => f.len - (intOf i).toNat)
    case atStart => exact HST.out
    case round =>
      obtain ⟨j, r, rfl, hj, hdr, rfl, hr, hkw⟩ := hrel
      clear HST
      have HKW := Lib.hid hkw
      have hfz : ∀ o, wr.frozen? ⟨b, o, none⟩ = false := fun o => (hkw.froz b o hlo hb).trans (HFZ.out o)
      have hszw := hkw.size
      clear hkw
      cases r with
      | nil =>
        simp only [Fo.len] at hj
        have hkl : ¬ j < f.len := by omega
        have HE := Lib.hid (show k + (((f.size - Fo.nil.size) * 9 : Nat) : Int) = k + ((f.size * 9 : Nat) : Int) by simp [Fo.size])
        clear hfz
        go_wp2
        go_ret
        exact ⟨ret_int' HE.out, HKW.out⟩
      | cons h' s' r' =>
        simp only [Fo.len] at hj
        simp only [Fo.size] at hdr
        have hkl : j < f.len := by omega
        have HR := Lib.hid hr.2
        obtain ⟨hd, sl, hrow, hsl⟩ := hr.1
        obtain ⟨q, hq⟩ : ∃ q : Int, k + (((f.size - (Fo.cons h' s' r').size) * 9 : Nat) : Int) = q := ⟨_, rfl⟩
        have hsz2 : (Fo.cons h' s' r').size = s'.size + r'.size + 1 := rfl
        have hq0 : 0 ≤ q := by omega
        have hq1 : q + 9 + ((s'.size * 9 : Nat) : Int) ≤ 20000000 := by omega
        have HQ := Lib.hid hq
        obtain ⟨ga, gn, gc, rfl⟩ : ∃ a n c, sl = .slice a n c := by
          rcases hsl with ⟨_, x, cap, e⟩ | ⟨_, b', cap, e, _⟩
          · exact ⟨_, _, _, e⟩
          · exact ⟨_, _, _, e⟩
        have HSL := Lib.hid (show NS wr lo hi s' (.slice ga gn gc) from hsl)
        obtain ⟨c0, c1, c2, c3, c4, c5, c6, c7, c8, c9⟩ := hrow
        have HROW := Lib.hid (show FRow wr b (j * 10) hd (.slice ga gn gc) from ⟨c0, c1, c2, c3, c4, c5, c6, c7, c8, c9⟩)
        have hq9 : q + 9 ≤ 20000000 := by omega
        rw [hq]
        clear hsl hr hq hsz2 hq1
        go_wp2_with fail
        generalize hW2 : World.setCell _ _ _ = W2
        have hk9 := keeps9 hlo hb HROW.out hW2
        have HK2 := Lib.hid (HKW.out.trans hk9)
        have HR2 := Lib.hid (NEl.keeps hk9 _ _ _ hlo hb HR.out)
        have HS2 := Lib.hid (NS.keeps hk9 HSL.out)
        have hs2 := HK2.out.size
        have hqq := HQ.out
        have hsz2 : (Fo.cons h' s' r').size = s'.size + r'.size + 1 := rfl
        have HCALL := Lib.hid (H.out s' (by omega) W2 lo hi _ (q + 1 + 1 + 1 + 1 + 1 + 1 + 1 + 1 + 1) HS2.out (by omega) (by omega) (by rw [hsz2] at hqq; omega))
        have HV := Lib.hid (show q + 1 + 1 + 1 + 1 + 1 + 1 + 1 + 1 + 1 + ((s'.size * 9 : Nat) : Int) = k + (((f.size - r'.size) * 9 : Nat) : Int) by rw [hsz2] at hqq; omega)
        clear hW2 hk9 hfz c0 c1 c2 c3 c4 c5 c6 c7 c8 c9 hqq hsz2
        refine HCALL.out.mono ?_
        rintro e w3 ⟨rfl, hk3⟩
        have HK3 := Lib.hid (HK2.out.trans hk3)
        have HR3 := Lib.hid (NEl.keeps hk3 _ _ _ hlo hb HR2.out)
        rw [HV.out]
        clear hk3 HCALL
        go_wp2
        go_roundw
        case rel => exact ⟨j + 1, r', by go_num, by omega, by omega, rfl, HR3.out, HK3.out⟩
        case measure => simp [intOf]; omega

theorem mkS_any (f : Fo) : MkS f := by
  have key : ∀ N (f : Fo), f.size ≤ N → MkS f := by
    intro N
    induction N with
    | zero => intro f hf; exact mkS_of fun s hs => absurd hs (by omega)
    | succ N ih => intro f hf; exact mkS_of fun s hs => ih s (by omega)
  exact key f.size f (Nat.le_refl _)

set_option maxHeartbeats 1000000 in
theorem mkF_any (h : FH) (f : Fo) (w : World) (lo hi : Nat) (s : Value) (k : Int) (hs : NS w lo hi f s) (hhi : hi ≤ w.heap.size) (k0 : 0 ≤ k) (k1 : k + ((f.size * 9 : Nat) : Int) ≤ 20000000) :
    Calls Tryd.prog 9 #[.agg #[.int .i64 h.k, .int .i64 h.ak, .int .i64 h.am, .int .i64 h.a, .int .i64 h.b, .int .i64 h.c, .int .i64 h.d, .int .i64 h.n, .int .i64 h.v, s], .int .i64 k] w (MkT f lo hi k w) := by
  obtain ⟨sa, sn, sc, rfl⟩ : ∃ a n c, s = .slice a n c := by
    rcases hs with ⟨_, x, cap, e⟩ | ⟨_, b', cap, e, _⟩
    · exact ⟨_, _, _, e⟩
    · exact ⟨_, _, _, e⟩
  have HS := Lib.hid fun W (hb : Below w.heap.size w W) => mkS_any f W lo hi _ k (NS.keeps (Keeps.of_below hb hhi) hs) (Nat.le_trans hhi hb.size) k0 k1
  obtain ⟨N, hN⟩ : ∃ N : Int, k + ((f.size * 9 : Nat) : Int) = N := ⟨_, rfl⟩
  have HN := Lib.hid hN
  clear hs hN
  go_enter Tryd.func9, Tryd.ntmps9
  go_wp2_with fail
  generalize hW : World.alloc _ _ = W
  have hw : Below w.heap.size w W := by subst hW; go_grown
  have HK := Lib.hid (Keeps.of_below (lo := lo) hw hhi)
  clear hW
  refine (HS.out W hw).mono ?_
  rintro e w1 ⟨rfl, hk⟩
  have HK1 := Lib.hid (HK.out.trans hk)
  rw [HN.out]
  clear hk
  go_wp2
  go_ret
  exact ⟨ret_int' HN.out.symm, HK1.out⟩

end Go.Proofs.YtmkflokcficmoaaDoor

/- A forest whose heads are marks; the contract of heldFormulaS and heldFormula. -/
namespace Go.Proofs.YtmkflokcficmoaaDoor
open Go.RowKit

/-- The forest with marks from k on in its heads. -/
def Fo.mk : Int → Fo → Fo
  | _, .nil => .nil
  | k, .cons _ s r => .cons ⟨k, k + 1, k + 1 + 1, k + 1 + 1 + 1, k + 1 + 1 + 1 + 1, k + 1 + 1 + 1 + 1 + 1, k + 1 + 1 + 1 + 1 + 1 + 1, k + 1 + 1 + 1 + 1 + 1 + 1 + 1, k + 1 + 1 + 1 + 1 + 1 + 1 + 1 + 1⟩ (s.mk (k + 1 + 1 + 1 + 1 + 1 + 1 + 1 + 1 + 1)) (r.mk (k + 1 + 1 + 1 + 1 + 1 + 1 + 1 + 1 + 1 + ((s.size * 9 : Nat) : Int)))
theorem mk_len (f : Fo) : ∀ k, (f.mk k).len = f.len := by
  induction f with
  | nil => intro _; rfl
  | cons h s r _ ih => intro k; simp only [Fo.mk, Fo.len, ih]
theorem mk_size (f : Fo) : ∀ k, (f.mk k).size = f.size := by
  induction f with
  | nil => intro _; rfl
  | cons h s r ih1 ih2 => intro k; simp only [Fo.mk, Fo.size, ih1, ih2]

def HeS (f : Fo) : Prop := ∀ (w : World) (lo : Nat) (s : Value) (k : Int), FS w lo (f.mk k) s → 0 ≤ k → k + ((f.size * 9 : Nat) : Int) ≤ 20000000 →
  Calls Tryd.prog 21 #[s, .int .i64 k] w fun e w' => e = .returned (.int .i64 (k + ((f.size * 9 : Nat) : Int))) ∧ Below w.heap.size w w'

def HeR (f : Fo) (lo b o : Nat) (k : Int) (w : World) (i kv : Value) (wr : World) : Prop :=
  ∃ (j : Nat) (r : Fo) (q : Int), i = .int .i64 j ∧ j + r.len = f.len ∧ r.size ≤ f.size ∧ kv = .int .i64 q ∧ q = k + (((f.size - r.size) * 9 : Nat) : Int) ∧ FEl w lo (r.mk q) b (o + j * 10) ∧ Below w.heap.size w wr

set_option maxRecDepth 10000 in
set_option maxHeartbeats 2000000 in
theorem heS_of {f : Fo} (HF : ∀ s : Fo, s.size < f.size → HeS s) : HeS f := by
  intro w lo s k hs k0 k1
  have H := Lib.hid HF
  clear HF
  unfold FS at hs
  rw [mk_len] at hs
  rcases hs with ⟨h0, x, cap, rfl, _, _⟩ | ⟨h0, b, o, cap, rfl, hc1, hc2, hlo, hb, hel⟩
  · obtain rfl : f = .nil := Fo.len_zero h0
    clear h0
    have HK := Lib.hid (show k + ((Fo.nil.size * 9 : Nat) : Int) = k by simp [Fo.size])
    clear k1
    go_enter Tryd.func21, Tryd.ntmps21
    go_wp2
    refine wp_loop_rounds 1 ?_
    rw [rounds_succ]
    go_wp2
    go_ret
    exact ⟨ret_int' HK.out.symm, Below.refl _ _⟩
  · have HST := Lib.hid (show HeR f lo b o k w (.int .i64 0) (.int .i64 k) w from ⟨0, f, k, rfl, by omega, Nat.le_refl _, rfl, by simp, by simpa using hel, Below.refl _ _⟩)
    unfold maxLen at hc2
    clear hel
    go_enter Tryd.func21, Tryd.ntmps21
    go_wp2
    go_loopw [5, 1] (fun i kv wr => HeR f lo b o k w i kv wr) (fun i _ _ => f.len - (intOf i).toNat)
    case atStart => exact HST.out
    case round =>
      obtain ⟨j, r, q, rfl, hj, hdr, rfl, hq, hr, hbw⟩ := hrel
      clear HST
      have HB := Lib.hid hbw
      have HQ := Lib.hid hq
      cases r with
      | nil =>
        simp only [Fo.len] at hj
        have hkl : ¬ j < f.len := by omega
        have HE := Lib.hid (show q = k + ((f.size * 9 : Nat) : Int) by rw [hq]; simp [Fo.size])
        clear hbw hq hr
        go_wp2
        go_ret
        exact ⟨ret_int' HE.out, HB.out⟩
      | cons h' s' r' =>
        simp only [Fo.len] at hj
        simp only [Fo.size] at hdr
        have hkl : j < f.len := by omega
        have hsz2 : (Fo.cons h' s' r').size = s'.size + r'.size + 1 := rfl
        have hq0 : 0 ≤ q := by omega
        have hq1 : q + 9 + ((s'.size * 9 : Nat) : Int) ≤ 20000000 := by omega
        have hq9 : q + 9 ≤ 20000000 := by omega
        have HR := Lib.hid hr.2
        obtain ⟨⟨sl, hrow, hsl⟩, _⟩ := FEl.below hbw (Nat.le_refl _) hlo hb hr
        have HC := Lib.hid (H.out s' (by omega) wr lo sl _ hsl (by omega) (by omega))
        obtain ⟨c0, c1, c2, c3, c4, c5, c6, c7, c8, c9⟩ := hrow
        obtain ⟨q', hq'⟩ : ∃ q', q + 1 + 1 + 1 + 1 + 1 + 1 + 1 + 1 + 1 + ((s'.size * 9 : Nat) : Int) = q' := ⟨_, rfl⟩
        have HQ' := Lib.hid hq'
        have hqp : 0 ≤ q' := by omega
        rw [hq'] at HC
        clear hsl hr hbw hq hsz2 hq1 hq'
        go_wp2_with fail
        refine HC.out.mono ?_
        rintro e w2 ⟨rfl, hb2⟩
        have HB2 := Lib.hid (below_on HB.out hb2)
        clear c0 c1 c2 c3 c4 c5 c6 c7 c8 c9 hb2 HC
        go_wp2
        go_roundw
        case rel =>
          have hqq := HQ.out
          have hqq' := HQ'.out
          have hsz2 : (Fo.cons h' s' r').size = s'.size + r'.size + 1 := rfl
          rw [hsz2] at hqq
          refine ⟨j + 1, r', q', by go_num, by omega, by omega, rfl, by omega, ?_, HB2.out⟩
          rw [show o + (j + 1) * 10 = o + j * 10 + 10 by omega, ← hqq']
          exact HR.out
        case measure => simp [intOf]; omega

theorem heS_any (f : Fo) : HeS f := by
  have key : ∀ N (f : Fo), f.size ≤ N → HeS f := by
    intro N
    induction N with
    | zero => intro f hf; exact heS_of fun s hs => absurd hs (by omega)
    | succ N ih => intro f hf; exact heS_of fun s hs => ih s (by omega)
  exact key f.size f (Nat.le_refl _)

set_option maxHeartbeats 1000000 in
theorem heF_any (h : FH) (f : Fo) (w : World) (lo : Nat) (s : Value) (k : Int) (hs : FS w lo (f.mk k) s) (k0 : 0 ≤ k) (k1 : k + ((f.size * 9 : Nat) : Int) ≤ 20000000) :
    Calls Tryd.prog 10 #[.agg #[.int .i64 h.k, .int .i64 h.ak, .int .i64 h.am, .int .i64 h.a, .int .i64 h.b, .int .i64 h.c, .int .i64 h.d, .int .i64 h.n, .int .i64 h.v, s], .int .i64 k] w fun e w' => e = .returned (.int .i64 (k + ((f.size * 9 : Nat) : Int))) ∧ Below w.heap.size w w' := by
  have HS := Lib.hid fun W (hb : Below w.heap.size w W) => heS_any f W lo _ k (FS.below hb (Nat.le_refl _) hs) k0 k1
  obtain ⟨sa, sn, sc, rfl⟩ := hs.slice
  obtain ⟨N, hN⟩ : ∃ N : Int, k + ((f.size * 9 : Nat) : Int) = N := ⟨_, rfl⟩
  have HN := Lib.hid hN
  have hN0 : 0 ≤ N := by omega
  clear hs hN
  go_enter Tryd.func10, Tryd.ntmps10
  go_wp2_with fail
  generalize hW : World.alloc _ _ = W
  have hw : Below w.heap.size w W := by subst hW; go_grown
  have hx : C10 W w.heap.size h (.slice sa sn sc) := by subst hW; exact (by refine ⟨?_, ?_, ?_, ?_, ?_, ?_, ?_, ?_, ?_, ?_, ?_⟩ <;> first | (simp [go_sem]; done) | (simp; omega))
  obtain ⟨x0, c0, c1, c2, c3, c4, c5, c6, c7, c8, c9⟩ := id hx
  clear hW
  refine (HS.out W hw).mono ?_
  rintro e w1 ⟨rfl, hb1⟩
  have hw1 := below_on hw hb1
  rw [HN.out]
  go_wp2
  go_ret
  exact ⟨ret_int' HN.out.symm, hw1⟩

end Go.Proofs.YtmkflokcficmoaaDoor

/- A forest whose lists lie apart: each element's parts in blocks of their own; marks on it are exact. -/
namespace Go.Proofs.YtmkflokcficmoaaDoor
open Go.RowKit

/-- A slice that can be marked, in the blocks from lo to hi. -/
def TSl (w : World) (lo hi len : Nat) (P : Nat → Prop) (s : Value) : Prop :=
  (len = 0 ∧ ∃ x cap, s = .slice x 0 cap ∧ 0 ≤ cap ∧ cap ≤ maxLen) ∨ (0 < len ∧ ∃ b cap, s = .slice (some ⟨b, 0, none⟩) len cap ∧ len ≤ cap ∧ cap ≤ maxLen ∧ lo ≤ b ∧ b < hi ∧ (∀ o, w.frozen? ⟨b, o, none⟩ = false) ∧ P b)
/-- The elements' parts lie in intervals of blocks, one behind the other; none holds the elements' own block. -/
def TEl (w : World) : Fo → Nat → Nat → Nat → Nat → Prop
  | .nil, _, _, _, _ => True
  | .cons h s r, b, i, lo, hi => ∃ l m, lo ≤ l ∧ l ≤ m ∧ m ≤ hi ∧ (b < l ∨ m ≤ b) ∧ (∃ sl, FRow w b (i * 10) h sl ∧ TSl w l m s.len (fun b' => TEl w s b' 0 l m) sl) ∧ TEl w r b (i + 1) m hi
/-- A slice of formulas that lie apart, in the blocks from lo to hi. -/
def SF (w : World) (lo hi : Nat) (f : Fo) (s : Value) : Prop := TSl w lo hi f.len (fun b => TEl w f b 0 lo hi) s

theorem TEl.mono {w : World} : ∀ (f : Fo) (b i lo hi lo' hi' : Nat), lo' ≤ lo → hi ≤ hi' → TEl w f b i lo hi → TEl w f b i lo' hi' := by
  intro f
  induction f with
  | nil => intro _ _ _ _ _ _ _ _ _; trivial
  | cons h s r _ ihr =>
    rintro b i lo hi lo' hi' hl hh ⟨l, m, h1, h2, h3, h4, h5, h6⟩
    exact ⟨l, m, by omega, h2, by omega, h4, h5, ihr b (i + 1) m hi m hi' (Nat.le_refl _) hh h6⟩
theorem SF.mono {w : World} {lo hi lo' hi' : Nat} {f : Fo} {s : Value} (hl : lo' ≤ lo) (hh : hi ≤ hi') (h : SF w lo hi f s) : SF w lo' hi' f s := by
  rcases h with h0 | ⟨h0, b', cap, e, g1, g2, g3, g4, g5, g6⟩
  · exact .inl h0
  · exact .inr ⟨h0, b', cap, e, g1, g2, by omega, by omega, g5, TEl.mono f b' 0 lo hi lo' hi' hl hh g6⟩
theorem TEl.same {w w' : World} : ∀ (f : Fo) (b i lo hi : Nat), (∀ x, lo ≤ x → x < hi → x ≠ b → w'.heap[x]? = w.heap[x]?) → (∀ j, i * 10 ≤ j → j < (i + f.len) * 10 → w'.cell? ⟨b, j, none⟩ = w.cell? ⟨b, j, none⟩) → TEl w f b i lo hi → TEl w' f b i lo hi := by
  intro f
  induction f with
  | nil => intro _ _ _ _ _ _ _; trivial
  | cons h s r ihs ihr =>
    rintro b i lo hi hx hc ⟨l, m, h1, h2, h3, h4, ⟨sl, hr, hsl⟩, h6⟩
    simp only [Fo.len] at hc
    obtain ⟨r0, r1, r2, r3, r4, r5, r6, r7, r8, r9⟩ := hr
    refine ⟨l, m, h1, h2, h3, h4, ⟨sl, ⟨(hc _ (by omega) (by omega)).trans r0, (hc _ (by omega) (by omega)).trans r1, (hc _ (by omega) (by omega)).trans r2, (hc _ (by omega) (by omega)).trans r3, (hc _ (by omega) (by omega)).trans r4, (hc _ (by omega) (by omega)).trans r5, (hc _ (by omega) (by omega)).trans r6, (hc _ (by omega) (by omega)).trans r7, (hc _ (by omega) (by omega)).trans r8, (hc _ (by omega) (by omega)).trans r9⟩, ?_⟩, ihr b (i + 1) m hi (fun x a1 a2 a3 => hx x (by omega) a2 a3) (fun j a1 a2 => hc j (by omega) (by omega)) h6⟩
    rcases hsl with h0 | ⟨h0, b', cap, e, g1, g2, g3, g4, g5, g6⟩
    · exact .inl h0
    · have hb' := hx b' (by omega) (by omega) (by omega)
      exact .inr ⟨h0, b', cap, e, g1, g2, g3, g4, fun o => (World.frozen?_of_block (a := ⟨b', o, none⟩) hb').trans (g5 o), ihs b' 0 l m (fun x a1 a2 _ => hx x (by omega) (by omega) (by omega)) (fun j _ _ => World.cell?_of_block (a := ⟨b', j, none⟩) hb') g6⟩
theorem SF.same {w w' : World} {lo hi : Nat} {f : Fo} {s : Value} (hx : ∀ x, lo ≤ x → x < hi → w'.heap[x]? = w.heap[x]?) (h : SF w lo hi f s) : SF w' lo hi f s := by
  rcases h with h0 | ⟨h0, b', cap, e, g1, g2, g3, g4, g5, g6⟩
  · exact .inl h0
  · exact .inr ⟨h0, b', cap, e, g1, g2, g3, g4, fun o => (World.frozen?_of_block (a := ⟨b', o, none⟩) (hx b' g3 g4)).trans (g5 o), TEl.same f b' 0 lo hi (fun x a1 a2 _ => hx x a1 a2) (fun j _ _ => World.cell?_of_block (a := ⟨b', j, none⟩) (hx b' g3 g4)) g6⟩
theorem SF.below {w w' : World} {lo hi B : Nat} {f : Fo} {s : Value} (hb : Below B w w') (hB : hi ≤ B) (h : SF w lo hi f s) : SF w' lo hi f s :=
  h.same fun x _ hx => hb.block x (by omega)
theorem TEl.app {w : World} {b : Nat} : ∀ (f g : Fo) (i lo m hi : Nat), lo ≤ m → m ≤ hi → TEl w f b i lo m → TEl w g b (i + f.len) m hi → TEl w (f.app g) b i lo hi := by
  intro f
  induction f with
  | nil =>
    intro g i lo m hi hl hm _ hg
    exact TEl.mono g b i m hi lo hi hl (Nat.le_refl _) (by simpa [Fo.len] using hg)
  | cons h s r _ ihr =>
    rintro g i lo m hi hl hm ⟨a, c, h1, h2, h3, h4, h5, h6⟩ hg
    have e : i + (Fo.cons h s r).len = i + 1 + r.len := by simp only [Fo.len]; omega
    rw [e] at hg
    exact ⟨a, c, h1, h2, by omega, h4, h5, ihr g (i + 1) c m hi h3 hm h6 hg⟩
theorem TEl.fel {w : World} : ∀ (f : Fo) (b i lo hi : Nat), hi ≤ w.heap.size → TEl w f b i lo hi → FEl w lo f b (i * 10) := by
  intro f
  induction f with
  | nil => intro _ _ _ _ _ _; trivial
  | cons h s r ihs ihr =>
    rintro b i lo hi hh ⟨l, m, h1, h2, h3, h4, ⟨sl, hr, hsl⟩, h6⟩
    refine ⟨⟨sl, hr, ?_⟩, ?_⟩
    · rcases hsl with h0 | ⟨h0, b', cap, e, g1, g2, g3, g4, g5, g6⟩
      · exact .inl h0
      · exact .inr ⟨h0, b', 0, cap, e, g1, g2, by omega, by omega, FEl.mono h1 s b' 0 (by simpa using ihs b' 0 l m (by omega) g6)⟩
    · have := ihr b (i + 1) m hi hh h6
      rw [show (i + 1) * 10 = i * 10 + 10 by omega] at this
      exact FEl.mono (by omega) r b _ this
theorem SF.fs {w : World} {lo hi : Nat} {f : Fo} {s : Value} (hh : hi ≤ w.heap.size) (h : SF w lo hi f s) : FS w lo f s := by
  rcases h with h0 | ⟨h0, b', cap, e, g1, g2, g3, g4, g5, g6⟩
  · exact .inl h0
  · exact .inr ⟨h0, b', 0, cap, e, g1, g2, g3, by omega, by simpa using TEl.fel f b' 0 lo hi hh g6⟩

/-- A marked row. -/
theorem set9 {w W : World} {b i : Nat} {hd : FH} {sl : Value} {v0 v1 v2 v3 v4 v5 v6 v7 v8 : Int} (hr : FRow w b (i * 10) hd sl) (hW : (((((((((w.setCell ⟨b, i * 10, none⟩ (.int .i64 v0)).setCell ⟨b, i * 10 + 1, none⟩ (.int .i64 v1)).setCell ⟨b, i * 10 + 2, none⟩ (.int .i64 v2)).setCell ⟨b, i * 10 + 3, none⟩ (.int .i64 v3)).setCell ⟨b, i * 10 + 4, none⟩ (.int .i64 v4)).setCell ⟨b, i * 10 + 5, none⟩ (.int .i64 v5)).setCell ⟨b, i * 10 + 6, none⟩ (.int .i64 v6)).setCell ⟨b, i * 10 + 7, none⟩ (.int .i64 v7)).setCell ⟨b, i * 10 + 8, none⟩ (.int .i64 v8)) = W) :
    FRow W b (i * 10) ⟨v0, v1, v2, v3, v4, v5, v6, v7, v8⟩ sl ∧ (∀ j, j < i * 10 ∨ i * 10 + 10 ≤ j → W.cell? ⟨b, j, none⟩ = w.cell? ⟨b, j, none⟩) ∧ (∀ x, x ≠ b → W.heap[x]? = w.heap[x]?) := by
  subst hW
  obtain ⟨r0, r1, r2, r3, r4, r5, r6, r7, r8, r9⟩ := hr
  refine ⟨⟨?_, ?_, ?_, ?_, ?_, ?_, ?_, ?_, ?_, ?_⟩, fun j hj => ?_, fun x hx => ?_⟩
  all_goals try (simp [go_sem, *]; done)
  · repeat rw [Below.heap_setCell _ _ _ _ (by dsimp only; omega)]

end Go.Proofs.YtmkflokcficmoaaDoor

/- Exact marks: the contracts of markFormulaS and markFormula at formulas that lie apart. -/
namespace Go.Proofs.YtmkflokcficmoaaDoor
open Go.RowKit

theorem app_assoc3 (f g r : Fo) : (f.app g).app r = f.app (g.app r) := by
  induction f with
  | nil => rfl
  | cons h s t _ ih => simp only [Fo.app, ih]
theorem len_app3 (f g : Fo) : (f.app g).len = f.len + g.len := by
  induction f with
  | nil => simp [Fo.app, Fo.len]
  | cons h s t _ ih => simp only [Fo.app, Fo.len, ih]; omega

/-- What exact marks do. -/
def XkT (f : Fo) (lo hi : Nat) (s : Value) (k : Int) (w : World) (e : Ending) (w' : World) : Prop :=
  e = .returned (.int .i64 (k + ((f.size * 9 : Nat) : Int))) ∧ Keeps lo hi w w' ∧ SF w' lo hi (f.mk k) s
def XkS (f : Fo) : Prop := ∀ (w : World) (lo hi : Nat) (s : Value) (k : Int), SF w lo hi f s → hi ≤ w.heap.size → 0 ≤ k → k + ((f.size * 9 : Nat) : Int) ≤ 20000000 → Calls Tryd.prog 20 #[s, .int .i64 k] w (XkT f lo hi s k w)

def XkR (f : Fo) (lo hi b : Nat) (k : Int) (w : World) (i kv : Value) (wr : World) : Prop :=
  ∃ (j : Nat) (r done : Fo) (q : Int) (m : Nat), i = .int .i64 j ∧ j + r.len = f.len ∧ done.len = j ∧ r.size ≤ f.size ∧ kv = .int .i64 q ∧ q = k + (((f.size - r.size) * 9 : Nat) : Int) ∧ done.app (r.mk q) = f.mk k ∧ lo ≤ m ∧ m ≤ hi ∧ TEl wr done b 0 lo m ∧ TEl wr r b j m hi ∧ Keeps lo hi w wr

set_option maxRecDepth 10000 in
set_option maxHeartbeats 2000000 in
theorem xkS_of {f : Fo} (HF : ∀ s : Fo, s.size < f.size → XkS s) : XkS f := by
  intro w lo hi s k hs hhi k0 k1
  have H := Lib.hid HF
  clear HF
  rcases hs with ⟨h0, x, cap, rfl, g1, g2⟩ | ⟨h0, b, cap, rfl, hc1, hc2, hlo, hb, hfz, hel⟩
  · obtain rfl : f = .nil := Fo.len_zero h0
    clear h0
    have HK := Lib.hid (show k + ((Fo.nil.size * 9 : Nat) : Int) = k by simp [Fo.size])
    have HSF := Lib.hid (show SF w lo hi (Fo.nil.mk k) (.slice x 0 cap) from .inl ⟨rfl, x, cap, rfl, g1, g2⟩)
    clear k1
    go_enter Tryd.func20, Tryd.ntmps20
    go_wp2
    refine wp_loop_rounds 1 ?_
    rw [rounds_succ]
    go_wp2
    go_ret
    exact ⟨ret_int' HK.out.symm, Keeps.refl _ _ _, HSF.out⟩
  · have HST := Lib.hid (show XkR f lo hi b k w (.int .i64 0) (.int .i64 k) w from ⟨0, f, .nil, k, lo, rfl, by omega, rfl, Nat.le_refl _, rfl, by simp, rfl, Nat.le_refl _, by omega, trivial, hel, Keeps.refl _ _ _⟩)
    have HFZ := Lib.hid hfz
    have HC := Lib.hid (And.intro hc1 hc2)
    unfold maxLen at hc2
    clear hel hfz
    go_enter Tryd.func20, Tryd.ntmps20
    go_wp2
    go_loopw [5, 1] (fun i kv wr => XkR f lo hi b k w i kv wr) (fun i _ _ => f.len - (intOf i).toNat)
    case atStart => exact HST.out
    case round =>
      obtain ⟨j, r, done, q, m, rfl, hj, hdl, hdr, rfl, hq, hfm, hlm, hmh, hdn, hr, hkw⟩ := hrel
      clear HST
      have HKW := Lib.hid hkw
      have HQ := Lib.hid hq
      have HFM := Lib.hid hfm
      have HDN := Lib.hid hdn
      have hfz : ∀ o, wr.frozen? ⟨b, o, none⟩ = false := fun o => (hkw.froz b o hlo hb).trans (HFZ.out o)
      have hszw := hkw.size
      clear hkw hfm hdn
      cases r with
      | nil =>
        simp only [Fo.len] at hj
        have hkl : ¬ j < f.len := by omega
        have HE := Lib.hid (show q = k + ((f.size * 9 : Nat) : Int) by rw [hq]; simp [Fo.size])
        have HSF : Hid (SF wr lo hi (f.mk k) (.slice (some ⟨b, 0, none⟩) f.len cap)) := by
          show TSl wr lo hi (f.mk k).len _ _
          rw [mk_len]
          refine .inr ⟨h0, b, cap, rfl, HC.out.1, HC.out.2, hlo, hb, hfz, ?_⟩
          have e := HFM.out
          simp only [Fo.mk] at e
          have e2 : done.app .nil = done := by
            clear e hdl HDN HFM
            induction done with
            | nil => rfl
            | cons _ _ _ _ ih => simp only [Fo.app, ih]
          rw [e2] at e
          rw [← e]
          exact TEl.mono done b 0 lo m lo hi (Nat.le_refl _) hmh HDN.out
        clear hfz hq hr
        go_wp2
        go_ret
        exact ⟨ret_int' HE.out, HKW.out, HSF.out⟩
      | cons h' s' r' =>
        simp only [Fo.len] at hj
        simp only [Fo.size] at hdr
        have hkl : j < f.len := by omega
        obtain ⟨l, m2, ha1, ha2, ha3, ha4, ⟨sl, hrow, hsl⟩, hrest⟩ := hr
        have hsz2 : (Fo.cons h' s' r').size = s'.size + r'.size + 1 := rfl
        have hq0 : 0 ≤ q := by omega
        have hq1 : q + 9 + ((s'.size * 9 : Nat) : Int) ≤ 20000000 := by omega
        obtain ⟨ga, gn, gc, rfl⟩ : ∃ a n c, sl = .slice a n c := by
          rcases hsl with ⟨_, x, cap, e, _⟩ | ⟨_, b', cap, e, _⟩
          · exact ⟨_, _, _, e⟩
          · exact ⟨_, _, _, e⟩
        have HSL := Lib.hid (show SF wr l m2 s' (.slice ga gn gc) from hsl)
        have HREST := Lib.hid hrest
        have HROW := Lib.hid hrow
        obtain ⟨c0, c1, c2, c3, c4, c5, c6, c7, c8, c9⟩ := hrow
        have hq9 : q + 9 ≤ 20000000 := by omega
        clear hsl hq hsz2 hq1 hrest
        go_wp2_with fail
        generalize hW2 : World.setCell _ _ _ = W2
        have hk9 := keeps9 hlo hb HROW.out hW2
        obtain ⟨hrow2, hcell2, hblk2⟩ := set9 HROW.out hW2
        have HROW2 := Lib.hid hrow2
        have HK2 := Lib.hid (HKW.out.trans hk9)
        have HD2 := Lib.hid (TEl.same done b 0 lo m (fun x _ _ hx => hblk2 x hx) (fun o _ ho => hcell2 o (.inl (by omega))) HDN.out)
        have HR2 := Lib.hid (TEl.same r' b (j + 1) m2 hi (fun x _ _ hx => hblk2 x hx) (fun o ho _ => hcell2 o (.inr (by omega))) HREST.out)
        have HS2 := Lib.hid (SF.same (fun x _ _ => hblk2 x (by omega)) HSL.out)
        have hs2 := HK2.out.size
        have hqq := HQ.out
        have hsz2 : (Fo.cons h' s' r').size = s'.size + r'.size + 1 := rfl
        have HCALL := Lib.hid (H.out s' (by omega) W2 l m2 _ (q + 1 + 1 + 1 + 1 + 1 + 1 + 1 + 1 + 1) HS2.out (by omega) (by omega) (by rw [hsz2] at hqq; omega))
        obtain ⟨q', hq'⟩ : ∃ q', q + 1 + 1 + 1 + 1 + 1 + 1 + 1 + 1 + 1 + ((s'.size * 9 : Nat) : Int) = q' := ⟨_, rfl⟩
        have HQ' := Lib.hid hq'
        unfold XkT at HCALL
        rw [hq'] at HCALL
        clear hW2 hk9 hfz c0 c1 c2 c3 c4 c5 c6 c7 c8 c9 hqq hsz2 hrow2 hcell2 hblk2 hq'
        refine HCALL.out.mono ?_
        rintro e w3 ⟨rfl, hk3, hs3⟩
        have hcb : ∀ x, x < W2.heap.size → (x < l ∨ m2 ≤ x) → w3.heap[x]? = W2.heap[x]? := hk3.block
        have hbW : b < W2.heap.size := by omega
        have HK3 : Hid (Keeps lo hi w w3) := by
          refine HK2.out.trans ⟨?_, ?_, ?_, hk3.os, hk3.tape, hk3.output, hk3.size, fun x h1 h2 => hk3.block x h1 (by omega)⟩
          · intro x o h1 h2
            by_cases hx : l ≤ x ∧ x < m2
            · exact hk3.last x o hx.1 hx.2
            · exact World.cell?_of_block (a := ⟨x, _, none⟩) (hcb x (by omega) (by omega))
          · intro x o t h1 h2 h3 v hv
            by_cases hx : l ≤ x ∧ x < m2
            · exact hk3.ints x o t hx.1 hx.2 h3 v hv
            · exact ⟨v, (World.cell?_of_block (a := ⟨x, _, none⟩) (hcb x (by omega) (by omega))).trans hv⟩
          · intro x o h1 h2
            by_cases hx : l ≤ x ∧ x < m2
            · exact hk3.froz x o hx.1 hx.2
            · exact World.frozen?_of_block (a := ⟨x, o, none⟩) (hcb x (by omega) (by omega))
        have hbb := hcb b hbW (by omega)
        have HD3 : Hid (TEl w3 (done.app (.cons ⟨q, q + 1, q + 1 + 1, q + 1 + 1 + 1, q + 1 + 1 + 1 + 1, q + 1 + 1 + 1 + 1 + 1, q + 1 + 1 + 1 + 1 + 1 + 1, q + 1 + 1 + 1 + 1 + 1 + 1 + 1, q + 1 + 1 + 1 + 1 + 1 + 1 + 1 + 1⟩ (s'.mk (q + 1 + 1 + 1 + 1 + 1 + 1 + 1 + 1 + 1)) .nil)) b 0 lo m2) := by
          refine TEl.app done _ 0 lo m m2 hlm (by omega) (TEl.same done b 0 lo m (fun x _ h2 _ => hcb x (by omega) (by omega)) (fun o _ _ => World.cell?_of_block (a := ⟨b, o, none⟩) hbb) HD2.out) ?_
          rw [Nat.zero_add, hdl]
          obtain ⟨r0, r1, r2, r3, r4, r5, r6, r7, r8, r9⟩ := HROW2.out
          have g : ∀ o, w3.cell? ⟨b, o, none⟩ = W2.cell? ⟨b, o, none⟩ := fun o => World.cell?_of_block (a := ⟨b, o, none⟩) hbb
          exact ⟨l, m2, ha1, ha2, Nat.le_refl _, ha4, ⟨_, ⟨(g _).trans r0, (g _).trans r1, (g _).trans r2, (g _).trans r3, (g _).trans r4, (g _).trans r5, (g _).trans r6, (g _).trans r7, (g _).trans r8, (g _).trans r9⟩, hs3⟩, trivial⟩
        have HR3 := Lib.hid (TEl.same r' b (j + 1) m2 hi (fun x h1 h2 _ => hcb x (by omega) (by omega)) (fun o _ _ => World.cell?_of_block (a := ⟨b, o, none⟩) hbb) HR2.out)
        have HF3 : Hid ((done.app (.cons ⟨q, q + 1, q + 1 + 1, q + 1 + 1 + 1, q + 1 + 1 + 1 + 1, q + 1 + 1 + 1 + 1 + 1, q + 1 + 1 + 1 + 1 + 1 + 1, q + 1 + 1 + 1 + 1 + 1 + 1 + 1, q + 1 + 1 + 1 + 1 + 1 + 1 + 1 + 1⟩ (s'.mk (q + 1 + 1 + 1 + 1 + 1 + 1 + 1 + 1 + 1)) .nil)).app (r'.mk q') = f.mk k) := by
          show _ = _
          rw [app_assoc3, ← HFM.out, ← HQ'.out]
          rfl
        have hq0' : 0 ≤ q' := by have := HQ'.out; omega
        clear hk3 hs3 HCALL hcb hbb
        go_wp2
        go_roundw
        case rel =>
          have hqq := HQ.out
          have hqq' := HQ'.out
          have hsz2 : (Fo.cons h' s' r').size = s'.size + r'.size + 1 := rfl
          rw [hsz2] at hqq
          exact ⟨j + 1, r', _, q', m2, by go_num, by omega, by rw [len_app3, hdl]; rfl, by omega, rfl, by omega, HF3.out, by omega, ha3, HD3.out, HR3.out, HK3.out⟩
        case measure => simp [intOf]; omega

theorem xkS_any (f : Fo) : XkS f := by
  have key : ∀ N (f : Fo), f.size ≤ N → XkS f := by
    intro N
    induction N with
    | zero => intro f hf; exact xkS_of fun s hs => absurd hs (by omega)
    | succ N ih => intro f hf; exact xkS_of fun s hs => ih s (by omega)
  exact key f.size f (Nat.le_refl _)

set_option maxHeartbeats 1000000 in
theorem xkF_any (h : FH) (f : Fo) (w : World) (lo hi : Nat) (s : Value) (k : Int) (hs : SF w lo hi f s) (hhi : hi ≤ w.heap.size) (k0 : 0 ≤ k) (k1 : k + ((f.size * 9 : Nat) : Int) ≤ 20000000) :
    Calls Tryd.prog 9 #[.agg #[.int .i64 h.k, .int .i64 h.ak, .int .i64 h.am, .int .i64 h.a, .int .i64 h.b, .int .i64 h.c, .int .i64 h.d, .int .i64 h.n, .int .i64 h.v, s], .int .i64 k] w (XkT f lo hi s k w) := by
  obtain ⟨sa, sn, sc, rfl⟩ : ∃ a n c, s = .slice a n c := by
    rcases hs with ⟨_, x, cap, e, _⟩ | ⟨_, b', cap, e, _⟩
    · exact ⟨_, _, _, e⟩
    · exact ⟨_, _, _, e⟩
  have HS := Lib.hid fun W (hb : Below w.heap.size w W) => xkS_any f W lo hi _ k (SF.below hb hhi hs) (Nat.le_trans hhi hb.size) k0 k1
  obtain ⟨N, hN⟩ : ∃ N : Int, k + ((f.size * 9 : Nat) : Int) = N := ⟨_, rfl⟩
  have HN := Lib.hid hN
  unfold XkT at HS ⊢
  rw [hN] at HS ⊢
  clear hs hN
  go_enter Tryd.func9, Tryd.ntmps9
  go_wp2_with fail
  generalize hW : World.alloc _ _ = W
  have hw : Below w.heap.size w W := by subst hW; go_grown
  have HK := Lib.hid (Keeps.of_below (lo := lo) hw hhi)
  clear hW
  refine (HS.out W hw).mono ?_
  rintro e w1 ⟨rfl, hk, hs1⟩
  have HK1 := Lib.hid (HK.out.trans hk)
  have HS1 := Lib.hid hs1
  clear hk hs1
  go_wp2
  go_ret
  exact ⟨rfl, HK1.out, HS1.out⟩

end Go.Proofs.YtmkflokcficmoaaDoor

/- Toward the contract of formulaOf: a formula put behind a list of formulas. -/
namespace Go.Proofs.YtmkflokcficmoaaDoor
open Go.RowKit

def FoT (h : FH) (f : Fo) (w : World) (e : Ending) (w' : World) : Prop := ∃ s, e = .returned (.agg #[.int .i64 h.k, .int .i64 h.ak, .int .i64 h.am, .int .i64 h.a, .int .i64 h.b, .int .i64 h.c, .int .i64 h.d, .int .i64 h.n, .int .i64 h.v, s]) ∧ SF w' w.heap.size w'.heap.size f s ∧ Below w.heap.size w w'
def FoAt (x : Value) (h : FH) (f : Fo) : Prop := ∀ w, Calls Tryd.prog 66 #[x] w (FoT h f w)

/-- The cells of a formula. -/
def fcel (h : FH) (s : Value) : List Value := [.int .i64 h.k, .int .i64 h.ak, .int .i64 h.am, .int .i64 h.a, .int .i64 h.b, .int .i64 h.c, .int .i64 h.d, .int .i64 h.n, .int .i64 h.v, s]
theorem form_news {w : World} (h : FH) (s : Value) : ∀ j u, (fcel h s)[j]? = some u → (w.alloc (.cells #[.int .i64 h.k, .int .i64 h.ak, .int .i64 h.am, .int .i64 h.a, .int .i64 h.b, .int .i64 h.c, .int .i64 h.d, .int .i64 h.n, .int .i64 h.v, s] 31)).cell? ((⟨w.heap.size, 0, none⟩ : Addr).add j) = some u := by
  intro j u hj
  match j, hj with
  | 0, hj | 1, hj | 2, hj | 3, hj | 4, hj | 5, hj | 6, hj | 7, hj | 8, hj | 9, hj => simp [fcel] at hj; subst hj; simp [Addr.add]
  | j + 10, hj => simp [fcel] at hj
theorem fo_app (h1 : FH) (sa : Option Addr) (sn sc : Nat) {w : World} {base n : Nat} {v : Value} {xs : List Value} (hb : base ≤ w.heap.size) (hn : n ≤ 1048576) (hown : w.ownsRow base 31 10 v n xs) :
    ∃ v1 w1, (Builtin.append_ #[29, 29] 29 #[v, .slice (some ⟨w.heap.size, 0, none⟩) 1 1]).run Tryd.prog (w.alloc (.cells #[.int .i64 h1.k, .int .i64 h1.ak, .int .i64 h1.am, .int .i64 h1.a, .int .i64 h1.b, .int .i64 h1.c, .int .i64 h1.d, .int .i64 h1.n, .int .i64 h1.v, .slice sa sn sc] 31)) = .ok v1 w1 ∧ w1.ownsRow base 31 10 v1 (n + 1) (xs ++ fcel h1 (.slice sa sn sc)) ∧ (w.alloc (.cells #[.int .i64 h1.k, .int .i64 h1.ak, .int .i64 h1.am, .int .i64 h1.a, .int .i64 h1.b, .int .i64 h1.c, .int .i64 h1.d, .int .i64 h1.n, .int .i64 h1.v, .slice sa sn sc] 31)).grownBy w1 v.ownBlock ∧ (v1.ownBlock = v.ownBlock ∨ v1.ownBlock = some (w.heap.size + 1)) := by
  obtain ⟨i0, hi, hz0, hz1, hz2⟩ := info_parts Tryd.infoForm
  obtain ⟨v1, w1, hr, ho, hg, hw⟩ := append_row (P := Tryd.prog) (ty := 29) Tryd.underlying29 hi hz0 hz1 hz2 rfl (by decide) (hown.alloc (.cells #[.int .i64 h1.k, .int .i64 h1.ak, .int .i64 h1.am, .int .i64 h1.a, .int .i64 h1.b, .int .i64 h1.c, .int .i64 h1.d, .int .i64 h1.n, .int .i64 h1.v, .slice sa sn sc] 31)) (a := ⟨w.heap.size, 0, none⟩) (row := fcel h1 (.slice sa sn sc)) rfl (form_news h1 _) (by intro u hu; simp only [fcel, List.mem_cons, List.not_mem_nil, or_false] at hu; rcases hu with rfl | rfl | rfl | rfl | rfl | rfl | rfl | rfl | rfl | rfl <;> rfl) hn (by omega) (by simp; omega)
  exact ⟨v1, w1, hr, ho, hg, by simpa using hw⟩

theorem fo_first (h1 : FH) (sa : Option Addr) (sn sc : Nat) (w : World) :
    ∃ g cap w1, (Builtin.append_ #[29, 29] 29 #[.slice none 0 0, .slice (some ⟨w.heap.size, 0, none⟩) 1 1]).run Tryd.prog (w.alloc (.cells #[.int .i64 h1.k, .int .i64 h1.ak, .int .i64 h1.am, .int .i64 h1.a, .int .i64 h1.b, .int .i64 h1.c, .int .i64 h1.d, .int .i64 h1.n, .int .i64 h1.v, .slice sa sn sc] 31)) = .ok (.slice (some ⟨g, 0, none⟩) 1 cap) w1 ∧ w1.ownsRow w.heap.size 31 10 (.slice (some ⟨g, 0, none⟩) 1 cap) 1 (fcel h1 (.slice sa sn sc)) ∧ Below w.heap.size w w1 := by
  have hown : w.ownsRow w.heap.size 31 10 (.slice none 0 0) 0 [] := World.ownsRow_nil _ _ _ _
  obtain ⟨v1, w1, hr, ho, hg, _⟩ := fo_app h1 sa sn sc (Nat.le_refl _) (Nat.zero_le _) hown
  have hb : Below w.heap.size w w1 := grown_below3 (by go_grown) (hown.alloc _) (Nat.le_refl _) hg
  have ho' : w1.ownsRow w.heap.size 31 10 v1 1 (fcel h1 (.slice sa sn sc)) := by simpa using ho
  obtain ⟨g, cap, rfl⟩ := own_some ho' (fun e => by rw [e] at ho'; rcases ho'.2 with ⟨_, h0⟩ | ⟨g, cap, cur, e0, _⟩ <;> simp_all)
  exact ⟨g, cap, w1, hr, ho', hb⟩

theorem SF.slice {w : World} {lo hi : Nat} {f : Fo} {s : Value} (h : SF w lo hi f s) : ∃ a n c, s = .slice a n c := by
  rcases h with ⟨_, x, cap, e, _⟩ | ⟨_, b', cap, e, _⟩
  · exact ⟨_, _, _, e⟩
  · exact ⟨_, _, _, e⟩

/-- One formula in a new list. -/
theorem sf_one {w : World} {B l g cap : Nat} {h1 : FH} {f1 : Fo} {s : Value} (ho : w.ownsRow B 31 10 (.slice (some ⟨g, 0, none⟩) 1 cap) 1 (fcel h1 s)) (hs : SF w l B f1 s) (hl : l ≤ B) : SF w l w.heap.size (.cons h1 f1 .nil) (.slice (some ⟨g, 0, none⟩) 1 cap) := by
  have hlt := ho.lt g rfl
  have hc : ∀ j u, (fcel h1 s)[j]? = some u → w.cell? ⟨g, j, none⟩ = some u := by
    intro j u hj
    have hj' : j < 10 := by have := (List.getElem?_eq_some_iff.1 hj).1; simpa [fcel] using this
    exact (ho.cellAt j (by omega)).trans hj
  have hcap : 1 ≤ cap ∧ cap ≤ maxLen := by
    rcases ho.2 with ⟨e, _⟩ | ⟨g', cap', cur, e, _, _, h1, h2, _⟩
    · simp at e
    · injection e with _ _ e3
      subst e3
      exact ⟨h1, h2⟩
  refine .inr ⟨Nat.one_pos, g, cap, rfl, hcap.1, hcap.2, by omega, hlt.2, fun o => ho.frozenAt o, l, B, Nat.le_refl _, hl, by omega, .inr hlt.1, ⟨s, ?_, hs⟩, trivial⟩
  exact ⟨hc 0 _ rfl, hc 1 _ rfl, hc 2 _ rfl, hc 3 _ rfl, hc 4 _ rfl, hc 5 _ rfl, hc 6 _ rfl, hc 7 _ rfl, hc 8 _ rfl, hc 9 _ rfl⟩

end Go.Proofs.YtmkflokcficmoaaDoor

/- The contract of formulaOf. -/
namespace Go.Proofs.YtmkflokcficmoaaDoor
open Go.RowKit

set_option maxRecDepth 10000 in
set_option maxHeartbeats 2000000 in
theorem fo_n (h : FH) (t : TypeId) (y : Value) (h1 : FH) (f1 : Fo) (OWN : ∀ w, Calls Tryd.prog 75 #[.iface 105 (.agg #[.iface t y])] w (OwT h w)) (HC : FoAt (.iface t y) h1 f1) : FoAt (.iface 105 (.agg #[.iface t y])) h (.cons h1 f1 .nil) := by
  intro w
  have H := Lib.hid HC
  have HOWN := Lib.hid OWN
  clear HC OWN
  go_enter Tryd.func66, Tryd.ntmps66
  go_wp2_with fail
  generalize hW : World.alloc _ _ = W
  have hw : Below w.heap.size w W := by subst hW; go_grown
  have hx : C10 W w.heap.size ⟨0, 0, 0, 0, 0, 0, 0, 0, 0⟩ (.slice none 0 0) := by subst hW; exact (by refine ⟨?_, ?_, ?_, ?_, ?_, ?_, ?_, ?_, ?_, ?_, ?_⟩ <;> first | (simp [go_sem]; done) | (simp; omega))
  have hf : ∀ o, W.frozen? ⟨w.heap.size, o, none⟩ = false := fun o => by subst hW; simp [go_sem]
  clear hW
  refine (HOWN.out _).mono ?_
  rintro e w1 ⟨rfl, hb1⟩
  have hw1 := below_on hw hb1
  have hf1 : ∀ o, w1.frozen? ⟨w.heap.size, o, none⟩ = false := fun o => ((bcell hb1).2 _ o hx.1).trans (hf o)
  have hx1 := c10_on hx hb1
  clear hx hf hb1 hw HOWN
  go_upto_region 2 with fail
  generalize hW2 : World.alloc _ _ = W2
  have hw2 : Below w1.heap.size w1 W2 := by subst hW2; go_grown
  have hy2 : C10 W2 w1.heap.size h (.slice none 0 0) := by subst hW2; exact (by refine ⟨?_, ?_, ?_, ?_, ?_, ?_, ?_, ?_, ?_, ?_, ?_⟩ <;> first | (simp [go_sem]; done) | (simp; omega))
  have hg2 : ∀ o, W2.frozen? ⟨w1.heap.size, o, none⟩ = false := fun o => by subst hW2; simp [go_sem]
  have hx2 := c10_on hx1 hw2
  have hf2 : ∀ o, W2.frozen? ⟨w.heap.size, o, none⟩ = false := fun o => ((bcell hw2).2 _ o hx1.1).trans (hf1 o)
  have hne : w.heap.size < w1.heap.size := hx1.1
  have hww2 := below_on hw1 hw2
  clear hW2 hx1 hf1 hw1 hw2
  go_wp2
  generalize hW3 : World.alloc _ _ = W3
  have hw3 : Below W2.heap.size W2 W3 := by subst hW3; go_grown
  have hc3 : W3.cell? ⟨W2.heap.size + 1, 0, none⟩ = some (.iface t y) := by subst hW3; simp [go_sem]
  have hy3 := c10_on hy2 hw3
  have hx3 := c10_on hx2 hw3
  have hg3 : ∀ o, W3.frozen? ⟨w1.heap.size, o, none⟩ = false := fun o => ((bcell hw3).2 _ o hy2.1).trans (hg2 o)
  have hf3 : ∀ o, W3.frozen? ⟨w.heap.size, o, none⟩ = false := fun o => ((bcell hw3).2 _ o hx2.1).trans (hf2 o)
  have hww3 := below_on hww2 hw3
  clear hW3 hx2 hy2 hf2 hg2 hww2 hw3
  refine wp_loop_rounds 2 ?_
  rw [rounds_succ]
  go_upto_region 5 with fail
  have HX3 := Lib.hid hx3
  have HY3 := Lib.hid hy3
  have HF3 := Lib.hid hf3
  obtain ⟨y0, d0, d1, d2, d3, d4, d5, d6, d7, d8, d9⟩ := hy3
  clear hx3 hf3 hc3 d0 d1 d2 d3 d4 d5 d6 d7 d8
  refine wp_region_held_drew (S := fun _ => True) (by kernel_rfl) trivial (fun _ => ?_)
  refine wpAnyH_take (i := 0) (oi := { dst := some 15, op := Go.Op.fieldAddr 31 (Go.Operand.tmp 3) 3, type := 0, pos := "l3_formulas.go:223", after := #[], guard := none }) (v := ?_) rfl (by kernel_rfl) (by kernel_rfl) (by kernel_rfl) (fun _ _ _ h => h) (Or.inl ⟨by rfl, ?_⟩) (by assumption) ?_
  rotate_left
  · (intro w _; first | (go_simp; done) | (go_simp; with_reducible rfl))
  try simp only [Act.put, List.setIfInBounds_toArray, List.set_cons_zero, List.set_cons_succ]
  refine wpAnyH_take (i := 2) (oi := { dst := some 17, op := Go.Op.move (Go.Operand.tmp 5), type := 79, pos := "l3_formulas.go:223", after := #[], guard := none }) (v := ?_) rfl (by kernel_rfl) (by kernel_rfl) (by kernel_rfl) (fun _ _ _ h => h) (Or.inl ⟨by rfl, ?_⟩) (by assumption) ?_
  rotate_left
  · (intro w _; first | (go_simp; done) | (go_simp; with_reducible rfl))
  try simp only [Act.put, List.setIfInBounds_toArray, List.set_cons_zero, List.set_cons_succ]
  refine wpAnyH_ready (rs := [1, 3]) (by kernel_rfl) (by simp) ?_
  refine AllReadyH.cons (o := { dst := some 16, op := Go.Op.load 29 (Go.Operand.tmp 15), type := 29, pos := "l3_formulas.go:223", after := #[{ on := 0, ground := Go.Ground.data }], guard := none }) rfl (fun K hK => ?_) (AllReadyH.cons (o := { dst := some 18, op := Go.Op.call { callee := Go.Callee.value (Go.Operand.func 66), args := #[Go.Operand.tmp 17], argTypes := #[79] }, type := 31, pos := "l3_formulas.go:223", after := #[{ on := 2, ground := Go.Ground.data }], guard := none }) rfl (fun K hK => ?_) AllReadyH.nil)
  ·
    go_simp
    refine hK.out _ _ trivial (fun _ => ?_)
    clear hK K
    try simp only [Act.put, List.setIfInBounds_toArray, List.set_cons_zero, List.set_cons_succ]
    refine wpAnyH_ready (rs := [3]) (by kernel_rfl) (by simp) ?_
    refine AllReadyH.cons (o := { dst := some 18, op := Go.Op.call { callee := Go.Callee.value (Go.Operand.func 66), args := #[Go.Operand.tmp 17], argTypes := #[79] }, type := 31, pos := "l3_formulas.go:223", after := #[{ on := 2, ground := Go.Ground.data }], guard := none }) rfl (fun K hK => ?_) AllReadyH.nil
    go_simp
    (go_at_call 66; refine (H.out _).mono ?_; rintro e w4 ⟨s4, rfl, hs4, hb4⟩; obtain ⟨ga, gn, gc, rfl⟩ := hs4.slice; have hlt4 : w1.heap.size < w4.heap.size := Nat.lt_of_lt_of_le y0 hb4.size; have hd9 : w4.cell? ⟨w1.heap.size, 9, none⟩ = some (.slice none 0 0) := ((bcell hb4).1 _ 9 y0).trans d9; obtain ⟨g, cap, w5, hr5, ho5, hb5⟩ := fo_first h1 ga gn gc w4; have hf5 : ∀ o, w5.frozen? ⟨w1.heap.size, o, none⟩ = false := (fun o => ((bcell hb5).2 _ o (Nat.lt_of_lt_of_le y0 hb4.size)).trans (((bcell hb4).2 _ o y0).trans (hg3 o))); have he9 : w5.cell? ⟨w1.heap.size, 9, none⟩ = some (.slice none 0 0) := ((bcell hb5).1 _ 9 (Nat.lt_of_lt_of_le y0 hb4.size)).trans hd9)
    refine hK.out _ _ trivial (fun _ => ?_)
    clear hK K
    try simp only [Act.put, List.setIfInBounds_toArray, List.set_cons_zero, List.set_cons_succ]
    refine wpAnyH_ready (rs := [4]) (by kernel_rfl) (by simp) ?_
    refine AllReadyH.cons (o := { dst := some 19, op := Go.Op.buildSlice 29 1 #[(0, Go.Operand.tmp 18)], type := 29, pos := "l3_formulas.go:223", after := #[{ on := 3, ground := Go.Ground.data }], guard := none }) rfl (fun K hK => ?_) AllReadyH.nil
    go_simp
    refine hK.out _ _ trivial (fun _ => ?_)
    clear hK K
    try simp only [Act.put, List.setIfInBounds_toArray, List.set_cons_zero, List.set_cons_succ]
    refine wpAnyH_ready (rs := [5]) (by kernel_rfl) (by simp) ?_
    refine AllReadyH.cons (o := { dst := some 20, op := Go.Op.call { callee := Go.Callee.builtin Go.Builtin.append, args := #[Go.Operand.tmp 16, Go.Operand.tmp 19], argTypes := #[29, 29] }, type := 29, pos := "l3_formulas.go:223", after := #[{ on := 1, ground := Go.Ground.data }, { on := 4, ground := Go.Ground.data }, { on := 3, ground := Go.Ground.chain }], guard := none }) rfl (fun K hK => ?_) AllReadyH.nil
    rw [if_pos (by rfl)]
    (refine oper_append _ _ _ rfl rfl rfl hr5 ?_)
    refine hK.out _ _ trivial (fun _ => ?_)
    clear hK K
    try simp only [Act.put, List.setIfInBounds_toArray, List.set_cons_zero, List.set_cons_succ]
    refine wpAnyH_take (i := 6) (oi := { dst := some 21, op := Go.Op.fieldAddr 31 (Go.Operand.tmp 3) 3, type := 0, pos := "l3_formulas.go:223", after := #[{ on := 0, ground := Go.Ground.phase }, { on := 1, ground := Go.Ground.phase }, { on := 2, ground := Go.Ground.phase }, { on := 3, ground := Go.Ground.phase }, { on := 4, ground := Go.Ground.phase }, { on := 5, ground := Go.Ground.phase }], guard := none }) (v := ?_) rfl (by kernel_rfl) (by kernel_rfl) (by kernel_rfl) (fun _ _ _ h => h) (Or.inl ⟨by rfl, ?_⟩) (by assumption) ?_
    rotate_left
    · (intro w _; first | (go_simp; done) | (go_simp; with_reducible rfl))
    try simp only [Act.put, List.setIfInBounds_toArray, List.set_cons_zero, List.set_cons_succ]
    refine wpAnyH_ready (rs := [7]) (by kernel_rfl) (by simp) ?_
    refine AllReadyH.cons (o := { dst := none, op := Go.Op.store 29 (Go.Operand.tmp 21) (Go.Operand.tmp 20), type := 0, pos := "l3_formulas.go:223", after := #[{ on := 6, ground := Go.Ground.data }, { on := 5, ground := Go.Ground.data }, { on := 5, ground := Go.Ground.chain }, { on := 0, ground := Go.Ground.phase }, { on := 1, ground := Go.Ground.phase }, { on := 2, ground := Go.Ground.phase }, { on := 3, ground := Go.Ground.phase }, { on := 4, ground := Go.Ground.phase }, { on := 5, ground := Go.Ground.phase }], guard := none }) rfl (fun K hK => ?_) AllReadyH.nil
    go_simp
    refine hK.out _ _ trivial (fun _ => ?_)
    clear hK K
    try simp only [Act.put, List.setIfInBounds_toArray, List.set_cons_zero, List.set_cons_succ]
    refine wpAnyH_done (by kernel_rfl) ?_ _
    have hb34 := below_on (w := W3.drew) hb4 hb5
    have hx5 := c10_on (W := W3.drew) HX3.out hb34
    have hy5 := c10_on (W := W3.drew) HY3.out hb34
    have hfx5 : ∀ o, w5.frozen? ⟨w.heap.size, o, none⟩ = false := fun o => ((bcell hb34).2 _ o HX3.out.1).trans (HF3.out o)
    have HS5 := Lib.hid (sf_one ho5 (SF.below hb5 (Nat.le_refl _) hs4) hb4.size)
    have hww5 : Below w.heap.size w w5 := below_on (W := W3.drew) (Below.drew hww3) hb34
    have hsz35 : W3.heap.size ≤ w5.heap.size := hb34.size
    generalize hW6 : World.setCell _ _ _ = W6
    have hblk6 : ∀ x, x ≠ w1.heap.size → W6.heap[x]? = w5.heap[x]? := fun x hx => by subst hW6; exact Below.heap_setCell _ _ _ _ (by dsimp only; omega)
    have hsz6 : W6.heap.size = w5.heap.size := by subst hW6; simp [World.setCell]
    have hww6 : Below w.heap.size w W6 := by subst hW6; exact hww5.setCell (Nat.le_of_lt hne) _
    have hx6 : C10 W6 w.heap.size ⟨0, 0, 0, 0, 0, 0, 0, 0, 0⟩ (.slice none 0 0) := c10_block (by omega) (hblk6 _ (by omega)) hx5
    have hf6 : ∀ o, W6.frozen? ⟨w.heap.size, o, none⟩ = false := fun o => (World.frozen?_of_block (a := ⟨w.heap.size, o, none⟩) (hblk6 w.heap.size (by omega))).trans (hfx5 o)
    have hy6 : C10 W6 w1.heap.size h (.slice (some ⟨g, 0, none⟩) 1 cap) := by
      obtain ⟨y0', e0, e1, e2, e3, e4, e5, e6, e7, e8, e9⟩ := hy5
      subst hW6
      refine ⟨by simpa [World.setCell] using y0', ?_, ?_, ?_, ?_, ?_, ?_, ?_, ?_, ?_, ?_⟩ <;> simp [go_sem, *]
    have HS6 := Lib.hid (SF.same (w' := W6) (fun x h1 _ => hblk6 x (by have := y0; have h2 : W3.heap.size ≤ x := h1; omega)) HS5.out)
    have hsz36 : W3.heap.size ≤ W6.heap.size := by omega
    have hlo : w.heap.size < W3.heap.size := by omega
    rw [← hsz6] at HS6
    clear hW6 hblk6 hww5 HS5 hfx5 hx5 hy5 hb34 hs4 hb4 hb5 ho5 hr5 hf5 he9 hd9 hsz35 hsz6 HX3 HY3 HF3
    obtain ⟨x0, c0, c1, c2, c3, c4, c5, c6, c7, c8, c9⟩ := id hx6
    obtain ⟨y1, e0, e1, e2, e3, e4, e5, e6, e7, e8, e9⟩ := hy6
    go_wp2_with fail
    rw [rounds_succ]
    go_wp2_with fail
    generalize hW7 : World.setCell _ _ _ = W7
    have hblk7 : ∀ x, x ≠ w.heap.size → W7.heap[x]? = W6.heap[x]? := fun x hx => by subst hW7; repeat rw [Below.heap_setCell _ _ _ _ (by dsimp only; omega)]
    have hsz7 : W7.heap.size = W6.heap.size := by subst hW7; simp [World.setCell]
    obtain ⟨hx7, hb7⟩ := put10b (g := h) hx6 hW7
    have hww7 := hww6.trans (hb7 w.heap.size (Nat.le_refl _))
    have HS7 : Hid (SF W7 w.heap.size W7.heap.size (.cons h1 f1 .nil) (.slice (some ⟨g, 0, none⟩) 1 cap)) := by
      have h0 := SF.same (w' := W7) (fun x h1 _ => hblk7 x (by have h2 : W3.heap.size ≤ x := h1; omega)) HS6.out
      exact SF.mono (Nat.le_of_lt hlo) (by omega) h0
    obtain ⟨z0, k0, k1, k2, k3, k4, k5, k6, k7, k8, k9⟩ := hx7
    (try simp only [Exit.inBlock, Exit.then])
    refine bodyPost_ret (v := .agg #[.int .i64 h.k, .int .i64 h.ak, .int .i64 h.am, .int .i64 h.a, .int .i64 h.b, .int .i64 h.c, .int .i64 h.d, .int .i64 h.n, .int .i64 h.v, .slice (some ⟨g, 0, none⟩) 1 cap]) ?_ rfl ⟨_, rfl, HS7.out, hww7⟩
    rw [results_cell1 rfl]
    go_simp
  ·
    go_simp
    (go_at_call 66; refine (H.out _).mono ?_; rintro e w4 ⟨s4, rfl, hs4, hb4⟩; obtain ⟨ga, gn, gc, rfl⟩ := hs4.slice; have hlt4 : w1.heap.size < w4.heap.size := Nat.lt_of_lt_of_le y0 hb4.size; have hd9 : w4.cell? ⟨w1.heap.size, 9, none⟩ = some (.slice none 0 0) := ((bcell hb4).1 _ 9 y0).trans d9; obtain ⟨g, cap, w5, hr5, ho5, hb5⟩ := fo_first h1 ga gn gc w4; have hf5 : ∀ o, w5.frozen? ⟨w1.heap.size, o, none⟩ = false := (fun o => ((bcell hb5).2 _ o (Nat.lt_of_lt_of_le y0 hb4.size)).trans (((bcell hb4).2 _ o y0).trans (hg3 o))); have he9 : w5.cell? ⟨w1.heap.size, 9, none⟩ = some (.slice none 0 0) := ((bcell hb5).1 _ 9 (Nat.lt_of_lt_of_le y0 hb4.size)).trans hd9)
    refine hK.out _ _ trivial (fun _ => ?_)
    clear hK K
    try simp only [Act.put, List.setIfInBounds_toArray, List.set_cons_zero, List.set_cons_succ]
    refine wpAnyH_ready (rs := [1, 4]) (by kernel_rfl) (by simp) ?_
    refine AllReadyH.cons (o := { dst := some 16, op := Go.Op.load 29 (Go.Operand.tmp 15), type := 29, pos := "l3_formulas.go:223", after := #[{ on := 0, ground := Go.Ground.data }], guard := none }) rfl (fun K hK => ?_) (AllReadyH.cons (o := { dst := some 19, op := Go.Op.buildSlice 29 1 #[(0, Go.Operand.tmp 18)], type := 29, pos := "l3_formulas.go:223", after := #[{ on := 3, ground := Go.Ground.data }], guard := none }) rfl (fun K hK => ?_) AllReadyH.nil)
    ·
      go_simp
      refine hK.out _ _ trivial (fun _ => ?_)
      clear hK K
      try simp only [Act.put, List.setIfInBounds_toArray, List.set_cons_zero, List.set_cons_succ]
      refine wpAnyH_ready (rs := [4]) (by kernel_rfl) (by simp) ?_
      refine AllReadyH.cons (o := { dst := some 19, op := Go.Op.buildSlice 29 1 #[(0, Go.Operand.tmp 18)], type := 29, pos := "l3_formulas.go:223", after := #[{ on := 3, ground := Go.Ground.data }], guard := none }) rfl (fun K hK => ?_) AllReadyH.nil
      go_simp
      refine hK.out _ _ trivial (fun _ => ?_)
      clear hK K
      try simp only [Act.put, List.setIfInBounds_toArray, List.set_cons_zero, List.set_cons_succ]
      refine wpAnyH_ready (rs := [5]) (by kernel_rfl) (by simp) ?_
      refine AllReadyH.cons (o := { dst := some 20, op := Go.Op.call { callee := Go.Callee.builtin Go.Builtin.append, args := #[Go.Operand.tmp 16, Go.Operand.tmp 19], argTypes := #[29, 29] }, type := 29, pos := "l3_formulas.go:223", after := #[{ on := 1, ground := Go.Ground.data }, { on := 4, ground := Go.Ground.data }, { on := 3, ground := Go.Ground.chain }], guard := none }) rfl (fun K hK => ?_) AllReadyH.nil
      rw [if_pos (by rfl)]
      (refine oper_append _ _ _ rfl rfl rfl hr5 ?_)
      refine hK.out _ _ trivial (fun _ => ?_)
      clear hK K
      try simp only [Act.put, List.setIfInBounds_toArray, List.set_cons_zero, List.set_cons_succ]
      refine wpAnyH_take (i := 6) (oi := { dst := some 21, op := Go.Op.fieldAddr 31 (Go.Operand.tmp 3) 3, type := 0, pos := "l3_formulas.go:223", after := #[{ on := 0, ground := Go.Ground.phase }, { on := 1, ground := Go.Ground.phase }, { on := 2, ground := Go.Ground.phase }, { on := 3, ground := Go.Ground.phase }, { on := 4, ground := Go.Ground.phase }, { on := 5, ground := Go.Ground.phase }], guard := none }) (v := ?_) rfl (by kernel_rfl) (by kernel_rfl) (by kernel_rfl) (fun _ _ _ h => h) (Or.inl ⟨by rfl, ?_⟩) (by assumption) ?_
      rotate_left
      · (intro w _; first | (go_simp; done) | (go_simp; with_reducible rfl))
      try simp only [Act.put, List.setIfInBounds_toArray, List.set_cons_zero, List.set_cons_succ]
      refine wpAnyH_ready (rs := [7]) (by kernel_rfl) (by simp) ?_
      refine AllReadyH.cons (o := { dst := none, op := Go.Op.store 29 (Go.Operand.tmp 21) (Go.Operand.tmp 20), type := 0, pos := "l3_formulas.go:223", after := #[{ on := 6, ground := Go.Ground.data }, { on := 5, ground := Go.Ground.data }, { on := 5, ground := Go.Ground.chain }, { on := 0, ground := Go.Ground.phase }, { on := 1, ground := Go.Ground.phase }, { on := 2, ground := Go.Ground.phase }, { on := 3, ground := Go.Ground.phase }, { on := 4, ground := Go.Ground.phase }, { on := 5, ground := Go.Ground.phase }], guard := none }) rfl (fun K hK => ?_) AllReadyH.nil
      go_simp
      refine hK.out _ _ trivial (fun _ => ?_)
      clear hK K
      try simp only [Act.put, List.setIfInBounds_toArray, List.set_cons_zero, List.set_cons_succ]
      refine wpAnyH_done (by kernel_rfl) ?_ _
      have hb34 := below_on (w := W3.drew) hb4 hb5
      have hx5 := c10_on (W := W3.drew) HX3.out hb34
      have hy5 := c10_on (W := W3.drew) HY3.out hb34
      have hfx5 : ∀ o, w5.frozen? ⟨w.heap.size, o, none⟩ = false := fun o => ((bcell hb34).2 _ o HX3.out.1).trans (HF3.out o)
      have HS5 := Lib.hid (sf_one ho5 (SF.below hb5 (Nat.le_refl _) hs4) hb4.size)
      have hww5 : Below w.heap.size w w5 := below_on (W := W3.drew) (Below.drew hww3) hb34
      have hsz35 : W3.heap.size ≤ w5.heap.size := hb34.size
      generalize hW6 : World.setCell _ _ _ = W6
      have hblk6 : ∀ x, x ≠ w1.heap.size → W6.heap[x]? = w5.heap[x]? := fun x hx => by subst hW6; exact Below.heap_setCell _ _ _ _ (by dsimp only; omega)
      have hsz6 : W6.heap.size = w5.heap.size := by subst hW6; simp [World.setCell]
      have hww6 : Below w.heap.size w W6 := by subst hW6; exact hww5.setCell (Nat.le_of_lt hne) _
      have hx6 : C10 W6 w.heap.size ⟨0, 0, 0, 0, 0, 0, 0, 0, 0⟩ (.slice none 0 0) := c10_block (by omega) (hblk6 _ (by omega)) hx5
      have hf6 : ∀ o, W6.frozen? ⟨w.heap.size, o, none⟩ = false := fun o => (World.frozen?_of_block (a := ⟨w.heap.size, o, none⟩) (hblk6 w.heap.size (by omega))).trans (hfx5 o)
      have hy6 : C10 W6 w1.heap.size h (.slice (some ⟨g, 0, none⟩) 1 cap) := by
        obtain ⟨y0', e0, e1, e2, e3, e4, e5, e6, e7, e8, e9⟩ := hy5
        subst hW6
        refine ⟨by simpa [World.setCell] using y0', ?_, ?_, ?_, ?_, ?_, ?_, ?_, ?_, ?_, ?_⟩ <;> simp [go_sem, *]
      have HS6 := Lib.hid (SF.same (w' := W6) (fun x h1 _ => hblk6 x (by have := y0; have h2 : W3.heap.size ≤ x := h1; omega)) HS5.out)
      have hsz36 : W3.heap.size ≤ W6.heap.size := by omega
      have hlo : w.heap.size < W3.heap.size := by omega
      rw [← hsz6] at HS6
      clear hW6 hblk6 hww5 HS5 hfx5 hx5 hy5 hb34 hs4 hb4 hb5 ho5 hr5 hf5 he9 hd9 hsz35 hsz6 HX3 HY3 HF3
      obtain ⟨x0, c0, c1, c2, c3, c4, c5, c6, c7, c8, c9⟩ := id hx6
      obtain ⟨y1, e0, e1, e2, e3, e4, e5, e6, e7, e8, e9⟩ := hy6
      go_wp2_with fail
      rw [rounds_succ]
      go_wp2_with fail
      generalize hW7 : World.setCell _ _ _ = W7
      have hblk7 : ∀ x, x ≠ w.heap.size → W7.heap[x]? = W6.heap[x]? := fun x hx => by subst hW7; repeat rw [Below.heap_setCell _ _ _ _ (by dsimp only; omega)]
      have hsz7 : W7.heap.size = W6.heap.size := by subst hW7; simp [World.setCell]
      obtain ⟨hx7, hb7⟩ := put10b (g := h) hx6 hW7
      have hww7 := hww6.trans (hb7 w.heap.size (Nat.le_refl _))
      have HS7 : Hid (SF W7 w.heap.size W7.heap.size (.cons h1 f1 .nil) (.slice (some ⟨g, 0, none⟩) 1 cap)) := by
        have h0 := SF.same (w' := W7) (fun x h1 _ => hblk7 x (by have h2 : W3.heap.size ≤ x := h1; omega)) HS6.out
        exact SF.mono (Nat.le_of_lt hlo) (by omega) h0
      obtain ⟨z0, k0, k1, k2, k3, k4, k5, k6, k7, k8, k9⟩ := hx7
      (try simp only [Exit.inBlock, Exit.then])
      refine bodyPost_ret (v := .agg #[.int .i64 h.k, .int .i64 h.ak, .int .i64 h.am, .int .i64 h.a, .int .i64 h.b, .int .i64 h.c, .int .i64 h.d, .int .i64 h.n, .int .i64 h.v, .slice (some ⟨g, 0, none⟩) 1 cap]) ?_ rfl ⟨_, rfl, HS7.out, hww7⟩
      rw [results_cell1 rfl]
      go_simp
    ·
      go_simp
      refine hK.out _ _ trivial (fun _ => ?_)
      clear hK K
      try simp only [Act.put, List.setIfInBounds_toArray, List.set_cons_zero, List.set_cons_succ]
      refine wpAnyH_ready (rs := [1]) (by kernel_rfl) (by simp) ?_
      refine AllReadyH.cons (o := { dst := some 16, op := Go.Op.load 29 (Go.Operand.tmp 15), type := 29, pos := "l3_formulas.go:223", after := #[{ on := 0, ground := Go.Ground.data }], guard := none }) rfl (fun K hK => ?_) AllReadyH.nil
      go_simp
      refine hK.out _ _ trivial (fun _ => ?_)
      clear hK K
      try simp only [Act.put, List.setIfInBounds_toArray, List.set_cons_zero, List.set_cons_succ]
      refine wpAnyH_ready (rs := [5]) (by kernel_rfl) (by simp) ?_
      refine AllReadyH.cons (o := { dst := some 20, op := Go.Op.call { callee := Go.Callee.builtin Go.Builtin.append, args := #[Go.Operand.tmp 16, Go.Operand.tmp 19], argTypes := #[29, 29] }, type := 29, pos := "l3_formulas.go:223", after := #[{ on := 1, ground := Go.Ground.data }, { on := 4, ground := Go.Ground.data }, { on := 3, ground := Go.Ground.chain }], guard := none }) rfl (fun K hK => ?_) AllReadyH.nil
      rw [if_pos (by rfl)]
      (refine oper_append _ _ _ rfl rfl rfl hr5 ?_)
      refine hK.out _ _ trivial (fun _ => ?_)
      clear hK K
      try simp only [Act.put, List.setIfInBounds_toArray, List.set_cons_zero, List.set_cons_succ]
      refine wpAnyH_take (i := 6) (oi := { dst := some 21, op := Go.Op.fieldAddr 31 (Go.Operand.tmp 3) 3, type := 0, pos := "l3_formulas.go:223", after := #[{ on := 0, ground := Go.Ground.phase }, { on := 1, ground := Go.Ground.phase }, { on := 2, ground := Go.Ground.phase }, { on := 3, ground := Go.Ground.phase }, { on := 4, ground := Go.Ground.phase }, { on := 5, ground := Go.Ground.phase }], guard := none }) (v := ?_) rfl (by kernel_rfl) (by kernel_rfl) (by kernel_rfl) (fun _ _ _ h => h) (Or.inl ⟨by rfl, ?_⟩) (by assumption) ?_
      rotate_left
      · (intro w _; first | (go_simp; done) | (go_simp; with_reducible rfl))
      try simp only [Act.put, List.setIfInBounds_toArray, List.set_cons_zero, List.set_cons_succ]
      refine wpAnyH_ready (rs := [7]) (by kernel_rfl) (by simp) ?_
      refine AllReadyH.cons (o := { dst := none, op := Go.Op.store 29 (Go.Operand.tmp 21) (Go.Operand.tmp 20), type := 0, pos := "l3_formulas.go:223", after := #[{ on := 6, ground := Go.Ground.data }, { on := 5, ground := Go.Ground.data }, { on := 5, ground := Go.Ground.chain }, { on := 0, ground := Go.Ground.phase }, { on := 1, ground := Go.Ground.phase }, { on := 2, ground := Go.Ground.phase }, { on := 3, ground := Go.Ground.phase }, { on := 4, ground := Go.Ground.phase }, { on := 5, ground := Go.Ground.phase }], guard := none }) rfl (fun K hK => ?_) AllReadyH.nil
      go_simp
      refine hK.out _ _ trivial (fun _ => ?_)
      clear hK K
      try simp only [Act.put, List.setIfInBounds_toArray, List.set_cons_zero, List.set_cons_succ]
      refine wpAnyH_done (by kernel_rfl) ?_ _
      have hb34 := below_on (w := W3.drew) hb4 hb5
      have hx5 := c10_on (W := W3.drew) HX3.out hb34
      have hy5 := c10_on (W := W3.drew) HY3.out hb34
      have hfx5 : ∀ o, w5.frozen? ⟨w.heap.size, o, none⟩ = false := fun o => ((bcell hb34).2 _ o HX3.out.1).trans (HF3.out o)
      have HS5 := Lib.hid (sf_one ho5 (SF.below hb5 (Nat.le_refl _) hs4) hb4.size)
      have hww5 : Below w.heap.size w w5 := below_on (W := W3.drew) (Below.drew hww3) hb34
      have hsz35 : W3.heap.size ≤ w5.heap.size := hb34.size
      generalize hW6 : World.setCell _ _ _ = W6
      have hblk6 : ∀ x, x ≠ w1.heap.size → W6.heap[x]? = w5.heap[x]? := fun x hx => by subst hW6; exact Below.heap_setCell _ _ _ _ (by dsimp only; omega)
      have hsz6 : W6.heap.size = w5.heap.size := by subst hW6; simp [World.setCell]
      have hww6 : Below w.heap.size w W6 := by subst hW6; exact hww5.setCell (Nat.le_of_lt hne) _
      have hx6 : C10 W6 w.heap.size ⟨0, 0, 0, 0, 0, 0, 0, 0, 0⟩ (.slice none 0 0) := c10_block (by omega) (hblk6 _ (by omega)) hx5
      have hf6 : ∀ o, W6.frozen? ⟨w.heap.size, o, none⟩ = false := fun o => (World.frozen?_of_block (a := ⟨w.heap.size, o, none⟩) (hblk6 w.heap.size (by omega))).trans (hfx5 o)
      have hy6 : C10 W6 w1.heap.size h (.slice (some ⟨g, 0, none⟩) 1 cap) := by
        obtain ⟨y0', e0, e1, e2, e3, e4, e5, e6, e7, e8, e9⟩ := hy5
        subst hW6
        refine ⟨by simpa [World.setCell] using y0', ?_, ?_, ?_, ?_, ?_, ?_, ?_, ?_, ?_, ?_⟩ <;> simp [go_sem, *]
      have HS6 := Lib.hid (SF.same (w' := W6) (fun x h1 _ => hblk6 x (by have := y0; have h2 : W3.heap.size ≤ x := h1; omega)) HS5.out)
      have hsz36 : W3.heap.size ≤ W6.heap.size := by omega
      have hlo : w.heap.size < W3.heap.size := by omega
      rw [← hsz6] at HS6
      clear hW6 hblk6 hww5 HS5 hfx5 hx5 hy5 hb34 hs4 hb4 hb5 ho5 hr5 hf5 he9 hd9 hsz35 hsz6 HX3 HY3 HF3
      obtain ⟨x0, c0, c1, c2, c3, c4, c5, c6, c7, c8, c9⟩ := id hx6
      obtain ⟨y1, e0, e1, e2, e3, e4, e5, e6, e7, e8, e9⟩ := hy6
      go_wp2_with fail
      rw [rounds_succ]
      go_wp2_with fail
      generalize hW7 : World.setCell _ _ _ = W7
      have hblk7 : ∀ x, x ≠ w.heap.size → W7.heap[x]? = W6.heap[x]? := fun x hx => by subst hW7; repeat rw [Below.heap_setCell _ _ _ _ (by dsimp only; omega)]
      have hsz7 : W7.heap.size = W6.heap.size := by subst hW7; simp [World.setCell]
      obtain ⟨hx7, hb7⟩ := put10b (g := h) hx6 hW7
      have hww7 := hww6.trans (hb7 w.heap.size (Nat.le_refl _))
      have HS7 : Hid (SF W7 w.heap.size W7.heap.size (.cons h1 f1 .nil) (.slice (some ⟨g, 0, none⟩) 1 cap)) := by
        have h0 := SF.same (w' := W7) (fun x h1 _ => hblk7 x (by have h2 : W3.heap.size ≤ x := h1; omega)) HS6.out
        exact SF.mono (Nat.le_of_lt hlo) (by omega) h0
      obtain ⟨z0, k0, k1, k2, k3, k4, k5, k6, k7, k8, k9⟩ := hx7
      (try simp only [Exit.inBlock, Exit.then])
      refine bodyPost_ret (v := .agg #[.int .i64 h.k, .int .i64 h.ak, .int .i64 h.am, .int .i64 h.a, .int .i64 h.b, .int .i64 h.c, .int .i64 h.d, .int .i64 h.n, .int .i64 h.v, .slice (some ⟨g, 0, none⟩) 1 cap]) ?_ rfl ⟨_, rfl, HS7.out, hww7⟩
      rw [results_cell1 rfl]
      go_simp


end Go.Proofs.YtmkflokcficmoaaDoor

/- Contracts of toFormulaS, toFormula that tell that the copy can be marked. -/
namespace Go.Proofs.YtmkflokcficmoaaDoor
open Go.RowKit

def TsPost2 (f : Fo) (w : World) (e : Ending) (w' : World) : Prop := ∃ s', e = .returned s' ∧ FS w' w.heap.size f s' ∧ NS w' w.heap.size w'.heap.size f s' ∧ Below w.heap.size w w'
def TfPost2 (h : FH) (f : Fo) (w : World) (e : Ending) (w' : World) : Prop := ∃ s', e = .returned (.agg #[.int .i64 h.k, .int .i64 h.ak, .int .i64 h.am, .int .i64 h.a, .int .i64 h.b, .int .i64 h.c, .int .i64 h.d, .int .i64 h.n, .int .i64 h.v, s']) ∧ FS w' w.heap.size f s' ∧ NS w' w.heap.size w'.heap.size f s' ∧ Below w.heap.size w w'

def TsR2 (f : Fo) (b o lo : Nat) (w : World) (i : Value) (wr : World) : Prop :=
  ∃ (k : Nat) (pre r : Fo) (xs : List Value), i = .int .i64 k ∧ pre.len = k ∧ k + r.len = f.len ∧ r.size ≤ f.size ∧ pre.app r = f ∧ FEl w lo r b (o + k * 10) ∧ FEl wr (w.heap.size + 1) pre w.heap.size 0 ∧ NEl wr (w.heap.size + 1) wr.heap.size pre w.heap.size 0 ∧
    wr.ownsRow w.heap.size 31 10 (.slice (some ⟨w.heap.size, 0, none⟩) f.len f.len) f.len xs ∧ Below w.heap.size w wr

end Go.Proofs.YtmkflokcficmoaaDoor
