import Derived.Test.YtmkflokcficmoaaDoorFm
import Derived.Test.YtmkflokcficmoaaDoorFormN
import Derived.Test.YtmkflokcficmoaaDoorFormC
import Derived.Test.YtmkflokcficmoaaDoorFsp
import Derived.Test.YtmkflokcficmoaaDoorFormI
import Derived.Deep.RegionHeld3
import Derived.Laws.OwnMore
/- The contract of formulaOf: at quantifiers and at nodes without parts. -/
namespace Go.Proofs.YtmkflokcficmoaaDoor
open Go.RowKit

set_option maxRecDepth 10000 in
set_option maxHeartbeats 2000000 in
theorem fo_b (h : FH) (bb : Bool) (u : Int) (t : TypeId) (y : Value) (h1 : FH) (f1 : Fo) (OWN : ∀ w, Calls Tryd.prog 75 #[.iface 107 (.agg #[.bool bb, .int .i64 u, .iface t y])] w (OwT h w)) (HC : FoAt (.iface t y) h1 f1) : FoAt (.iface 107 (.agg #[.bool bb, .int .i64 u, .iface t y])) h (.cons h1 f1 .nil) := by
  intro w
  have H := Lib.hid HC
  have HOWN := Lib.hid OWN
  clear HC OWN
  go_enter Tryd.func66, Tryd.ntmps66
  go_wp2_with fail
  generalize hW : World.alloc _ _ = W
  have hw : Below w.heap.size w W := by subst hW; go_grown
  have hx : C10 W w.heap.size ⟨0, 0, 0, 0, 0, 0, 0, 0, 0⟩ (.slice none 0 0) := by subst hW; exact (by refine ⟨?_, ?_, ?_, ?_, ?_, ?_, ?_, ?_, ?_, ?_, ?_⟩ <;> first | (simp [go_sem]; done) | (simp; omega))
  have hf : ∀ o, W.frozen? ⟨w.heap.size, o, none⟩ = false := fun o => by subst hW; simp [go_sem]
  clear hW
  refine (HOWN.out _).mono ?_
  rintro e w1 ⟨rfl, hb1⟩
  have hw1 := below_on hw hb1
  have hf1 : ∀ o, w1.frozen? ⟨w.heap.size, o, none⟩ = false := fun o => ((bcell hb1).2 _ o hx.1).trans (hf o)
  have hx1 := c10_on hx hb1
  clear hx hf hb1 hw HOWN
  go_upto_region 2 with fail
  generalize hW2 : World.alloc _ _ = W2
  have hw2 : Below w1.heap.size w1 W2 := by subst hW2; go_grown
  have hy2 : C10 W2 w1.heap.size h (.slice none 0 0) := by subst hW2; exact (by refine ⟨?_, ?_, ?_, ?_, ?_, ?_, ?_, ?_, ?_, ?_, ?_⟩ <;> first | (simp [go_sem]; done) | (simp; omega))
  have hg2 : ∀ o, W2.frozen? ⟨w1.heap.size, o, none⟩ = false := fun o => by subst hW2; simp [go_sem]
  have hx2 := c10_on hx1 hw2
  have hf2 : ∀ o, W2.frozen? ⟨w.heap.size, o, none⟩ = false := fun o => ((bcell hw2).2 _ o hx1.1).trans (hf1 o)
  have hne : w.heap.size < w1.heap.size := hx1.1
  have hww2 := below_on hw1 hw2
  clear hW2 hx1 hf1 hw1 hw2
  go_wp2
  generalize hW3 : World.alloc _ _ = W3
  have hw3 : Below W2.heap.size W2 W3 := by subst hW3; go_grown
  have hc3 : W3.cell? ⟨W2.heap.size + 1, 0, none⟩ = some (.iface t y) := by subst hW3; simp [go_sem]
  have hy3 := c10_on hy2 hw3
  have hx3 := c10_on hx2 hw3
  have hg3 : ∀ o, W3.frozen? ⟨w1.heap.size, o, none⟩ = false := fun o => ((bcell hw3).2 _ o hy2.1).trans (hg2 o)
  have hf3 : ∀ o, W3.frozen? ⟨w.heap.size, o, none⟩ = false := fun o => ((bcell hw3).2 _ o hx2.1).trans (hf2 o)
  have hww3 := below_on hww2 hw3
  clear hW3 hx2 hy2 hf2 hg2 hww2 hw3
  refine wp_loop_rounds 2 ?_
  rw [rounds_succ]
  go_upto_region 5 with fail
  have HX3 := Lib.hid hx3
  have HY3 := Lib.hid hy3
  have HF3 := Lib.hid hf3
  obtain ⟨y0, d0, d1, d2, d3, d4, d5, d6, d7, d8, d9⟩ := hy3
  clear hx3 hf3 hc3 d0 d1 d2 d3 d4 d5 d6 d7 d8
  refine wp_region_held_drew (S := fun _ => True) (by kernel_rfl) trivial (fun _ => ?_)
  refine wpAnyH_take (i := 0) (oi := { dst := some 15, op := Go.Op.fieldAddr 31 (Go.Operand.tmp 3) 3, type := 0, pos := "l3_formulas.go:223", after := #[], guard := none }) (v := ?_) rfl (by kernel_rfl) (by kernel_rfl) (by kernel_rfl) (fun _ _ _ h => h) (Or.inl ⟨by rfl, ?_⟩) (by assumption) ?_
  rotate_left
  · (intro w _; first | (go_simp; done) | (go_simp; with_reducible rfl))
  try simp only [Act.put, List.setIfInBounds_toArray, List.set_cons_zero, List.set_cons_succ]
  refine wpAnyH_take (i := 2) (oi := { dst := some 17, op := Go.Op.move (Go.Operand.tmp 5), type := 79, pos := "l3_formulas.go:223", after := #[], guard := none }) (v := ?_) rfl (by kernel_rfl) (by kernel_rfl) (by kernel_rfl) (fun _ _ _ h => h) (Or.inl ⟨by rfl, ?_⟩) (by assumption) ?_
  rotate_left
  · (intro w _; first | (go_simp; done) | (go_simp; with_reducible rfl))
  try simp only [Act.put, List.setIfInBounds_toArray, List.set_cons_zero, List.set_cons_succ]
  refine wpAnyH_ready (rs := [1, 3]) (by kernel_rfl) (by simp) ?_
  refine AllReadyH.cons (o := { dst := some 16, op := Go.Op.load 29 (Go.Operand.tmp 15), type := 29, pos := "l3_formulas.go:223", after := #[{ on := 0, ground := Go.Ground.data }], guard := none }) rfl (fun K hK => ?_) (AllReadyH.cons (o := { dst := some 18, op := Go.Op.call { callee := Go.Callee.value (Go.Operand.func 66), args := #[Go.Operand.tmp 17], argTypes := #[79] }, type := 31, pos := "l3_formulas.go:223", after := #[{ on := 2, ground := Go.Ground.data }], guard := none }) rfl (fun K hK => ?_) AllReadyH.nil)
  ·
    go_simp
    refine hK.out _ _ trivial (fun _ => ?_)
    clear hK K
    try simp only [Act.put, List.setIfInBounds_toArray, List.set_cons_zero, List.set_cons_succ]
    refine wpAnyH_ready (rs := [3]) (by kernel_rfl) (by simp) ?_
    refine AllReadyH.cons (o := { dst := some 18, op := Go.Op.call { callee := Go.Callee.value (Go.Operand.func 66), args := #[Go.Operand.tmp 17], argTypes := #[79] }, type := 31, pos := "l3_formulas.go:223", after := #[{ on := 2, ground := Go.Ground.data }], guard := none }) rfl (fun K hK => ?_) AllReadyH.nil
    go_simp
    (go_at_call 66; refine (H.out _).mono ?_; rintro e w4 ⟨s4, rfl, hs4, hb4⟩; obtain ⟨ga, gn, gc, rfl⟩ := hs4.slice; have hlt4 : w1.heap.size < w4.heap.size := Nat.lt_of_lt_of_le y0 hb4.size; have hd9 : w4.cell? ⟨w1.heap.size, 9, none⟩ = some (.slice none 0 0) := ((bcell hb4).1 _ 9 y0).trans d9; obtain ⟨g, cap, w5, hr5, ho5, hb5⟩ := fo_first h1 ga gn gc w4; have hf5 : ∀ o, w5.frozen? ⟨w1.heap.size, o, none⟩ = false := (fun o => ((bcell hb5).2 _ o (Nat.lt_of_lt_of_le y0 hb4.size)).trans (((bcell hb4).2 _ o y0).trans (hg3 o))); have he9 : w5.cell? ⟨w1.heap.size, 9, none⟩ = some (.slice none 0 0) := ((bcell hb5).1 _ 9 (Nat.lt_of_lt_of_le y0 hb4.size)).trans hd9)
    refine hK.out _ _ trivial (fun _ => ?_)
    clear hK K
    try simp only [Act.put, List.setIfInBounds_toArray, List.set_cons_zero, List.set_cons_succ]
    refine wpAnyH_ready (rs := [4]) (by kernel_rfl) (by simp) ?_
    refine AllReadyH.cons (o := { dst := some 19, op := Go.Op.buildSlice 29 1 #[(0, Go.Operand.tmp 18)], type := 29, pos := "l3_formulas.go:223", after := #[{ on := 3, ground := Go.Ground.data }], guard := none }) rfl (fun K hK => ?_) AllReadyH.nil
    go_simp
    refine hK.out _ _ trivial (fun _ => ?_)
    clear hK K
    try simp only [Act.put, List.setIfInBounds_toArray, List.set_cons_zero, List.set_cons_succ]
    refine wpAnyH_ready (rs := [5]) (by kernel_rfl) (by simp) ?_
    refine AllReadyH.cons (o := { dst := some 20, op := Go.Op.call { callee := Go.Callee.builtin Go.Builtin.append, args := #[Go.Operand.tmp 16, Go.Operand.tmp 19], argTypes := #[29, 29] }, type := 29, pos := "l3_formulas.go:223", after := #[{ on := 1, ground := Go.Ground.data }, { on := 4, ground := Go.Ground.data }, { on := 3, ground := Go.Ground.chain }], guard := none }) rfl (fun K hK => ?_) AllReadyH.nil
    rw [if_pos (by rfl)]
    (refine oper_append _ _ _ rfl rfl rfl hr5 ?_)
    refine hK.out _ _ trivial (fun _ => ?_)
    clear hK K
    try simp only [Act.put, List.setIfInBounds_toArray, List.set_cons_zero, List.set_cons_succ]
    refine wpAnyH_take (i := 6) (oi := { dst := some 21, op := Go.Op.fieldAddr 31 (Go.Operand.tmp 3) 3, type := 0, pos := "l3_formulas.go:223", after := #[{ on := 0, ground := Go.Ground.phase }, { on := 1, ground := Go.Ground.phase }, { on := 2, ground := Go.Ground.phase }, { on := 3, ground := Go.Ground.phase }, { on := 4, ground := Go.Ground.phase }, { on := 5, ground := Go.Ground.phase }], guard := none }) (v := ?_) rfl (by kernel_rfl) (by kernel_rfl) (by kernel_rfl) (fun _ _ _ h => h) (Or.inl ⟨by rfl, ?_⟩) (by assumption) ?_
    rotate_left
    · (intro w _; first | (go_simp; done) | (go_simp; with_reducible rfl))
    try simp only [Act.put, List.setIfInBounds_toArray, List.set_cons_zero, List.set_cons_succ]
    refine wpAnyH_ready (rs := [7]) (by kernel_rfl) (by simp) ?_
    refine AllReadyH.cons (o := { dst := none, op := Go.Op.store 29 (Go.Operand.tmp 21) (Go.Operand.tmp 20), type := 0, pos := "l3_formulas.go:223", after := #[{ on := 6, ground := Go.Ground.data }, { on := 5, ground := Go.Ground.data }, { on := 5, ground := Go.Ground.chain }, { on := 0, ground := Go.Ground.phase }, { on := 1, ground := Go.Ground.phase }, { on := 2, ground := Go.Ground.phase }, { on := 3, ground := Go.Ground.phase }, { on := 4, ground := Go.Ground.phase }, { on := 5, ground := Go.Ground.phase }], guard := none }) rfl (fun K hK => ?_) AllReadyH.nil
    go_simp
    refine hK.out _ _ trivial (fun _ => ?_)
    clear hK K
    try simp only [Act.put, List.setIfInBounds_toArray, List.set_cons_zero, List.set_cons_succ]
    refine wpAnyH_done (by kernel_rfl) ?_ _
    have hb34 := below_on (w := W3.drew) hb4 hb5
    have hx5 := c10_on (W := W3.drew) HX3.out hb34
    have hy5 := c10_on (W := W3.drew) HY3.out hb34
    have hfx5 : ∀ o, w5.frozen? ⟨w.heap.size, o, none⟩ = false := fun o => ((bcell hb34).2 _ o HX3.out.1).trans (HF3.out o)
    have HS5 := Lib.hid (sf_one ho5 (SF.below hb5 (Nat.le_refl _) hs4) hb4.size)
    have hww5 : Below w.heap.size w w5 := below_on (W := W3.drew) (Below.drew hww3) hb34
    have hsz35 : W3.heap.size ≤ w5.heap.size := hb34.size
    generalize hW6 : World.setCell _ _ _ = W6
    have hblk6 : ∀ x, x ≠ w1.heap.size → W6.heap[x]? = w5.heap[x]? := fun x hx => by subst hW6; exact Below.heap_setCell _ _ _ _ (by dsimp only; omega)
    have hsz6 : W6.heap.size = w5.heap.size := by subst hW6; simp [World.setCell]
    have hww6 : Below w.heap.size w W6 := by subst hW6; exact hww5.setCell (Nat.le_of_lt hne) _
    have hx6 : C10 W6 w.heap.size ⟨0, 0, 0, 0, 0, 0, 0, 0, 0⟩ (.slice none 0 0) := c10_block (by omega) (hblk6 _ (by omega)) hx5
    have hf6 : ∀ o, W6.frozen? ⟨w.heap.size, o, none⟩ = false := fun o => (World.frozen?_of_block (a := ⟨w.heap.size, o, none⟩) (hblk6 w.heap.size (by omega))).trans (hfx5 o)
    have hy6 : C10 W6 w1.heap.size h (.slice (some ⟨g, 0, none⟩) 1 cap) := by
      obtain ⟨y0', e0, e1, e2, e3, e4, e5, e6, e7, e8, e9⟩ := hy5
      subst hW6
      refine ⟨by simpa [World.setCell] using y0', ?_, ?_, ?_, ?_, ?_, ?_, ?_, ?_, ?_, ?_⟩ <;> simp [go_sem, *]
    have HS6 := Lib.hid (SF.same (w' := W6) (fun x h1 _ => hblk6 x (by have := y0; have h2 : W3.heap.size ≤ x := h1; omega)) HS5.out)
    have hsz36 : W3.heap.size ≤ W6.heap.size := by omega
    have hlo : w.heap.size < W3.heap.size := by omega
    rw [← hsz6] at HS6
    clear hW6 hblk6 hww5 HS5 hfx5 hx5 hy5 hb34 hs4 hb4 hb5 ho5 hr5 hf5 he9 hd9 hsz35 hsz6 HX3 HY3 HF3
    obtain ⟨x0, c0, c1, c2, c3, c4, c5, c6, c7, c8, c9⟩ := id hx6
    obtain ⟨y1, e0, e1, e2, e3, e4, e5, e6, e7, e8, e9⟩ := hy6
    go_wp2_with fail
    rw [rounds_succ]
    go_wp2_with fail
    generalize hW7 : World.setCell _ _ _ = W7
    have hblk7 : ∀ x, x ≠ w.heap.size → W7.heap[x]? = W6.heap[x]? := fun x hx => by subst hW7; repeat rw [Below.heap_setCell _ _ _ _ (by dsimp only; omega)]
    have hsz7 : W7.heap.size = W6.heap.size := by subst hW7; simp [World.setCell]
    obtain ⟨hx7, hb7⟩ := put10b (g := h) hx6 hW7
    have hww7 := hww6.trans (hb7 w.heap.size (Nat.le_refl _))
    have HS7 : Hid (SF W7 w.heap.size W7.heap.size (.cons h1 f1 .nil) (.slice (some ⟨g, 0, none⟩) 1 cap)) := by
      have h0 := SF.same (w' := W7) (fun x h1 _ => hblk7 x (by have h2 : W3.heap.size ≤ x := h1; omega)) HS6.out
      exact SF.mono (Nat.le_of_lt hlo) (by omega) h0
    obtain ⟨z0, k0, k1, k2, k3, k4, k5, k6, k7, k8, k9⟩ := hx7
    (try simp only [Exit.inBlock, Exit.then])
    refine bodyPost_ret (v := .agg #[.int .i64 h.k, .int .i64 h.ak, .int .i64 h.am, .int .i64 h.a, .int .i64 h.b, .int .i64 h.c, .int .i64 h.d, .int .i64 h.n, .int .i64 h.v, .slice (some ⟨g, 0, none⟩) 1 cap]) ?_ rfl ⟨_, rfl, HS7.out, hww7⟩
    rw [results_cell1 rfl]
    go_simp
  ·
    go_simp
    (go_at_call 66; refine (H.out _).mono ?_; rintro e w4 ⟨s4, rfl, hs4, hb4⟩; obtain ⟨ga, gn, gc, rfl⟩ := hs4.slice; have hlt4 : w1.heap.size < w4.heap.size := Nat.lt_of_lt_of_le y0 hb4.size; have hd9 : w4.cell? ⟨w1.heap.size, 9, none⟩ = some (.slice none 0 0) := ((bcell hb4).1 _ 9 y0).trans d9; obtain ⟨g, cap, w5, hr5, ho5, hb5⟩ := fo_first h1 ga gn gc w4; have hf5 : ∀ o, w5.frozen? ⟨w1.heap.size, o, none⟩ = false := (fun o => ((bcell hb5).2 _ o (Nat.lt_of_lt_of_le y0 hb4.size)).trans (((bcell hb4).2 _ o y0).trans (hg3 o))); have he9 : w5.cell? ⟨w1.heap.size, 9, none⟩ = some (.slice none 0 0) := ((bcell hb5).1 _ 9 (Nat.lt_of_lt_of_le y0 hb4.size)).trans hd9)
    refine hK.out _ _ trivial (fun _ => ?_)
    clear hK K
    try simp only [Act.put, List.setIfInBounds_toArray, List.set_cons_zero, List.set_cons_succ]
    refine wpAnyH_ready (rs := [1, 4]) (by kernel_rfl) (by simp) ?_
    refine AllReadyH.cons (o := { dst := some 16, op := Go.Op.load 29 (Go.Operand.tmp 15), type := 29, pos := "l3_formulas.go:223", after := #[{ on := 0, ground := Go.Ground.data }], guard := none }) rfl (fun K hK => ?_) (AllReadyH.cons (o := { dst := some 19, op := Go.Op.buildSlice 29 1 #[(0, Go.Operand.tmp 18)], type := 29, pos := "l3_formulas.go:223", after := #[{ on := 3, ground := Go.Ground.data }], guard := none }) rfl (fun K hK => ?_) AllReadyH.nil)
    ·
      go_simp
      refine hK.out _ _ trivial (fun _ => ?_)
      clear hK K
      try simp only [Act.put, List.setIfInBounds_toArray, List.set_cons_zero, List.set_cons_succ]
      refine wpAnyH_ready (rs := [4]) (by kernel_rfl) (by simp) ?_
      refine AllReadyH.cons (o := { dst := some 19, op := Go.Op.buildSlice 29 1 #[(0, Go.Operand.tmp 18)], type := 29, pos := "l3_formulas.go:223", after := #[{ on := 3, ground := Go.Ground.data }], guard := none }) rfl (fun K hK => ?_) AllReadyH.nil
      go_simp
      refine hK.out _ _ trivial (fun _ => ?_)
      clear hK K
      try simp only [Act.put, List.setIfInBounds_toArray, List.set_cons_zero, List.set_cons_succ]
      refine wpAnyH_ready (rs := [5]) (by kernel_rfl) (by simp) ?_
      refine AllReadyH.cons (o := { dst := some 20, op := Go.Op.call { callee := Go.Callee.builtin Go.Builtin.append, args := #[Go.Operand.tmp 16, Go.Operand.tmp 19], argTypes := #[29, 29] }, type := 29, pos := "l3_formulas.go:223", after := #[{ on := 1, ground := Go.Ground.data }, { on := 4, ground := Go.Ground.data }, { on := 3, ground := Go.Ground.chain }], guard := none }) rfl (fun K hK => ?_) AllReadyH.nil
      rw [if_pos (by rfl)]
      (refine oper_append _ _ _ rfl rfl rfl hr5 ?_)
      refine hK.out _ _ trivial (fun _ => ?_)
      clear hK K
      try simp only [Act.put, List.setIfInBounds_toArray, List.set_cons_zero, List.set_cons_succ]
      refine wpAnyH_take (i := 6) (oi := { dst := some 21, op := Go.Op.fieldAddr 31 (Go.Operand.tmp 3) 3, type := 0, pos := "l3_formulas.go:223", after := #[{ on := 0, ground := Go.Ground.phase }, { on := 1, ground := Go.Ground.phase }, { on := 2, ground := Go.Ground.phase }, { on := 3, ground := Go.Ground.phase }, { on := 4, ground := Go.Ground.phase }, { on := 5, ground := Go.Ground.phase }], guard := none }) (v := ?_) rfl (by kernel_rfl) (by kernel_rfl) (by kernel_rfl) (fun _ _ _ h => h) (Or.inl ⟨by rfl, ?_⟩) (by assumption) ?_
      rotate_left
      · (intro w _; first | (go_simp; done) | (go_simp; with_reducible rfl))
      try simp only [Act.put, List.setIfInBounds_toArray, List.set_cons_zero, List.set_cons_succ]
      refine wpAnyH_ready (rs := [7]) (by kernel_rfl) (by simp) ?_
      refine AllReadyH.cons (o := { dst := none, op := Go.Op.store 29 (Go.Operand.tmp 21) (Go.Operand.tmp 20), type := 0, pos := "l3_formulas.go:223", after := #[{ on := 6, ground := Go.Ground.data }, { on := 5, ground := Go.Ground.data }, { on := 5, ground := Go.Ground.chain }, { on := 0, ground := Go.Ground.phase }, { on := 1, ground := Go.Ground.phase }, { on := 2, ground := Go.Ground.phase }, { on := 3, ground := Go.Ground.phase }, { on := 4, ground := Go.Ground.phase }, { on := 5, ground := Go.Ground.phase }], guard := none }) rfl (fun K hK => ?_) AllReadyH.nil
      go_simp
      refine hK.out _ _ trivial (fun _ => ?_)
      clear hK K
      try simp only [Act.put, List.setIfInBounds_toArray, List.set_cons_zero, List.set_cons_succ]
      refine wpAnyH_done (by kernel_rfl) ?_ _
      have hb34 := below_on (w := W3.drew) hb4 hb5
      have hx5 := c10_on (W := W3.drew) HX3.out hb34
      have hy5 := c10_on (W := W3.drew) HY3.out hb34
      have hfx5 : ∀ o, w5.frozen? ⟨w.heap.size, o, none⟩ = false := fun o => ((bcell hb34).2 _ o HX3.out.1).trans (HF3.out o)
      have HS5 := Lib.hid (sf_one ho5 (SF.below hb5 (Nat.le_refl _) hs4) hb4.size)
      have hww5 : Below w.heap.size w w5 := below_on (W := W3.drew) (Below.drew hww3) hb34
      have hsz35 : W3.heap.size ≤ w5.heap.size := hb34.size
      generalize hW6 : World.setCell _ _ _ = W6
      have hblk6 : ∀ x, x ≠ w1.heap.size → W6.heap[x]? = w5.heap[x]? := fun x hx => by subst hW6; exact Below.heap_setCell _ _ _ _ (by dsimp only; omega)
      have hsz6 : W6.heap.size = w5.heap.size := by subst hW6; simp [World.setCell]
      have hww6 : Below w.heap.size w W6 := by subst hW6; exact hww5.setCell (Nat.le_of_lt hne) _
      have hx6 : C10 W6 w.heap.size ⟨0, 0, 0, 0, 0, 0, 0, 0, 0⟩ (.slice none 0 0) := c10_block (by omega) (hblk6 _ (by omega)) hx5
      have hf6 : ∀ o, W6.frozen? ⟨w.heap.size, o, none⟩ = false := fun o => (World.frozen?_of_block (a := ⟨w.heap.size, o, none⟩) (hblk6 w.heap.size (by omega))).trans (hfx5 o)
      have hy6 : C10 W6 w1.heap.size h (.slice (some ⟨g, 0, none⟩) 1 cap) := by
        obtain ⟨y0', e0, e1, e2, e3, e4, e5, e6, e7, e8, e9⟩ := hy5
        subst hW6
        refine ⟨by simpa [World.setCell] using y0', ?_, ?_, ?_, ?_, ?_, ?_, ?_, ?_, ?_, ?_⟩ <;> simp [go_sem, *]
      have HS6 := Lib.hid (SF.same (w' := W6) (fun x h1 _ => hblk6 x (by have := y0; have h2 : W3.heap.size ≤ x := h1; omega)) HS5.out)
      have hsz36 : W3.heap.size ≤ W6.heap.size := by omega
      have hlo : w.heap.size < W3.heap.size := by omega
      rw [← hsz6] at HS6
      clear hW6 hblk6 hww5 HS5 hfx5 hx5 hy5 hb34 hs4 hb4 hb5 ho5 hr5 hf5 he9 hd9 hsz35 hsz6 HX3 HY3 HF3
      obtain ⟨x0, c0, c1, c2, c3, c4, c5, c6, c7, c8, c9⟩ := id hx6
      obtain ⟨y1, e0, e1, e2, e3, e4, e5, e6, e7, e8, e9⟩ := hy6
      go_wp2_with fail
      rw [rounds_succ]
      go_wp2_with fail
      generalize hW7 : World.setCell _ _ _ = W7
      have hblk7 : ∀ x, x ≠ w.heap.size → W7.heap[x]? = W6.heap[x]? := fun x hx => by subst hW7; repeat rw [Below.heap_setCell _ _ _ _ (by dsimp only; omega)]
      have hsz7 : W7.heap.size = W6.heap.size := by subst hW7; simp [World.setCell]
      obtain ⟨hx7, hb7⟩ := put10b (g := h) hx6 hW7
      have hww7 := hww6.trans (hb7 w.heap.size (Nat.le_refl _))
      have HS7 : Hid (SF W7 w.heap.size W7.heap.size (.cons h1 f1 .nil) (.slice (some ⟨g, 0, none⟩) 1 cap)) := by
        have h0 := SF.same (w' := W7) (fun x h1 _ => hblk7 x (by have h2 : W3.heap.size ≤ x := h1; omega)) HS6.out
        exact SF.mono (Nat.le_of_lt hlo) (by omega) h0
      obtain ⟨z0, k0, k1, k2, k3, k4, k5, k6, k7, k8, k9⟩ := hx7
      (try simp only [Exit.inBlock, Exit.then])
      refine bodyPost_ret (v := .agg #[.int .i64 h.k, .int .i64 h.ak, .int .i64 h.am, .int .i64 h.a, .int .i64 h.b, .int .i64 h.c, .int .i64 h.d, .int .i64 h.n, .int .i64 h.v, .slice (some ⟨g, 0, none⟩) 1 cap]) ?_ rfl ⟨_, rfl, HS7.out, hww7⟩
      rw [results_cell1 rfl]
      go_simp
    ·
      go_simp
      refine hK.out _ _ trivial (fun _ => ?_)
      clear hK K
      try simp only [Act.put, List.setIfInBounds_toArray, List.set_cons_zero, List.set_cons_succ]
      refine wpAnyH_ready (rs := [1]) (by kernel_rfl) (by simp) ?_
      refine AllReadyH.cons (o := { dst := some 16, op := Go.Op.load 29 (Go.Operand.tmp 15), type := 29, pos := "l3_formulas.go:223", after := #[{ on := 0, ground := Go.Ground.data }], guard := none }) rfl (fun K hK => ?_) AllReadyH.nil
      go_simp
      refine hK.out _ _ trivial (fun _ => ?_)
      clear hK K
      try simp only [Act.put, List.setIfInBounds_toArray, List.set_cons_zero, List.set_cons_succ]
      refine wpAnyH_ready (rs := [5]) (by kernel_rfl) (by simp) ?_
      refine AllReadyH.cons (o := { dst := some 20, op := Go.Op.call { callee := Go.Callee.builtin Go.Builtin.append, args := #[Go.Operand.tmp 16, Go.Operand.tmp 19], argTypes := #[29, 29] }, type := 29, pos := "l3_formulas.go:223", after := #[{ on := 1, ground := Go.Ground.data }, { on := 4, ground := Go.Ground.data }, { on := 3, ground := Go.Ground.chain }], guard := none }) rfl (fun K hK => ?_) AllReadyH.nil
      rw [if_pos (by rfl)]
      (refine oper_append _ _ _ rfl rfl rfl hr5 ?_)
      refine hK.out _ _ trivial (fun _ => ?_)
      clear hK K
      try simp only [Act.put, List.setIfInBounds_toArray, List.set_cons_zero, List.set_cons_succ]
      refine wpAnyH_take (i := 6) (oi := { dst := some 21, op := Go.Op.fieldAddr 31 (Go.Operand.tmp 3) 3, type := 0, pos := "l3_formulas.go:223", after := #[{ on := 0, ground := Go.Ground.phase }, { on := 1, ground := Go.Ground.phase }, { on := 2, ground := Go.Ground.phase }, { on := 3, ground := Go.Ground.phase }, { on := 4, ground := Go.Ground.phase }, { on := 5, ground := Go.Ground.phase }], guard := none }) (v := ?_) rfl (by kernel_rfl) (by kernel_rfl) (by kernel_rfl) (fun _ _ _ h => h) (Or.inl ⟨by rfl, ?_⟩) (by assumption) ?_
      rotate_left
      · (intro w _; first | (go_simp; done) | (go_simp; with_reducible rfl))
      try simp only [Act.put, List.setIfInBounds_toArray, List.set_cons_zero, List.set_cons_succ]
      refine wpAnyH_ready (rs := [7]) (by kernel_rfl) (by simp) ?_
      refine AllReadyH.cons (o := { dst := none, op := Go.Op.store 29 (Go.Operand.tmp 21) (Go.Operand.tmp 20), type := 0, pos := "l3_formulas.go:223", after := #[{ on := 6, ground := Go.Ground.data }, { on := 5, ground := Go.Ground.data }, { on := 5, ground := Go.Ground.chain }, { on := 0, ground := Go.Ground.phase }, { on := 1, ground := Go.Ground.phase }, { on := 2, ground := Go.Ground.phase }, { on := 3, ground := Go.Ground.phase }, { on := 4, ground := Go.Ground.phase }, { on := 5, ground := Go.Ground.phase }], guard := none }) rfl (fun K hK => ?_) AllReadyH.nil
      go_simp
      refine hK.out _ _ trivial (fun _ => ?_)
      clear hK K
      try simp only [Act.put, List.setIfInBounds_toArray, List.set_cons_zero, List.set_cons_succ]
      refine wpAnyH_done (by kernel_rfl) ?_ _
      have hb34 := below_on (w := W3.drew) hb4 hb5
      have hx5 := c10_on (W := W3.drew) HX3.out hb34
      have hy5 := c10_on (W := W3.drew) HY3.out hb34
      have hfx5 : ∀ o, w5.frozen? ⟨w.heap.size, o, none⟩ = false := fun o => ((bcell hb34).2 _ o HX3.out.1).trans (HF3.out o)
      have HS5 := Lib.hid (sf_one ho5 (SF.below hb5 (Nat.le_refl _) hs4) hb4.size)
      have hww5 : Below w.heap.size w w5 := below_on (W := W3.drew) (Below.drew hww3) hb34
      have hsz35 : W3.heap.size ≤ w5.heap.size := hb34.size
      generalize hW6 : World.setCell _ _ _ = W6
      have hblk6 : ∀ x, x ≠ w1.heap.size → W6.heap[x]? = w5.heap[x]? := fun x hx => by subst hW6; exact Below.heap_setCell _ _ _ _ (by dsimp only; omega)
      have hsz6 : W6.heap.size = w5.heap.size := by subst hW6; simp [World.setCell]
      have hww6 : Below w.heap.size w W6 := by subst hW6; exact hww5.setCell (Nat.le_of_lt hne) _
      have hx6 : C10 W6 w.heap.size ⟨0, 0, 0, 0, 0, 0, 0, 0, 0⟩ (.slice none 0 0) := c10_block (by omega) (hblk6 _ (by omega)) hx5
      have hf6 : ∀ o, W6.frozen? ⟨w.heap.size, o, none⟩ = false := fun o => (World.frozen?_of_block (a := ⟨w.heap.size, o, none⟩) (hblk6 w.heap.size (by omega))).trans (hfx5 o)
      have hy6 : C10 W6 w1.heap.size h (.slice (some ⟨g, 0, none⟩) 1 cap) := by
        obtain ⟨y0', e0, e1, e2, e3, e4, e5, e6, e7, e8, e9⟩ := hy5
        subst hW6
        refine ⟨by simpa [World.setCell] using y0', ?_, ?_, ?_, ?_, ?_, ?_, ?_, ?_, ?_, ?_⟩ <;> simp [go_sem, *]
      have HS6 := Lib.hid (SF.same (w' := W6) (fun x h1 _ => hblk6 x (by have := y0; have h2 : W3.heap.size ≤ x := h1; omega)) HS5.out)
      have hsz36 : W3.heap.size ≤ W6.heap.size := by omega
      have hlo : w.heap.size < W3.heap.size := by omega
      rw [← hsz6] at HS6
      clear hW6 hblk6 hww5 HS5 hfx5 hx5 hy5 hb34 hs4 hb4 hb5 ho5 hr5 hf5 he9 hd9 hsz35 hsz6 HX3 HY3 HF3
      obtain ⟨x0, c0, c1, c2, c3, c4, c5, c6, c7, c8, c9⟩ := id hx6
      obtain ⟨y1, e0, e1, e2, e3, e4, e5, e6, e7, e8, e9⟩ := hy6
      go_wp2_with fail
      rw [rounds_succ]
      go_wp2_with fail
      generalize hW7 : World.setCell _ _ _ = W7
      have hblk7 : ∀ x, x ≠ w.heap.size → W7.heap[x]? = W6.heap[x]? := fun x hx => by subst hW7; repeat rw [Below.heap_setCell _ _ _ _ (by dsimp only; omega)]
      have hsz7 : W7.heap.size = W6.heap.size := by subst hW7; simp [World.setCell]
      obtain ⟨hx7, hb7⟩ := put10b (g := h) hx6 hW7
      have hww7 := hww6.trans (hb7 w.heap.size (Nat.le_refl _))
      have HS7 : Hid (SF W7 w.heap.size W7.heap.size (.cons h1 f1 .nil) (.slice (some ⟨g, 0, none⟩) 1 cap)) := by
        have h0 := SF.same (w' := W7) (fun x h1 _ => hblk7 x (by have h2 : W3.heap.size ≤ x := h1; omega)) HS6.out
        exact SF.mono (Nat.le_of_lt hlo) (by omega) h0
      obtain ⟨z0, k0, k1, k2, k3, k4, k5, k6, k7, k8, k9⟩ := hx7
      (try simp only [Exit.inBlock, Exit.then])
      refine bodyPost_ret (v := .agg #[.int .i64 h.k, .int .i64 h.ak, .int .i64 h.am, .int .i64 h.a, .int .i64 h.b, .int .i64 h.c, .int .i64 h.d, .int .i64 h.n, .int .i64 h.v, .slice (some ⟨g, 0, none⟩) 1 cap]) ?_ rfl ⟨_, rfl, HS7.out, hww7⟩
      rw [results_cell1 rfl]
      go_simp


set_option maxRecDepth 10000 in
set_option maxHeartbeats 2000000 in
theorem fo_t (h : FH) (bb : Bool) (OWN : ∀ w, Calls Tryd.prog 75 #[.iface 98 (.agg #[.bool bb])] w (OwT h w)) : FoAt (.iface 98 (.agg #[.bool bb])) h .nil := by
  intro w
  have HOWN := Lib.hid OWN
  clear OWN
  go_enter Tryd.func66, Tryd.ntmps66
  go_wp2_with fail
  generalize hW : World.alloc _ _ = W
  have hw : Below w.heap.size w W := by subst hW; go_grown
  have hx : C10 W w.heap.size ⟨0, 0, 0, 0, 0, 0, 0, 0, 0⟩ (.slice none 0 0) := by subst hW; exact (by refine ⟨?_, ?_, ?_, ?_, ?_, ?_, ?_, ?_, ?_, ?_, ?_⟩ <;> first | (simp [go_sem]; done) | (simp; omega))
  have hf : ∀ o, W.frozen? ⟨w.heap.size, o, none⟩ = false := fun o => by subst hW; simp [go_sem]
  clear hW
  refine (HOWN.out _).mono ?_
  rintro e w1 ⟨rfl, hb1⟩
  have hw1 := below_on hw hb1
  have hf1 : ∀ o, w1.frozen? ⟨w.heap.size, o, none⟩ = false := fun o => ((bcell hb1).2 _ o hx.1).trans (hf o)
  have hx1 := c10_on hx hb1
  clear hx hf hb1 hw HOWN
  go_upto_region 2 with fail
  generalize hW2 : World.alloc _ _ = W2
  have hw2 : Below w1.heap.size w1 W2 := by subst hW2; go_grown
  have hy2 : C10 W2 w1.heap.size h (.slice none 0 0) := by subst hW2; exact (by refine ⟨?_, ?_, ?_, ?_, ?_, ?_, ?_, ?_, ?_, ?_, ?_⟩ <;> first | (simp [go_sem]; done) | (simp; omega))
  have hx2 := c10_on hx1 hw2
  have hf2 : ∀ o, W2.frozen? ⟨w.heap.size, o, none⟩ = false := fun o => ((bcell hw2).2 _ o hx1.1).trans (hf1 o)
  have hww2 := below_on hw1 hw2
  clear hW2 hx1 hf1 hw1 hw2
  go_wp2
  generalize hW3 : World.alloc _ _ = W3
  have hw3 : Below W2.heap.size W2 W3 := by subst hW3; go_grown
  have hy3 := c10_on hy2 hw3
  have hx3 := c10_on hx2 hw3
  have hf3 : ∀ o, W3.frozen? ⟨w.heap.size, o, none⟩ = false := fun o => ((bcell hw3).2 _ o hx2.1).trans (hf2 o)
  have hww3 := below_on hww2 hw3
  clear hW3 hx2 hy2 hf2 hww2 hw3
  refine wp_loop_rounds 1 ?_
  rw [rounds_succ]
  obtain ⟨x0, c0, c1, c2, c3, c4, c5, c6, c7, c8, c9⟩ := id hx3
  obtain ⟨y1, e0, e1, e2, e3, e4, e5, e6, e7, e8, e9⟩ := hy3
  go_wp2_with fail
  generalize hW7 : World.setCell _ _ _ = W7
  obtain ⟨hx7, hb7⟩ := put10b (g := h) hx3 hW7
  have hww7 := hww3.trans (hb7 w.heap.size (Nat.le_refl _))
  obtain ⟨z0, k0, k1, k2, k3, k4, k5, k6, k7, k8, k9⟩ := hx7
  (try simp only [Exit.inBlock, Exit.then])
  refine bodyPost_ret (v := .agg #[.int .i64 h.k, .int .i64 h.ak, .int .i64 h.am, .int .i64 h.a, .int .i64 h.b, .int .i64 h.c, .int .i64 h.d, .int .i64 h.n, .int .i64 h.v, .slice none 0 0]) ?_ rfl ⟨_, rfl, .inl ⟨rfl, none, 0, rfl, Nat.le_refl _, Nat.zero_le _⟩, hww7⟩
  rw [results_cell1 rfl]
  go_simp

set_option maxRecDepth 10000 in
set_option maxHeartbeats 2000000 in
theorem fo_a (h : FH) (ak am a b c d n : Int) (OWN : ∀ w, Calls Tryd.prog 75 #[.iface 109 (.agg #[.int .i64 ak, .int .i64 am, .int .i64 a, .int .i64 b, .int .i64 c, .int .i64 d, .int .i64 n])] w (OwT h w)) : FoAt (.iface 109 (.agg #[.int .i64 ak, .int .i64 am, .int .i64 a, .int .i64 b, .int .i64 c, .int .i64 d, .int .i64 n])) h .nil := by
  intro w
  have HOWN := Lib.hid OWN
  clear OWN
  go_enter Tryd.func66, Tryd.ntmps66
  go_wp2_with fail
  generalize hW : World.alloc _ _ = W
  have hw : Below w.heap.size w W := by subst hW; go_grown
  have hx : C10 W w.heap.size ⟨0, 0, 0, 0, 0, 0, 0, 0, 0⟩ (.slice none 0 0) := by subst hW; exact (by refine ⟨?_, ?_, ?_, ?_, ?_, ?_, ?_, ?_, ?_, ?_, ?_⟩ <;> first | (simp [go_sem]; done) | (simp; omega))
  have hf : ∀ o, W.frozen? ⟨w.heap.size, o, none⟩ = false := fun o => by subst hW; simp [go_sem]
  clear hW
  refine (HOWN.out _).mono ?_
  rintro e w1 ⟨rfl, hb1⟩
  have hw1 := below_on hw hb1
  have hf1 : ∀ o, w1.frozen? ⟨w.heap.size, o, none⟩ = false := fun o => ((bcell hb1).2 _ o hx.1).trans (hf o)
  have hx1 := c10_on hx hb1
  clear hx hf hb1 hw HOWN
  go_upto_region 2 with fail
  generalize hW2 : World.alloc _ _ = W2
  have hw2 : Below w1.heap.size w1 W2 := by subst hW2; go_grown
  have hy2 : C10 W2 w1.heap.size h (.slice none 0 0) := by subst hW2; exact (by refine ⟨?_, ?_, ?_, ?_, ?_, ?_, ?_, ?_, ?_, ?_, ?_⟩ <;> first | (simp [go_sem]; done) | (simp; omega))
  have hx2 := c10_on hx1 hw2
  have hf2 : ∀ o, W2.frozen? ⟨w.heap.size, o, none⟩ = false := fun o => ((bcell hw2).2 _ o hx1.1).trans (hf1 o)
  have hww2 := below_on hw1 hw2
  clear hW2 hx1 hf1 hw1 hw2
  go_wp2
  generalize hW3 : World.alloc _ _ = W3
  have hw3 : Below W2.heap.size W2 W3 := by subst hW3; go_grown
  have hy3 := c10_on hy2 hw3
  have hx3 := c10_on hx2 hw3
  have hf3 : ∀ o, W3.frozen? ⟨w.heap.size, o, none⟩ = false := fun o => ((bcell hw3).2 _ o hx2.1).trans (hf2 o)
  have hww3 := below_on hww2 hw3
  clear hW3 hx2 hy2 hf2 hww2 hw3
  refine wp_loop_rounds 1 ?_
  rw [rounds_succ]
  obtain ⟨x0, c0, c1, c2, c3, c4, c5, c6, c7, c8, c9⟩ := id hx3
  obtain ⟨y1, e0, e1, e2, e3, e4, e5, e6, e7, e8, e9⟩ := hy3
  go_wp2_with fail
  generalize hW7 : World.setCell _ _ _ = W7
  obtain ⟨hx7, hb7⟩ := put10b (g := h) hx3 hW7
  have hww7 := hww3.trans (hb7 w.heap.size (Nat.le_refl _))
  obtain ⟨z0, k0, k1, k2, k3, k4, k5, k6, k7, k8, k9⟩ := hx7
  (try simp only [Exit.inBlock, Exit.then])
  refine bodyPost_ret (v := .agg #[.int .i64 h.k, .int .i64 h.ak, .int .i64 h.am, .int .i64 h.a, .int .i64 h.b, .int .i64 h.c, .int .i64 h.d, .int .i64 h.n, .int .i64 h.v, .slice none 0 0]) ?_ rfl ⟨_, rfl, .inl ⟨rfl, none, 0, rfl, Nat.le_refl _, Nat.zero_le _⟩, hww7⟩
  rw [results_cell1 rfl]
  go_simp

end Go.Proofs.YtmkflokcficmoaaDoor

/- The contract of formulaOf at a pair. -/
namespace Go.Proofs.YtmkflokcficmoaaDoor
open Go.RowKit

/-- What stays while formulaOf goes over the parts of a pair: the formula's box, the result's box, the parts' list. -/
def FoSt (w W3 : World) (x pb : Nat) (h : FH) (v2 : Value) (s : Value) (wr : World) : Prop :=
  C10 wr x h s ∧ (∀ o, wr.frozen? ⟨x, o, none⟩ = false) ∧ C10 wr w.heap.size ⟨0, 0, 0, 0, 0, 0, 0, 0, 0⟩ (.slice none 0 0) ∧ (∀ o, wr.frozen? ⟨w.heap.size, o, none⟩ = false) ∧ Below w.heap.size w wr ∧ W3.heap.size ≤ wr.heap.size ∧
    wr.cell? ⟨pb, 1, none⟩ = some v2 ∧ w.heap.size < x ∧ x < W3.heap.size ∧ pb < W3.heap.size ∧ x ≠ pb ∧ w.heap.size ≠ pb
theorem fost_below {w W3 wr w' : World} {x pb : Nat} {h : FH} {v2 s : Value} (hst : FoSt w W3 x pb h v2 s wr) (hb : Below wr.heap.size wr w') : FoSt w W3 x pb h v2 s w' := by
  obtain ⟨h1, h2, h3, h4, h5, h6, h7, h8, h9, h10, h11, h12⟩ := hst
  exact ⟨c10_on h1 hb, fun o => ((bcell hb).2 _ o h1.1).trans (h2 o), c10_on h3 hb, fun o => ((bcell hb).2 _ o h3.1).trans (h4 o), below_on h5 hb, Nat.le_trans h6 hb.size, ((bcell hb).1 _ _ (by omega)).trans h7, h8, h9, h10, h11, h12⟩
theorem fost_drew {w W3 wr : World} {x pb : Nat} {h : FH} {v2 s : Value} (hst : FoSt w W3 x pb h v2 s wr) : FoSt w W3 x pb h v2 s wr.drew := by
  obtain ⟨h1, h2, h3, h4, h5, h6, h7⟩ := hst
  exact ⟨h1, h2, h3, h4, Below.drew h5, h6, h7⟩
/-- A new list is stored into the formula's box. -/
theorem fost_put {w W3 wr w' : World} {x pb : Nat} {h : FH} {v2 s t : Value} (hst : FoSt w W3 x pb h v2 s wr) (hW : wr.setCell ⟨x, 9, none⟩ t = w') : FoSt w W3 x pb h v2 t w' ∧ (∀ k, k ≠ x → w'.heap[k]? = wr.heap[k]?) ∧ w'.heap.size = wr.heap.size := by
  obtain ⟨h1, h2, h3, h4, h5, h6, h7, h8, h9, h10, h11, h12⟩ := hst
  obtain ⟨y0, e0, e1, e2, e3, e4, e5, e6, e7, e8, e9⟩ := h1
  have hk : ∀ k, k ≠ x → w'.heap[k]? = wr.heap[k]? := fun k hk => by subst hW; exact Below.heap_setCell _ _ _ _ (by dsimp only; omega)
  have hsz : w'.heap.size = wr.heap.size := by subst hW; simp [World.setCell]
  refine ⟨⟨?_, fun o => by subst hW; simp [go_sem, h2 o], c10_block (by omega) (hk w.heap.size (by omega)) h3, fun o => (World.frozen?_of_block (a := ⟨w.heap.size, o, none⟩) (hk w.heap.size (by omega))).trans (h4 o), by subst hW; exact h5.setCell (Nat.le_of_lt h8) _, by omega, (World.cell?_of_block (a := ⟨pb, 1, none⟩) (hk pb (by omega))).trans h7, h8, h9, h10, h11, h12⟩, hk, hsz⟩
  subst hW
  refine ⟨by simpa [World.setCell] using y0, ?_, ?_, ?_, ?_, ?_, ?_, ?_, ?_, ?_, ?_⟩ <;> simp [go_sem, *]

theorem own_block {w w' : World} {B e sz n g cap : Nat} {xs : List Value} (h : w.ownsRow B e sz (.slice (some ⟨g, 0, none⟩) n cap) n xs) (hb : w'.heap[g]? = w.heap[g]?) : w'.ownsRow B e sz (.slice (some ⟨g, 0, none⟩) n cap) n xs := by
  refine ⟨h.1, ?_⟩
  rcases h.2 with ⟨e0, _⟩ | ⟨g', cap', cur, e0, h1, h2, h3⟩
  · simp at e0
  · have eg : g = g' := by injection e0 with e1 _ _; injection e1 with e2; injection e2
    subst eg
    exact .inr ⟨g, cap', cur, e0, h1, hb.trans h2, h3⟩

/-- Behind the first part. -/
def FoS1 (w W3 : World) (x pb : Nat) (h h1 : FH) (f1 : Fo) (v2 : Value) (wr : World) : Prop :=
  ∃ (g cap B : Nat) (sl : Value), FoSt w W3 x pb h v2 (.slice (some ⟨g, 0, none⟩) 1 cap) wr ∧ wr.ownsRow B 31 10 (.slice (some ⟨g, 0, none⟩) 1 cap) 1 (fcel h1 sl) ∧ SF wr W3.heap.size B f1 sl ∧ W3.heap.size ≤ B
/-- Behind both. -/
def FoS2 (w W3 : World) (x pb : Nat) (h h1 h2 : FH) (f1 f2 : Fo) (v2 : Value) (wr : World) : Prop :=
  ∃ s : Value, FoSt w W3 x pb h v2 s wr ∧ SF wr W3.heap.size wr.heap.size (.cons h1 f1 (.cons h2 f2 .nil)) s
def FoR2 (w W3 : World) (x pb : Nat) (h h1 h2 : FH) (f1 f2 : Fo) (v1 v2 i : Value) (wr : World) : Prop :=
  (i = .int .i64 0 ∧ FoSt w W3 x pb h v2 (.slice none 0 0) wr ∧ wr.cell? ⟨pb, 0, none⟩ = some v1) ∨ (i = .int .i64 1 ∧ FoS1 w W3 x pb h h1 f1 v2 wr) ∨ (i = .int .i64 2 ∧ FoS2 w W3 x pb h h1 h2 f1 f2 v2 wr)

/-- Two formulas in a list: the second one is put behind the first one. -/
theorem sf_two {wa w5 : World} {B lo g cap : Nat} {h1 h2 : FH} {f1 f2 : Fo} {s1 s2 : Value} {v1 : Value} (ho : wa.ownsRow B 31 10 (.slice (some ⟨g, 0, none⟩) 1 cap) 1 (fcel h1 s1)) (hs1 : SF wa lo B f1 s1) (hlo : lo ≤ B)
    {w4 : World} (hb4 : Below wa.heap.size wa w4) (hs2 : SF w4 wa.heap.size w4.heap.size f2 s2)
    (hr : w5.ownsRow B 31 10 v1 2 (fcel h1 s1 ++ fcel h2 s2)) (hg : (w4.alloc (.cells #[.int .i64 h2.k, .int .i64 h2.ak, .int .i64 h2.am, .int .i64 h2.a, .int .i64 h2.b, .int .i64 h2.c, .int .i64 h2.d, .int .i64 h2.n, .int .i64 h2.v, s2] 31)).grownBy w5 (some g)) (hw : v1.ownBlock = some g ∨ v1.ownBlock = some (w4.heap.size + 1)) :
    ∃ g' cap', v1 = .slice (some ⟨g', 0, none⟩) 2 cap' ∧ SF w5 lo w5.heap.size (.cons h1 f1 (.cons h2 f2 .nil)) v1 := by
  obtain ⟨g', cap', rfl⟩ := own_some hr (fun e => by
    rcases hr.2 with ⟨_, h0⟩ | ⟨g, cap, cur, e0, _⟩
    · omega
    · rw [e] at e0; simp at e0)
  have hlt := ho.lt g rfl
  have hlt' := hr.lt g' rfl
  have hs45 : w4.heap.size + 1 ≤ w5.heap.size := by have := hg.size; simpa using this
  have hsa4 := hb4.size
  have hgg : g' = g ∨ g' = w4.heap.size + 1 := by simpa [Value.ownBlock] using hw
  have hblk : ∀ x, x ≠ g → x < w4.heap.size → w5.heap[x]? = w4.heap[x]? := fun x hx hl => (hg.block x (by simp; omega) (by intro e; injection e with e; exact hx e)).trans (Below.heap_alloc _ _ _ hl)
  have hcap : 2 ≤ cap' ∧ cap' ≤ maxLen := by
    rcases hr.2 with ⟨e, _⟩ | ⟨g', cap', cur, e, _, _, h1, h2, _⟩
    · simp at e
    · injection e with _ _ e3
      subst e3
      exact ⟨h1, h2⟩
  have hcell : ∀ j u, (fcel h1 s1 ++ fcel h2 s2)[j]? = some u → w5.cell? ⟨g', j, none⟩ = some u := by
    intro j u hj
    have hj' : j < 20 := by have := (List.getElem?_eq_some_iff.1 hj).1; simpa [fcel] using this
    exact (hr.cellAt j (by omega)).trans hj
  refine ⟨g', cap', rfl, .inr ⟨Nat.zero_lt_two, g', cap', rfl, hcap.1, hcap.2, by omega, hlt'.2, fun o => hr.frozenAt o, lo, B, Nat.le_refl _, hlo, by omega, .inr hlt'.1, ⟨s1, ?_, ?_⟩, wa.heap.size, w4.heap.size, by omega, hsa4, by omega, by omega, ⟨s2, ?_, ?_⟩, trivial⟩⟩
  · exact ⟨hcell 0 _ rfl, hcell 1 _ rfl, hcell 2 _ rfl, hcell 3 _ rfl, hcell 4 _ rfl, hcell 5 _ rfl, hcell 6 _ rfl, hcell 7 _ rfl, hcell 8 _ rfl, hcell 9 _ rfl⟩
  · exact SF.same (fun x _ hx => (hblk x (by omega) (by omega)).trans (hb4.block x (by omega))) hs1
  · exact ⟨hcell 10 _ rfl, hcell 11 _ rfl, hcell 12 _ rfl, hcell 13 _ rfl, hcell 14 _ rfl, hcell 15 _ rfl, hcell 16 _ rfl, hcell 17 _ rfl, hcell 18 _ rfl, hcell 19 _ rfl⟩
  · exact SF.same (fun x hx1 hx2 => hblk x (by omega) hx2) hs2

theorem low_grown {w W W' : World} {B g : Nat} (hb : Below B w W) (hB : B ≤ w.heap.size) (hg : W.grownBy W' (some g)) (hgB : B ≤ g) : Below B w W' :=
  ⟨hg.os.trans hb.os, hg.tape.trans hb.tape, hg.output.trans hb.output, Nat.le_trans hb.size hg.size, fun i hi =>
    (hg.block i (Nat.lt_of_lt_of_le (Nat.lt_of_lt_of_le hi hB) hb.size) (fun e => by injection e with e; omega)).trans (hb.block i hi)⟩
theorem fost_low {w W3 wr w' : World} {x pb : Nat} {h : FH} {v2 s : Value} (hst : FoSt w W3 x pb h v2 s wr) (hb : Below W3.heap.size wr w') : FoSt w W3 x pb h v2 s w' := by
  obtain ⟨h1, h2, h3, h4, h5, h6, h7, h8, h9, h10, h11, h12⟩ := hst
  exact ⟨c10_block hb.size (hb.block x h9) h1, fun o => (World.frozen?_of_block (a := ⟨x, o, none⟩) (hb.block x h9)).trans (h2 o), c10_block hb.size (hb.block _ (by omega)) h3, fun o => (World.frozen?_of_block (a := ⟨w.heap.size, o, none⟩) (hb.block w.heap.size (by omega))).trans (h4 o), h5.trans (hb.mono (by omega)), Nat.le_trans h6 hb.size, (World.cell?_of_block (a := ⟨pb, 1, none⟩) (hb.block pb h10)).trans h7, h8, h9, h10, h11, h12⟩

set_option maxRecDepth 10000 in
set_option maxHeartbeats 4000000 in
theorem fo_p (h : FH) (bb : Bool) (t1 t2 : TypeId) (y1 y2 : Value) (h1 h2 : FH) (f1 f2 : Fo) (OWN : ∀ w, Calls Tryd.prog 75 #[.iface 100 (.agg #[.bool bb, .iface t1 y1, .iface t2 y2])] w (OwT h w)) (HC1 : FoAt (.iface t1 y1) h1 f1) (HC2 : FoAt (.iface t2 y2) h2 f2) : FoAt (.iface 100 (.agg #[.bool bb, .iface t1 y1, .iface t2 y2])) h (.cons h1 f1 (.cons h2 f2 .nil)) := by
  intro w
  have H1 := Lib.hid HC1
  have H2 := Lib.hid HC2
  have HOWN := Lib.hid OWN
  clear HC1 HC2 OWN
  go_enter Tryd.func66, Tryd.ntmps66
  go_wp2_with fail
  generalize hW : World.alloc _ _ = W
  have hw : Below w.heap.size w W := by subst hW; go_grown
  have hx : C10 W w.heap.size ⟨0, 0, 0, 0, 0, 0, 0, 0, 0⟩ (.slice none 0 0) := by subst hW; exact (by refine ⟨?_, ?_, ?_, ?_, ?_, ?_, ?_, ?_, ?_, ?_, ?_⟩ <;> first | (simp [go_sem]; done) | (simp; omega))
  have hf : ∀ o, W.frozen? ⟨w.heap.size, o, none⟩ = false := fun o => by subst hW; simp [go_sem]
  clear hW
  refine (HOWN.out _).mono ?_
  rintro e w1 ⟨rfl, hb1⟩
  have hw1 := below_on hw hb1
  have hf1 : ∀ o, w1.frozen? ⟨w.heap.size, o, none⟩ = false := fun o => ((bcell hb1).2 _ o hx.1).trans (hf o)
  have hx1 := c10_on hx hb1
  clear hx hf hb1 hw HOWN
  go_upto_region 2 with fail
  generalize hW2 : World.alloc _ _ = W2
  have hw2 : Below w1.heap.size w1 W2 := by subst hW2; go_grown
  have hy2 : C10 W2 w1.heap.size h (.slice none 0 0) := by subst hW2; exact (by refine ⟨?_, ?_, ?_, ?_, ?_, ?_, ?_, ?_, ?_, ?_, ?_⟩ <;> first | (simp [go_sem]; done) | (simp; omega))
  have hg2 : ∀ o, W2.frozen? ⟨w1.heap.size, o, none⟩ = false := fun o => by subst hW2; simp [go_sem]
  have hx2 := c10_on hx1 hw2
  have hf2 : ∀ o, W2.frozen? ⟨w.heap.size, o, none⟩ = false := fun o => ((bcell hw2).2 _ o hx1.1).trans (hf1 o)
  have hne : w.heap.size < w1.heap.size := hx1.1
  have hlt2 : w1.heap.size < W2.heap.size := hy2.1
  have hww2 := below_on hw1 hw2
  clear hW2 hx1 hf1 hw1 hw2
  go_wp2
  generalize hW3 : World.alloc _ _ = W3
  have hw3 : Below W2.heap.size W2 W3 := by subst hW3; go_grown
  have hc3 : W3.cell? ⟨W2.heap.size + 1, 0, none⟩ = some (.iface t1 y1) := by subst hW3; simp [go_sem]
  have hd3 : W3.cell? ⟨W2.heap.size + 1, 1, none⟩ = some (.iface t2 y2) := by subst hW3; simp [go_sem]
  have hs3 : W2.heap.size + 1 < W3.heap.size := by subst hW3; simp
  have hy3 := c10_on hy2 hw3
  have hx3 := c10_on hx2 hw3
  have hg3 : ∀ o, W3.frozen? ⟨w1.heap.size, o, none⟩ = false := fun o => ((bcell hw3).2 _ o hy2.1).trans (hg2 o)
  have hf3 : ∀ o, W3.frozen? ⟨w.heap.size, o, none⟩ = false := fun o => ((bcell hw3).2 _ o hx2.1).trans (hf2 o)
  have hww3 := below_on hww2 hw3
  clear hW3 hx2 hy2 hf2 hg2 hww2 hw3
  have hst : FoSt w W3 w1.heap.size (W2.heap.size + 1) h (.iface t2 y2) (.slice none 0 0) W3 := ⟨hy3, hg3, hx3, hf3, hww3, Nat.le_refl _, hd3, hne, hy3.1, hs3, by omega, by omega⟩
  have HST := Lib.hid (show FoR2 w W3 w1.heap.size (W2.heap.size + 1) h h1 h2 f1 f2 (.iface t1 y1) (.iface t2 y2) (.int .i64 0) W3 from .inl ⟨rfl, hst, hc3⟩)
  have hw3s := hs3
  clear hst hy3 hg3 hx3 hf3 hww3 hd3 hc3 hs3
  go_loopw [11] (fun i wr => FoR2 w W3 w1.heap.size (W2.heap.size + 1) h h1 h2 f1 f2 (.iface t1 y1) (.iface t2 y2) i wr) (fun i _ => 2 - (intOf i).toNat)
  case atStart => exact HST.out
  case round =>
    clear HST
    rcases hrel with ⟨rfl, hst, hv1⟩ | ⟨rfl, hst⟩ | ⟨rfl, hst⟩
    · have HST := Lib.hid hst
      obtain ⟨⟨y0, e0, e1, e2, e3, e4, e5, e6, e7, e8, e9⟩, yf, _, _, _, hws, _⟩ := id hst
      clear hst
      go_upto_region 5 with fail
      refine wp_region_held_drew (S := fun _ => True) (by kernel_rfl) trivial (fun _ => ?_)
      refine wpAnyH_take (i := 0) (oi := { dst := some 15, op := Go.Op.fieldAddr 31 (Go.Operand.tmp 3) 3, type := 0, pos := "l3_formulas.go:223", after := #[], guard := none }) (v := ?_) rfl (by kernel_rfl) (by kernel_rfl) (by kernel_rfl) (fun _ _ _ h => h) (Or.inl ⟨by rfl, ?_⟩) (by assumption) ?_
      rotate_left
      · (intro w _; first | (go_simp; done) | (go_simp; with_reducible rfl))
      try simp only [Act.put, List.setIfInBounds_toArray, List.set_cons_zero, List.set_cons_succ]
      refine wpAnyH_take (i := 2) (oi := { dst := some 17, op := Go.Op.move (Go.Operand.tmp 5), type := 79, pos := "l3_formulas.go:223", after := #[], guard := none }) (v := ?_) rfl (by kernel_rfl) (by kernel_rfl) (by kernel_rfl) (fun _ _ _ h => h) (Or.inl ⟨by rfl, ?_⟩) (by assumption) ?_
      rotate_left
      · (intro w _; first | (go_simp; done) | (go_simp; with_reducible rfl))
      try simp only [Act.put, List.setIfInBounds_toArray, List.set_cons_zero, List.set_cons_succ]
      refine wpAnyH_ready (rs := [1, 3]) (by kernel_rfl) (by simp) ?_
      refine AllReadyH.cons (o := { dst := some 16, op := Go.Op.load 29 (Go.Operand.tmp 15), type := 29, pos := "l3_formulas.go:223", after := #[{ on := 0, ground := Go.Ground.data }], guard := none }) rfl (fun K hK => ?_) (AllReadyH.cons (o := { dst := some 18, op := Go.Op.call { callee := Go.Callee.value (Go.Operand.func 66), args := #[Go.Operand.tmp 17], argTypes := #[79] }, type := 31, pos := "l3_formulas.go:223", after := #[{ on := 2, ground := Go.Ground.data }], guard := none }) rfl (fun K hK => ?_) AllReadyH.nil)
      ·
        go_simp
        refine hK.out _ _ trivial (fun _ => ?_)
        clear hK K
        try simp only [Act.put, List.setIfInBounds_toArray, List.set_cons_zero, List.set_cons_succ]
        refine wpAnyH_ready (rs := [3]) (by kernel_rfl) (by simp) ?_
        refine AllReadyH.cons (o := { dst := some 18, op := Go.Op.call { callee := Go.Callee.value (Go.Operand.func 66), args := #[Go.Operand.tmp 17], argTypes := #[79] }, type := 31, pos := "l3_formulas.go:223", after := #[{ on := 2, ground := Go.Ground.data }], guard := none }) rfl (fun K hK => ?_) AllReadyH.nil
        go_simp
        (go_at_call 66; refine (H1.out _).mono ?_; rintro e w4 ⟨s4, rfl, hs4, hb4⟩; obtain ⟨ga, gn, gc, rfl⟩ := hs4.slice; have hlt4 : w1.heap.size < w4.heap.size := Nat.lt_of_lt_of_le y0 hb4.size; have hd9 : w4.cell? ⟨w1.heap.size, 9, none⟩ = some (.slice none 0 0) := ((bcell hb4).1 _ 9 y0).trans e9; obtain ⟨g, cap, w5, hr5, ho5, hb5⟩ := fo_first h1 ga gn gc w4; have hf5 : ∀ o, w5.frozen? ⟨w1.heap.size, o, none⟩ = false := (fun o => ((bcell hb5).2 _ o (Nat.lt_of_lt_of_le y0 hb4.size)).trans (((bcell hb4).2 _ o y0).trans (yf o))); have he9 : w5.cell? ⟨w1.heap.size, 9, none⟩ = some (.slice none 0 0) := ((bcell hb5).1 _ 9 (Nat.lt_of_lt_of_le y0 hb4.size)).trans hd9)
        refine hK.out _ _ trivial (fun _ => ?_)
        clear hK K
        try simp only [Act.put, List.setIfInBounds_toArray, List.set_cons_zero, List.set_cons_succ]
        refine wpAnyH_ready (rs := [4]) (by kernel_rfl) (by simp) ?_
        refine AllReadyH.cons (o := { dst := some 19, op := Go.Op.buildSlice 29 1 #[(0, Go.Operand.tmp 18)], type := 29, pos := "l3_formulas.go:223", after := #[{ on := 3, ground := Go.Ground.data }], guard := none }) rfl (fun K hK => ?_) AllReadyH.nil
        go_simp
        refine hK.out _ _ trivial (fun _ => ?_)
        clear hK K
        try simp only [Act.put, List.setIfInBounds_toArray, List.set_cons_zero, List.set_cons_succ]
        refine wpAnyH_ready (rs := [5]) (by kernel_rfl) (by simp) ?_
        refine AllReadyH.cons (o := { dst := some 20, op := Go.Op.call { callee := Go.Callee.builtin Go.Builtin.append, args := #[Go.Operand.tmp 16, Go.Operand.tmp 19], argTypes := #[29, 29] }, type := 29, pos := "l3_formulas.go:223", after := #[{ on := 1, ground := Go.Ground.data }, { on := 4, ground := Go.Ground.data }, { on := 3, ground := Go.Ground.chain }], guard := none }) rfl (fun K hK => ?_) AllReadyH.nil
        rw [if_pos (by rfl)]
        (refine oper_append _ _ _ rfl rfl rfl hr5 ?_)
        refine hK.out _ _ trivial (fun _ => ?_)
        clear hK K
        try simp only [Act.put, List.setIfInBounds_toArray, List.set_cons_zero, List.set_cons_succ]
        refine wpAnyH_take (i := 6) (oi := { dst := some 21, op := Go.Op.fieldAddr 31 (Go.Operand.tmp 3) 3, type := 0, pos := "l3_formulas.go:223", after := #[{ on := 0, ground := Go.Ground.phase }, { on := 1, ground := Go.Ground.phase }, { on := 2, ground := Go.Ground.phase }, { on := 3, ground := Go.Ground.phase }, { on := 4, ground := Go.Ground.phase }, { on := 5, ground := Go.Ground.phase }], guard := none }) (v := ?_) rfl (by kernel_rfl) (by kernel_rfl) (by kernel_rfl) (fun _ _ _ h => h) (Or.inl ⟨by rfl, ?_⟩) (by assumption) ?_
        rotate_left
        · (intro w _; first | (go_simp; done) | (go_simp; with_reducible rfl))
        try simp only [Act.put, List.setIfInBounds_toArray, List.set_cons_zero, List.set_cons_succ]
        refine wpAnyH_ready (rs := [7]) (by kernel_rfl) (by simp) ?_
        refine AllReadyH.cons (o := { dst := none, op := Go.Op.store 29 (Go.Operand.tmp 21) (Go.Operand.tmp 20), type := 0, pos := "l3_formulas.go:223", after := #[{ on := 6, ground := Go.Ground.data }, { on := 5, ground := Go.Ground.data }, { on := 5, ground := Go.Ground.chain }, { on := 0, ground := Go.Ground.phase }, { on := 1, ground := Go.Ground.phase }, { on := 2, ground := Go.Ground.phase }, { on := 3, ground := Go.Ground.phase }, { on := 4, ground := Go.Ground.phase }, { on := 5, ground := Go.Ground.phase }], guard := none }) rfl (fun K hK => ?_) AllReadyH.nil
        go_simp
        refine hK.out _ _ trivial (fun _ => ?_)
        clear hK K
        try simp only [Act.put, List.setIfInBounds_toArray, List.set_cons_zero, List.set_cons_succ]
        refine wpAnyH_done (by kernel_rfl) ?_ _
        have hb45 := below_on (w := wr.drew) hb4 hb5
        have hst5 := fost_below (fost_drew HST.out) hb45
        have hs45 : wr.heap.size ≤ w4.heap.size := hb4.size
        have hx3 := HST.out.2.2.2.2.2.2.2.2.1
        generalize hW6 : World.setCell _ _ _ = W6
        obtain ⟨hst6, hk6, hs6⟩ := fost_put hst5 hW6
        have hg5 := (ho5.lt g rfl).1
        have HO6 := Lib.hid (own_block ho5 (hk6 g (by omega)))
        have HS6 := Lib.hid (SF.mono (lo' := W3.heap.size) hws (Nat.le_refl _) (SF.same (w' := W6) (fun x h1 _ => hk6 x (by have h2 : wr.heap.size ≤ x := h1; omega)) (SF.below hb5 (Nat.le_refl _) hs4)))
        have HST6 := Lib.hid hst6
        clear hW6 hst5 hst6 hk6 ho5 hs4 hr5 hf5 he9 hd9 y0 e0 e1 e2 e3 e4 e5 e6 e7 e8 e9 yf hb4 hb5 hb45
        go_wp2
        go_roundw
        case rel => exact ⟨_, _, _, _, _, _, _, _, _, _, _, _, _, .inr (.inl ⟨rfl, g, cap, w4.heap.size, _, HST6.out, HO6.out, HS6.out, by omega⟩), rfl⟩
        case measure => simp [intOf]
      ·
        go_simp
        (go_at_call 66; refine (H1.out _).mono ?_; rintro e w4 ⟨s4, rfl, hs4, hb4⟩; obtain ⟨ga, gn, gc, rfl⟩ := hs4.slice; have hlt4 : w1.heap.size < w4.heap.size := Nat.lt_of_lt_of_le y0 hb4.size; have hd9 : w4.cell? ⟨w1.heap.size, 9, none⟩ = some (.slice none 0 0) := ((bcell hb4).1 _ 9 y0).trans e9; obtain ⟨g, cap, w5, hr5, ho5, hb5⟩ := fo_first h1 ga gn gc w4; have hf5 : ∀ o, w5.frozen? ⟨w1.heap.size, o, none⟩ = false := (fun o => ((bcell hb5).2 _ o (Nat.lt_of_lt_of_le y0 hb4.size)).trans (((bcell hb4).2 _ o y0).trans (yf o))); have he9 : w5.cell? ⟨w1.heap.size, 9, none⟩ = some (.slice none 0 0) := ((bcell hb5).1 _ 9 (Nat.lt_of_lt_of_le y0 hb4.size)).trans hd9)
        refine hK.out _ _ trivial (fun _ => ?_)
        clear hK K
        try simp only [Act.put, List.setIfInBounds_toArray, List.set_cons_zero, List.set_cons_succ]
        refine wpAnyH_ready (rs := [1, 4]) (by kernel_rfl) (by simp) ?_
        refine AllReadyH.cons (o := { dst := some 16, op := Go.Op.load 29 (Go.Operand.tmp 15), type := 29, pos := "l3_formulas.go:223", after := #[{ on := 0, ground := Go.Ground.data }], guard := none }) rfl (fun K hK => ?_) (AllReadyH.cons (o := { dst := some 19, op := Go.Op.buildSlice 29 1 #[(0, Go.Operand.tmp 18)], type := 29, pos := "l3_formulas.go:223", after := #[{ on := 3, ground := Go.Ground.data }], guard := none }) rfl (fun K hK => ?_) AllReadyH.nil)
        ·
          go_simp
          refine hK.out _ _ trivial (fun _ => ?_)
          clear hK K
          try simp only [Act.put, List.setIfInBounds_toArray, List.set_cons_zero, List.set_cons_succ]
          refine wpAnyH_ready (rs := [4]) (by kernel_rfl) (by simp) ?_
          refine AllReadyH.cons (o := { dst := some 19, op := Go.Op.buildSlice 29 1 #[(0, Go.Operand.tmp 18)], type := 29, pos := "l3_formulas.go:223", after := #[{ on := 3, ground := Go.Ground.data }], guard := none }) rfl (fun K hK => ?_) AllReadyH.nil
          go_simp
          refine hK.out _ _ trivial (fun _ => ?_)
          clear hK K
          try simp only [Act.put, List.setIfInBounds_toArray, List.set_cons_zero, List.set_cons_succ]
          refine wpAnyH_ready (rs := [5]) (by kernel_rfl) (by simp) ?_
          refine AllReadyH.cons (o := { dst := some 20, op := Go.Op.call { callee := Go.Callee.builtin Go.Builtin.append, args := #[Go.Operand.tmp 16, Go.Operand.tmp 19], argTypes := #[29, 29] }, type := 29, pos := "l3_formulas.go:223", after := #[{ on := 1, ground := Go.Ground.data }, { on := 4, ground := Go.Ground.data }, { on := 3, ground := Go.Ground.chain }], guard := none }) rfl (fun K hK => ?_) AllReadyH.nil
          rw [if_pos (by rfl)]
          (refine oper_append _ _ _ rfl rfl rfl hr5 ?_)
          refine hK.out _ _ trivial (fun _ => ?_)
          clear hK K
          try simp only [Act.put, List.setIfInBounds_toArray, List.set_cons_zero, List.set_cons_succ]
          refine wpAnyH_take (i := 6) (oi := { dst := some 21, op := Go.Op.fieldAddr 31 (Go.Operand.tmp 3) 3, type := 0, pos := "l3_formulas.go:223", after := #[{ on := 0, ground := Go.Ground.phase }, { on := 1, ground := Go.Ground.phase }, { on := 2, ground := Go.Ground.phase }, { on := 3, ground := Go.Ground.phase }, { on := 4, ground := Go.Ground.phase }, { on := 5, ground := Go.Ground.phase }], guard := none }) (v := ?_) rfl (by kernel_rfl) (by kernel_rfl) (by kernel_rfl) (fun _ _ _ h => h) (Or.inl ⟨by rfl, ?_⟩) (by assumption) ?_
          rotate_left
          · (intro w _; first | (go_simp; done) | (go_simp; with_reducible rfl))
          try simp only [Act.put, List.setIfInBounds_toArray, List.set_cons_zero, List.set_cons_succ]
          refine wpAnyH_ready (rs := [7]) (by kernel_rfl) (by simp) ?_
          refine AllReadyH.cons (o := { dst := none, op := Go.Op.store 29 (Go.Operand.tmp 21) (Go.Operand.tmp 20), type := 0, pos := "l3_formulas.go:223", after := #[{ on := 6, ground := Go.Ground.data }, { on := 5, ground := Go.Ground.data }, { on := 5, ground := Go.Ground.chain }, { on := 0, ground := Go.Ground.phase }, { on := 1, ground := Go.Ground.phase }, { on := 2, ground := Go.Ground.phase }, { on := 3, ground := Go.Ground.phase }, { on := 4, ground := Go.Ground.phase }, { on := 5, ground := Go.Ground.phase }], guard := none }) rfl (fun K hK => ?_) AllReadyH.nil
          go_simp
          refine hK.out _ _ trivial (fun _ => ?_)
          clear hK K
          try simp only [Act.put, List.setIfInBounds_toArray, List.set_cons_zero, List.set_cons_succ]
          refine wpAnyH_done (by kernel_rfl) ?_ _
          have hb45 := below_on (w := wr.drew) hb4 hb5
          have hst5 := fost_below (fost_drew HST.out) hb45
          have hs45 : wr.heap.size ≤ w4.heap.size := hb4.size
          have hx3 := HST.out.2.2.2.2.2.2.2.2.1
          generalize hW6 : World.setCell _ _ _ = W6
          obtain ⟨hst6, hk6, hs6⟩ := fost_put hst5 hW6
          have hg5 := (ho5.lt g rfl).1
          have HO6 := Lib.hid (own_block ho5 (hk6 g (by omega)))
          have HS6 := Lib.hid (SF.mono (lo' := W3.heap.size) hws (Nat.le_refl _) (SF.same (w' := W6) (fun x h1 _ => hk6 x (by have h2 : wr.heap.size ≤ x := h1; omega)) (SF.below hb5 (Nat.le_refl _) hs4)))
          have HST6 := Lib.hid hst6
          clear hW6 hst5 hst6 hk6 ho5 hs4 hr5 hf5 he9 hd9 y0 e0 e1 e2 e3 e4 e5 e6 e7 e8 e9 yf hb4 hb5 hb45
          go_wp2
          go_roundw
          case rel => exact ⟨_, _, _, _, _, _, _, _, _, _, _, _, _, .inr (.inl ⟨rfl, g, cap, w4.heap.size, _, HST6.out, HO6.out, HS6.out, by omega⟩), rfl⟩
          case measure => simp [intOf]
        ·
          go_simp
          refine hK.out _ _ trivial (fun _ => ?_)
          clear hK K
          try simp only [Act.put, List.setIfInBounds_toArray, List.set_cons_zero, List.set_cons_succ]
          refine wpAnyH_ready (rs := [1]) (by kernel_rfl) (by simp) ?_
          refine AllReadyH.cons (o := { dst := some 16, op := Go.Op.load 29 (Go.Operand.tmp 15), type := 29, pos := "l3_formulas.go:223", after := #[{ on := 0, ground := Go.Ground.data }], guard := none }) rfl (fun K hK => ?_) AllReadyH.nil
          go_simp
          refine hK.out _ _ trivial (fun _ => ?_)
          clear hK K
          try simp only [Act.put, List.setIfInBounds_toArray, List.set_cons_zero, List.set_cons_succ]
          refine wpAnyH_ready (rs := [5]) (by kernel_rfl) (by simp) ?_
          refine AllReadyH.cons (o := { dst := some 20, op := Go.Op.call { callee := Go.Callee.builtin Go.Builtin.append, args := #[Go.Operand.tmp 16, Go.Operand.tmp 19], argTypes := #[29, 29] }, type := 29, pos := "l3_formulas.go:223", after := #[{ on := 1, ground := Go.Ground.data }, { on := 4, ground := Go.Ground.data }, { on := 3, ground := Go.Ground.chain }], guard := none }) rfl (fun K hK => ?_) AllReadyH.nil
          rw [if_pos (by rfl)]
          (refine oper_append _ _ _ rfl rfl rfl hr5 ?_)
          refine hK.out _ _ trivial (fun _ => ?_)
          clear hK K
          try simp only [Act.put, List.setIfInBounds_toArray, List.set_cons_zero, List.set_cons_succ]
          refine wpAnyH_take (i := 6) (oi := { dst := some 21, op := Go.Op.fieldAddr 31 (Go.Operand.tmp 3) 3, type := 0, pos := "l3_formulas.go:223", after := #[{ on := 0, ground := Go.Ground.phase }, { on := 1, ground := Go.Ground.phase }, { on := 2, ground := Go.Ground.phase }, { on := 3, ground := Go.Ground.phase }, { on := 4, ground := Go.Ground.phase }, { on := 5, ground := Go.Ground.phase }], guard := none }) (v := ?_) rfl (by kernel_rfl) (by kernel_rfl) (by kernel_rfl) (fun _ _ _ h => h) (Or.inl ⟨by rfl, ?_⟩) (by assumption) ?_
          rotate_left
          · (intro w _; first | (go_simp; done) | (go_simp; with_reducible rfl))
          try simp only [Act.put, List.setIfInBounds_toArray, List.set_cons_zero, List.set_cons_succ]
          refine wpAnyH_ready (rs := [7]) (by kernel_rfl) (by simp) ?_
          refine AllReadyH.cons (o := { dst := none, op := Go.Op.store 29 (Go.Operand.tmp 21) (Go.Operand.tmp 20), type := 0, pos := "l3_formulas.go:223", after := #[{ on := 6, ground := Go.Ground.data }, { on := 5, ground := Go.Ground.data }, { on := 5, ground := Go.Ground.chain }, { on := 0, ground := Go.Ground.phase }, { on := 1, ground := Go.Ground.phase }, { on := 2, ground := Go.Ground.phase }, { on := 3, ground := Go.Ground.phase }, { on := 4, ground := Go.Ground.phase }, { on := 5, ground := Go.Ground.phase }], guard := none }) rfl (fun K hK => ?_) AllReadyH.nil
          go_simp
          refine hK.out _ _ trivial (fun _ => ?_)
          clear hK K
          try simp only [Act.put, List.setIfInBounds_toArray, List.set_cons_zero, List.set_cons_succ]
          refine wpAnyH_done (by kernel_rfl) ?_ _
          have hb45 := below_on (w := wr.drew) hb4 hb5
          have hst5 := fost_below (fost_drew HST.out) hb45
          have hs45 : wr.heap.size ≤ w4.heap.size := hb4.size
          have hx3 := HST.out.2.2.2.2.2.2.2.2.1
          generalize hW6 : World.setCell _ _ _ = W6
          obtain ⟨hst6, hk6, hs6⟩ := fost_put hst5 hW6
          have hg5 := (ho5.lt g rfl).1
          have HO6 := Lib.hid (own_block ho5 (hk6 g (by omega)))
          have HS6 := Lib.hid (SF.mono (lo' := W3.heap.size) hws (Nat.le_refl _) (SF.same (w' := W6) (fun x h1 _ => hk6 x (by have h2 : wr.heap.size ≤ x := h1; omega)) (SF.below hb5 (Nat.le_refl _) hs4)))
          have HST6 := Lib.hid hst6
          clear hW6 hst5 hst6 hk6 ho5 hs4 hr5 hf5 he9 hd9 y0 e0 e1 e2 e3 e4 e5 e6 e7 e8 e9 yf hb4 hb5 hb45
          go_wp2
          go_roundw
          case rel => exact ⟨_, _, _, _, _, _, _, _, _, _, _, _, _, .inr (.inl ⟨rfl, g, cap, w4.heap.size, _, HST6.out, HO6.out, HS6.out, by omega⟩), rfl⟩
          case measure => simp [intOf]
    · obtain ⟨g1, cap1, B1, sl1, hst, hown, hsf, hB1⟩ := hst
      have HST := Lib.hid hst
      have HO := Lib.hid hown
      have HSF := Lib.hid hsf
      obtain ⟨⟨y0, e0, e1, e2, e3, e4, e5, e6, e7, e8, e9⟩, yf, _, _, _, hws, hv2, _⟩ := id hst
      have hx3 := HST.out.2.2.2.2.2.2.2.2.1
      have hg1 := (hown.lt g1 rfl)
      clear hst hown hsf
      go_upto_region 5 with fail
      refine wp_region_held_drew (S := fun _ => True) (by kernel_rfl) trivial (fun _ => ?_)
      refine wpAnyH_take (i := 0) (oi := { dst := some 15, op := Go.Op.fieldAddr 31 (Go.Operand.tmp 3) 3, type := 0, pos := "l3_formulas.go:223", after := #[], guard := none }) (v := ?_) rfl (by kernel_rfl) (by kernel_rfl) (by kernel_rfl) (fun _ _ _ h => h) (Or.inl ⟨by rfl, ?_⟩) (by assumption) ?_
      rotate_left
      · (intro w _; first | (go_simp; done) | (go_simp; with_reducible rfl))
      try simp only [Act.put, List.setIfInBounds_toArray, List.set_cons_zero, List.set_cons_succ]
      refine wpAnyH_take (i := 2) (oi := { dst := some 17, op := Go.Op.move (Go.Operand.tmp 5), type := 79, pos := "l3_formulas.go:223", after := #[], guard := none }) (v := ?_) rfl (by kernel_rfl) (by kernel_rfl) (by kernel_rfl) (fun _ _ _ h => h) (Or.inl ⟨by rfl, ?_⟩) (by assumption) ?_
      rotate_left
      · (intro w _; first | (go_simp; done) | (go_simp; with_reducible rfl))
      try simp only [Act.put, List.setIfInBounds_toArray, List.set_cons_zero, List.set_cons_succ]
      refine wpAnyH_ready (rs := [1, 3]) (by kernel_rfl) (by simp) ?_
      refine AllReadyH.cons (o := { dst := some 16, op := Go.Op.load 29 (Go.Operand.tmp 15), type := 29, pos := "l3_formulas.go:223", after := #[{ on := 0, ground := Go.Ground.data }], guard := none }) rfl (fun K hK => ?_) (AllReadyH.cons (o := { dst := some 18, op := Go.Op.call { callee := Go.Callee.value (Go.Operand.func 66), args := #[Go.Operand.tmp 17], argTypes := #[79] }, type := 31, pos := "l3_formulas.go:223", after := #[{ on := 2, ground := Go.Ground.data }], guard := none }) rfl (fun K hK => ?_) AllReadyH.nil)
      ·
        go_simp
        refine hK.out _ _ trivial (fun _ => ?_)
        clear hK K
        try simp only [Act.put, List.setIfInBounds_toArray, List.set_cons_zero, List.set_cons_succ]
        refine wpAnyH_ready (rs := [3]) (by kernel_rfl) (by simp) ?_
        refine AllReadyH.cons (o := { dst := some 18, op := Go.Op.call { callee := Go.Callee.value (Go.Operand.func 66), args := #[Go.Operand.tmp 17], argTypes := #[79] }, type := 31, pos := "l3_formulas.go:223", after := #[{ on := 2, ground := Go.Ground.data }], guard := none }) rfl (fun K hK => ?_) AllReadyH.nil
        go_simp
        (go_at_call 66; refine (H2.out _).mono ?_; rintro e w4 ⟨s4, rfl, hs4, hb4⟩; obtain ⟨ga, gn, gc, rfl⟩ := hs4.slice; have hs44 : wr.heap.size ≤ w4.heap.size := hb4.size; have hlt4 : w1.heap.size < w4.heap.size := Nat.lt_of_lt_of_le y0 hb4.size; have hd9 : w4.cell? ⟨w1.heap.size, 9, none⟩ = some (.slice (some ⟨g1, 0, none⟩) 1 cap1) := ((bcell hb4).1 _ 9 y0).trans e9; have hown4 := own_below (w := wr.drew) HO.out hb4; obtain ⟨v5, w5, hr5, ho5, hg5, hv5⟩ := fo_app h2 ga gn gc (by omega) (by omega) hown4; have hb5 : Below W3.heap.size w4 w5 := low_grown (g := g1) (show Below W3.heap.size w4 (w4.alloc (.cells #[.int .i64 h2.k, .int .i64 h2.ak, .int .i64 h2.am, .int .i64 h2.a, .int .i64 h2.b, .int .i64 h2.c, .int .i64 h2.d, .int .i64 h2.n, .int .i64 h2.v, .slice ga gn gc] _)) by go_grown) (by omega) hg5 (by omega); obtain ⟨g5, cap5, rfl, hsf5⟩ := sf_two (wa := wr.drew) HO.out (SF.same (w := wr) (fun _ _ _ => rfl) HSF.out) hB1 hb4 hs4 ho5 hg5 hv5; have he9 : w5.cell? ⟨w1.heap.size, 9, none⟩ = some (.slice (some ⟨g1, 0, none⟩) 1 cap1) := (World.cell?_of_block (a := ⟨w1.heap.size, 9, none⟩) (hb5.block w1.heap.size hx3)).trans hd9; have hf5 : ∀ o, w5.frozen? ⟨w1.heap.size, o, none⟩ = false := (fun o => (World.frozen?_of_block (a := ⟨w1.heap.size, o, none⟩) (hb5.block w1.heap.size hx3)).trans (((bcell hb4).2 _ o y0).trans (yf o))))
        refine hK.out _ _ trivial (fun _ => ?_)
        clear hK K
        try simp only [Act.put, List.setIfInBounds_toArray, List.set_cons_zero, List.set_cons_succ]
        refine wpAnyH_ready (rs := [4]) (by kernel_rfl) (by simp) ?_
        refine AllReadyH.cons (o := { dst := some 19, op := Go.Op.buildSlice 29 1 #[(0, Go.Operand.tmp 18)], type := 29, pos := "l3_formulas.go:223", after := #[{ on := 3, ground := Go.Ground.data }], guard := none }) rfl (fun K hK => ?_) AllReadyH.nil
        go_simp
        refine hK.out _ _ trivial (fun _ => ?_)
        clear hK K
        try simp only [Act.put, List.setIfInBounds_toArray, List.set_cons_zero, List.set_cons_succ]
        refine wpAnyH_ready (rs := [5]) (by kernel_rfl) (by simp) ?_
        refine AllReadyH.cons (o := { dst := some 20, op := Go.Op.call { callee := Go.Callee.builtin Go.Builtin.append, args := #[Go.Operand.tmp 16, Go.Operand.tmp 19], argTypes := #[29, 29] }, type := 29, pos := "l3_formulas.go:223", after := #[{ on := 1, ground := Go.Ground.data }, { on := 4, ground := Go.Ground.data }, { on := 3, ground := Go.Ground.chain }], guard := none }) rfl (fun K hK => ?_) AllReadyH.nil
        rw [if_pos (by rfl)]
        (refine oper_append _ _ _ rfl rfl rfl hr5 ?_)
        refine hK.out _ _ trivial (fun _ => ?_)
        clear hK K
        try simp only [Act.put, List.setIfInBounds_toArray, List.set_cons_zero, List.set_cons_succ]
        refine wpAnyH_take (i := 6) (oi := { dst := some 21, op := Go.Op.fieldAddr 31 (Go.Operand.tmp 3) 3, type := 0, pos := "l3_formulas.go:223", after := #[{ on := 0, ground := Go.Ground.phase }, { on := 1, ground := Go.Ground.phase }, { on := 2, ground := Go.Ground.phase }, { on := 3, ground := Go.Ground.phase }, { on := 4, ground := Go.Ground.phase }, { on := 5, ground := Go.Ground.phase }], guard := none }) (v := ?_) rfl (by kernel_rfl) (by kernel_rfl) (by kernel_rfl) (fun _ _ _ h => h) (Or.inl ⟨by rfl, ?_⟩) (by assumption) ?_
        rotate_left
        · (intro w _; first | (go_simp; done) | (go_simp; with_reducible rfl))
        try simp only [Act.put, List.setIfInBounds_toArray, List.set_cons_zero, List.set_cons_succ]
        refine wpAnyH_ready (rs := [7]) (by kernel_rfl) (by simp) ?_
        refine AllReadyH.cons (o := { dst := none, op := Go.Op.store 29 (Go.Operand.tmp 21) (Go.Operand.tmp 20), type := 0, pos := "l3_formulas.go:223", after := #[{ on := 6, ground := Go.Ground.data }, { on := 5, ground := Go.Ground.data }, { on := 5, ground := Go.Ground.chain }, { on := 0, ground := Go.Ground.phase }, { on := 1, ground := Go.Ground.phase }, { on := 2, ground := Go.Ground.phase }, { on := 3, ground := Go.Ground.phase }, { on := 4, ground := Go.Ground.phase }, { on := 5, ground := Go.Ground.phase }], guard := none }) rfl (fun K hK => ?_) AllReadyH.nil
        go_simp
        refine hK.out _ _ trivial (fun _ => ?_)
        clear hK K
        try simp only [Act.put, List.setIfInBounds_toArray, List.set_cons_zero, List.set_cons_succ]
        refine wpAnyH_done (by kernel_rfl) ?_ _
        have hst5 := fost_low (fost_below (fost_drew HST.out) hb4) hb5
        generalize hW6 : World.setCell _ _ _ = W6
        obtain ⟨hst6, hk6, hs6⟩ := fost_put hst5 hW6
        have hsf6 : SF W6 W3.heap.size W6.heap.size (.cons h1 f1 (.cons h2 f2 .nil)) (.slice (some ⟨g5, 0, none⟩) 2 cap5) := by
          rw [hs6]
          exact SF.same (w' := W6) (fun x h1 _ => hk6 x (by have h2 : W3.heap.size ≤ x := h1; omega)) hsf5
        have HS6 := Lib.hid hsf6
        have HST6 := Lib.hid hst6
        clear hW6 hst5 hst6 hk6 ho5 hs4 hr5 hf5 he9 hd9 y0 e0 e1 e2 e3 e4 e5 e6 e7 e8 e9 yf hb4 hb5 hsf5 hsf6 hown4 hg5 hv5 hs6
        go_wp2
        go_roundw
        case rel => exact ⟨_, _, _, _, _, _, _, _, _, _, _, _, _, .inr (.inr ⟨rfl, _, HST6.out, HS6.out⟩), rfl⟩
        case measure => simp [intOf]
      ·
        go_simp
        (go_at_call 66; refine (H2.out _).mono ?_; rintro e w4 ⟨s4, rfl, hs4, hb4⟩; obtain ⟨ga, gn, gc, rfl⟩ := hs4.slice; have hs44 : wr.heap.size ≤ w4.heap.size := hb4.size; have hlt4 : w1.heap.size < w4.heap.size := Nat.lt_of_lt_of_le y0 hb4.size; have hd9 : w4.cell? ⟨w1.heap.size, 9, none⟩ = some (.slice (some ⟨g1, 0, none⟩) 1 cap1) := ((bcell hb4).1 _ 9 y0).trans e9; have hown4 := own_below (w := wr.drew) HO.out hb4; obtain ⟨v5, w5, hr5, ho5, hg5, hv5⟩ := fo_app h2 ga gn gc (by omega) (by omega) hown4; have hb5 : Below W3.heap.size w4 w5 := low_grown (g := g1) (show Below W3.heap.size w4 (w4.alloc (.cells #[.int .i64 h2.k, .int .i64 h2.ak, .int .i64 h2.am, .int .i64 h2.a, .int .i64 h2.b, .int .i64 h2.c, .int .i64 h2.d, .int .i64 h2.n, .int .i64 h2.v, .slice ga gn gc] _)) by go_grown) (by omega) hg5 (by omega); obtain ⟨g5, cap5, rfl, hsf5⟩ := sf_two (wa := wr.drew) HO.out (SF.same (w := wr) (fun _ _ _ => rfl) HSF.out) hB1 hb4 hs4 ho5 hg5 hv5; have he9 : w5.cell? ⟨w1.heap.size, 9, none⟩ = some (.slice (some ⟨g1, 0, none⟩) 1 cap1) := (World.cell?_of_block (a := ⟨w1.heap.size, 9, none⟩) (hb5.block w1.heap.size hx3)).trans hd9; have hf5 : ∀ o, w5.frozen? ⟨w1.heap.size, o, none⟩ = false := (fun o => (World.frozen?_of_block (a := ⟨w1.heap.size, o, none⟩) (hb5.block w1.heap.size hx3)).trans (((bcell hb4).2 _ o y0).trans (yf o))))
        refine hK.out _ _ trivial (fun _ => ?_)
        clear hK K
        try simp only [Act.put, List.setIfInBounds_toArray, List.set_cons_zero, List.set_cons_succ]
        refine wpAnyH_ready (rs := [1, 4]) (by kernel_rfl) (by simp) ?_
        refine AllReadyH.cons (o := { dst := some 16, op := Go.Op.load 29 (Go.Operand.tmp 15), type := 29, pos := "l3_formulas.go:223", after := #[{ on := 0, ground := Go.Ground.data }], guard := none }) rfl (fun K hK => ?_) (AllReadyH.cons (o := { dst := some 19, op := Go.Op.buildSlice 29 1 #[(0, Go.Operand.tmp 18)], type := 29, pos := "l3_formulas.go:223", after := #[{ on := 3, ground := Go.Ground.data }], guard := none }) rfl (fun K hK => ?_) AllReadyH.nil)
        ·
          go_simp
          refine hK.out _ _ trivial (fun _ => ?_)
          clear hK K
          try simp only [Act.put, List.setIfInBounds_toArray, List.set_cons_zero, List.set_cons_succ]
          refine wpAnyH_ready (rs := [4]) (by kernel_rfl) (by simp) ?_
          refine AllReadyH.cons (o := { dst := some 19, op := Go.Op.buildSlice 29 1 #[(0, Go.Operand.tmp 18)], type := 29, pos := "l3_formulas.go:223", after := #[{ on := 3, ground := Go.Ground.data }], guard := none }) rfl (fun K hK => ?_) AllReadyH.nil
          go_simp
          refine hK.out _ _ trivial (fun _ => ?_)
          clear hK K
          try simp only [Act.put, List.setIfInBounds_toArray, List.set_cons_zero, List.set_cons_succ]
          refine wpAnyH_ready (rs := [5]) (by kernel_rfl) (by simp) ?_
          refine AllReadyH.cons (o := { dst := some 20, op := Go.Op.call { callee := Go.Callee.builtin Go.Builtin.append, args := #[Go.Operand.tmp 16, Go.Operand.tmp 19], argTypes := #[29, 29] }, type := 29, pos := "l3_formulas.go:223", after := #[{ on := 1, ground := Go.Ground.data }, { on := 4, ground := Go.Ground.data }, { on := 3, ground := Go.Ground.chain }], guard := none }) rfl (fun K hK => ?_) AllReadyH.nil
          rw [if_pos (by rfl)]
          (refine oper_append _ _ _ rfl rfl rfl hr5 ?_)
          refine hK.out _ _ trivial (fun _ => ?_)
          clear hK K
          try simp only [Act.put, List.setIfInBounds_toArray, List.set_cons_zero, List.set_cons_succ]
          refine wpAnyH_take (i := 6) (oi := { dst := some 21, op := Go.Op.fieldAddr 31 (Go.Operand.tmp 3) 3, type := 0, pos := "l3_formulas.go:223", after := #[{ on := 0, ground := Go.Ground.phase }, { on := 1, ground := Go.Ground.phase }, { on := 2, ground := Go.Ground.phase }, { on := 3, ground := Go.Ground.phase }, { on := 4, ground := Go.Ground.phase }, { on := 5, ground := Go.Ground.phase }], guard := none }) (v := ?_) rfl (by kernel_rfl) (by kernel_rfl) (by kernel_rfl) (fun _ _ _ h => h) (Or.inl ⟨by rfl, ?_⟩) (by assumption) ?_
          rotate_left
          · (intro w _; first | (go_simp; done) | (go_simp; with_reducible rfl))
          try simp only [Act.put, List.setIfInBounds_toArray, List.set_cons_zero, List.set_cons_succ]
          refine wpAnyH_ready (rs := [7]) (by kernel_rfl) (by simp) ?_
          refine AllReadyH.cons (o := { dst := none, op := Go.Op.store 29 (Go.Operand.tmp 21) (Go.Operand.tmp 20), type := 0, pos := "l3_formulas.go:223", after := #[{ on := 6, ground := Go.Ground.data }, { on := 5, ground := Go.Ground.data }, { on := 5, ground := Go.Ground.chain }, { on := 0, ground := Go.Ground.phase }, { on := 1, ground := Go.Ground.phase }, { on := 2, ground := Go.Ground.phase }, { on := 3, ground := Go.Ground.phase }, { on := 4, ground := Go.Ground.phase }, { on := 5, ground := Go.Ground.phase }], guard := none }) rfl (fun K hK => ?_) AllReadyH.nil
          go_simp
          refine hK.out _ _ trivial (fun _ => ?_)
          clear hK K
          try simp only [Act.put, List.setIfInBounds_toArray, List.set_cons_zero, List.set_cons_succ]
          refine wpAnyH_done (by kernel_rfl) ?_ _
          have hst5 := fost_low (fost_below (fost_drew HST.out) hb4) hb5
          generalize hW6 : World.setCell _ _ _ = W6
          obtain ⟨hst6, hk6, hs6⟩ := fost_put hst5 hW6
          have hsf6 : SF W6 W3.heap.size W6.heap.size (.cons h1 f1 (.cons h2 f2 .nil)) (.slice (some ⟨g5, 0, none⟩) 2 cap5) := by
            rw [hs6]
            exact SF.same (w' := W6) (fun x h1 _ => hk6 x (by have h2 : W3.heap.size ≤ x := h1; omega)) hsf5
          have HS6 := Lib.hid hsf6
          have HST6 := Lib.hid hst6
          clear hW6 hst5 hst6 hk6 ho5 hs4 hr5 hf5 he9 hd9 y0 e0 e1 e2 e3 e4 e5 e6 e7 e8 e9 yf hb4 hb5 hsf5 hsf6 hown4 hg5 hv5 hs6
          go_wp2
          go_roundw
          case rel => exact ⟨_, _, _, _, _, _, _, _, _, _, _, _, _, .inr (.inr ⟨rfl, _, HST6.out, HS6.out⟩), rfl⟩
          case measure => simp [intOf]
        ·
          go_simp
          refine hK.out _ _ trivial (fun _ => ?_)
          clear hK K
          try simp only [Act.put, List.setIfInBounds_toArray, List.set_cons_zero, List.set_cons_succ]
          refine wpAnyH_ready (rs := [1]) (by kernel_rfl) (by simp) ?_
          refine AllReadyH.cons (o := { dst := some 16, op := Go.Op.load 29 (Go.Operand.tmp 15), type := 29, pos := "l3_formulas.go:223", after := #[{ on := 0, ground := Go.Ground.data }], guard := none }) rfl (fun K hK => ?_) AllReadyH.nil
          go_simp
          refine hK.out _ _ trivial (fun _ => ?_)
          clear hK K
          try simp only [Act.put, List.setIfInBounds_toArray, List.set_cons_zero, List.set_cons_succ]
          refine wpAnyH_ready (rs := [5]) (by kernel_rfl) (by simp) ?_
          refine AllReadyH.cons (o := { dst := some 20, op := Go.Op.call { callee := Go.Callee.builtin Go.Builtin.append, args := #[Go.Operand.tmp 16, Go.Operand.tmp 19], argTypes := #[29, 29] }, type := 29, pos := "l3_formulas.go:223", after := #[{ on := 1, ground := Go.Ground.data }, { on := 4, ground := Go.Ground.data }, { on := 3, ground := Go.Ground.chain }], guard := none }) rfl (fun K hK => ?_) AllReadyH.nil
          rw [if_pos (by rfl)]
          (refine oper_append _ _ _ rfl rfl rfl hr5 ?_)
          refine hK.out _ _ trivial (fun _ => ?_)
          clear hK K
          try simp only [Act.put, List.setIfInBounds_toArray, List.set_cons_zero, List.set_cons_succ]
          refine wpAnyH_take (i := 6) (oi := { dst := some 21, op := Go.Op.fieldAddr 31 (Go.Operand.tmp 3) 3, type := 0, pos := "l3_formulas.go:223", after := #[{ on := 0, ground := Go.Ground.phase }, { on := 1, ground := Go.Ground.phase }, { on := 2, ground := Go.Ground.phase }, { on := 3, ground := Go.Ground.phase }, { on := 4, ground := Go.Ground.phase }, { on := 5, ground := Go.Ground.phase }], guard := none }) (v := ?_) rfl (by kernel_rfl) (by kernel_rfl) (by kernel_rfl) (fun _ _ _ h => h) (Or.inl ⟨by rfl, ?_⟩) (by assumption) ?_
          rotate_left
          · (intro w _; first | (go_simp; done) | (go_simp; with_reducible rfl))
          try simp only [Act.put, List.setIfInBounds_toArray, List.set_cons_zero, List.set_cons_succ]
          refine wpAnyH_ready (rs := [7]) (by kernel_rfl) (by simp) ?_
          refine AllReadyH.cons (o := { dst := none, op := Go.Op.store 29 (Go.Operand.tmp 21) (Go.Operand.tmp 20), type := 0, pos := "l3_formulas.go:223", after := #[{ on := 6, ground := Go.Ground.data }, { on := 5, ground := Go.Ground.data }, { on := 5, ground := Go.Ground.chain }, { on := 0, ground := Go.Ground.phase }, { on := 1, ground := Go.Ground.phase }, { on := 2, ground := Go.Ground.phase }, { on := 3, ground := Go.Ground.phase }, { on := 4, ground := Go.Ground.phase }, { on := 5, ground := Go.Ground.phase }], guard := none }) rfl (fun K hK => ?_) AllReadyH.nil
          go_simp
          refine hK.out _ _ trivial (fun _ => ?_)
          clear hK K
          try simp only [Act.put, List.setIfInBounds_toArray, List.set_cons_zero, List.set_cons_succ]
          refine wpAnyH_done (by kernel_rfl) ?_ _
          have hst5 := fost_low (fost_below (fost_drew HST.out) hb4) hb5
          generalize hW6 : World.setCell _ _ _ = W6
          obtain ⟨hst6, hk6, hs6⟩ := fost_put hst5 hW6
          have hsf6 : SF W6 W3.heap.size W6.heap.size (.cons h1 f1 (.cons h2 f2 .nil)) (.slice (some ⟨g5, 0, none⟩) 2 cap5) := by
            rw [hs6]
            exact SF.same (w' := W6) (fun x h1 _ => hk6 x (by have h2 : W3.heap.size ≤ x := h1; omega)) hsf5
          have HS6 := Lib.hid hsf6
          have HST6 := Lib.hid hst6
          clear hW6 hst5 hst6 hk6 ho5 hs4 hr5 hf5 he9 hd9 y0 e0 e1 e2 e3 e4 e5 e6 e7 e8 e9 yf hb4 hb5 hsf5 hsf6 hown4 hg5 hv5 hs6
          go_wp2
          go_roundw
          case rel => exact ⟨_, _, _, _, _, _, _, _, _, _, _, _, _, .inr (.inr ⟨rfl, _, HST6.out, HS6.out⟩), rfl⟩
          case measure => simp [intOf]
    · obtain ⟨s9, hst, hsf⟩ := hst
      have HSF := Lib.hid hsf
      have HST := Lib.hid hst
      obtain ⟨sa, sn, sc, rfl⟩ := hsf.slice
      obtain ⟨⟨q0, e0, e1, e2, e3, e4, e5, e6, e7, e8, e9⟩, qf, ⟨z0, c0, c1, c2, c3, c4, c5, c6, c7, c8, c9⟩, zf, _⟩ := id hst
      clear hst hsf
      have hx3 := HST.out.2.2.2.2.2.2.2.2.1
      have hwx := HST.out.2.2.2.2.2.2.2.1
      go_wp2_with fail
      generalize hW7 : World.setCell _ _ _ = W7
      have hblk7 : ∀ x, x ≠ w.heap.size → W7.heap[x]? = wr.heap[x]? := fun x hx => by subst hW7; repeat rw [Below.heap_setCell _ _ _ _ (by dsimp only; omega)]
      have hsz7 : W7.heap.size = wr.heap.size := by subst hW7; simp [World.setCell]
      obtain ⟨hx7, hb7⟩ := put10b (g := h) HST.out.2.2.1 hW7
      have hww7 := HST.out.2.2.2.2.1.trans (hb7 w.heap.size (Nat.le_refl _))
      have HS7 : Hid (SF W7 w.heap.size W7.heap.size (.cons h1 f1 (.cons h2 f2 .nil)) (.slice sa sn sc)) := by
        have h0 := SF.same (w' := W7) (fun x h1 _ => hblk7 x (by have h2 : W3.heap.size ≤ x := h1; omega)) HSF.out
        exact SF.mono (by omega) (by omega) h0
      obtain ⟨z0, k0, k1, k2, k3, k4, k5, k6, k7, k8, k9⟩ := hx7
      (try simp only [Exit.inBlock, Exit.then])
      refine bodyPost_ret (v := .agg #[.int .i64 h.k, .int .i64 h.ak, .int .i64 h.am, .int .i64 h.a, .int .i64 h.b, .int .i64 h.c, .int .i64 h.d, .int .i64 h.n, .int .i64 h.v, .slice sa sn sc]) ?_ rfl ⟨_, rfl, HS7.out, hww7⟩
      rw [results_cell1 rfl]
      go_simp



end Go.Proofs.YtmkflokcficmoaaDoor

/- The contract of formulaOf at the node of every formula. -/
namespace Go.Proofs.YtmkflokcficmoaaDoor
open Go.RowKit

theorem fo_nil (h : FH) (ho : ownB h 0 = true) : FoAt (nd1 h []) h .nil := by
  rcases own_kind ho with ⟨_, hk | hk | hk⟩ | ⟨hl, _⟩ | ⟨hl, _⟩
  · obtain ⟨z1, z2, z3, z4, z5, z6, z7⟩ := own_zero ho (by omega)
    have v0 := own_v0 ho (by rw [hk]; rfl)
    obtain ⟨k, ak, am, a, b, c, d, n, v⟩ := h
    dsimp only at *
    subst hk z1 z2 z3 z4 z5 z6 z7 v0
    exact fo_t _ true own_t0
  · obtain ⟨z1, z2, z3, z4, z5, z6, z7⟩ := own_zero ho (by omega)
    have v0 := own_v0 ho (by rw [hk]; rfl)
    obtain ⟨k, ak, am, a, b, c, d, n, v⟩ := h
    dsimp only at *
    subst hk z1 z2 z3 z4 z5 z6 z7 v0
    exact fo_t _ false own_t1
  · have v0 := own_v0 ho (by rw [hk]; rfl)
    obtain ⟨k, ak, am, a, b, c, d, n, v⟩ := h
    dsimp only at *
    subst hk v0
    exact fo_a _ ak am a b c d n (own_a ak am a b c d n)
  · omega
  · omega

theorem fo_1 (h : FH) (t : TypeId) (y : Value) (h1 : FH) (s1 : Fo) (ho : ownB h 1 = true) (HC : FoAt (.iface t y) h1 s1) : FoAt (nd1 h [.iface t y]) h (.cons h1 s1 .nil) := by
  rcases own_kind ho with ⟨hl, _⟩ | ⟨_, hk | hk | hk⟩ | ⟨hl, _⟩
  · omega
  · obtain ⟨z1, z2, z3, z4, z5, z6, z7⟩ := own_zero ho (by omega)
    have v0 := own_v0 ho (by rw [hk]; rfl)
    obtain ⟨k, ak, am, a, b, c, d, n, v⟩ := h
    dsimp only at *
    subst hk z1 z2 z3 z4 z5 z6 z7 v0
    exact fo_n _ t y h1 s1 (own_n t y) HC
  · obtain ⟨z1, z2, z3, z4, z5, z6, z7⟩ := own_zero ho (by omega)
    obtain ⟨k, ak, am, a, b, c, d, n, v⟩ := h
    dsimp only at *
    subst hk z1 z2 z3 z4 z5 z6 z7
    exact fo_b _ true v t y h1 s1 (own_b6 v t y) HC
  · obtain ⟨z1, z2, z3, z4, z5, z6, z7⟩ := own_zero ho (by omega)
    obtain ⟨k, ak, am, a, b, c, d, n, v⟩ := h
    dsimp only at *
    subst hk z1 z2 z3 z4 z5 z6 z7
    exact fo_b _ false v t y h1 s1 (own_b7 v t y) HC
  · omega

theorem fo_2 (h : FH) (t t' : TypeId) (y y' : Value) (h1 h2 : FH) (s1 s2 : Fo) (ho : ownB h 2 = true) (HC : FoAt (.iface t y) h1 s1) (HC' : FoAt (.iface t' y') h2 s2) : FoAt (nd1 h [.iface t y, .iface t' y']) h (.cons h1 s1 (.cons h2 s2 .nil)) := by
  rcases own_kind ho with ⟨hl, _⟩ | ⟨hl, _⟩ | ⟨_, hk | hk⟩
  · omega
  · omega
  · obtain ⟨z1, z2, z3, z4, z5, z6, z7⟩ := own_zero ho (by omega)
    have v0 := own_v0 ho (by rw [hk]; rfl)
    obtain ⟨k, ak, am, a, b, c, d, n, v⟩ := h
    dsimp only at *
    subst hk z1 z2 z3 z4 z5 z6 z7 v0
    exact fo_p _ true t t' y y' h1 h2 s1 s2 (own_p4 t t' y y') HC HC'
  · obtain ⟨z1, z2, z3, z4, z5, z6, z7⟩ := own_zero ho (by omega)
    have v0 := own_v0 ho (by rw [hk]; rfl)
    obtain ⟨k, ak, am, a, b, c, d, n, v⟩ := h
    dsimp only at *
    subst hk z1 z2 z3 z4 z5 z6 z7 v0
    exact fo_p _ false t t' y y' h1 h2 s1 s2 (own_p5 t t' y y') HC HC'

theorem fo_any : ∀ (N : Nat) (h : FH) (f : Fo), f.size ≤ N → ownB h f.len = true → f.okB = true → FoAt (nd1 h f.nds) h f := by
  intro N
  induction N with
  | zero =>
    intro h f hf ho _
    match f, hf, ho with
    | .nil, _, ho => exact fo_nil h ho
    | .cons _ _ _, hf, _ => simp [Fo.size] at hf
  | succ N ih =>
    intro h f hf ho hok
    match f, hf, ho, hok with
    | .nil, _, ho, _ => exact fo_nil h ho
    | .cons h1 s1 .nil, hf, ho, hok =>
      simp only [Fo.size, Fo.okB, Bool.and_true, Bool.and_eq_true] at hf hok
      obtain ⟨t, y, e⟩ := nd1_iface h1 s1.nds
      have h1n := ih h1 s1 (by omega) hok.1 hok.2
      simp only [Fo.nds, e] at h1n ⊢
      exact fo_1 h t y h1 s1 ho h1n
    | .cons h1 s1 (.cons h2 s2 .nil), hf, ho, hok =>
      simp only [Fo.size, Fo.okB, Bool.and_true, Bool.and_eq_true] at hf hok
      obtain ⟨t, y, e⟩ := nd1_iface h1 s1.nds
      obtain ⟨t', y', e'⟩ := nd1_iface h2 s2.nds
      have h1n := ih h1 s1 (by omega) hok.1.1 hok.1.2
      have h2n := ih h2 s2 (by omega) hok.2.1 hok.2.2
      simp only [Fo.nds, e, e'] at h1n h2n ⊢
      exact fo_2 h t t' y y' h1 h2 s1 s2 ho h1n h2n
    | .cons _ _ (.cons _ _ (.cons _ _ r)), _, ho, _ =>
      rcases own_kind ho with ⟨hl, _⟩ | ⟨hl, _⟩ | ⟨hl, _⟩ <;> simp [Fo.len] at hl

end Go.Proofs.YtmkflokcficmoaaDoor

/- Contracts of validFormula and joined. -/
namespace Go.Proofs.YtmkflokcficmoaaDoor
open Go.RowKit

def VyT (h : FH) (f : Fo) (w : World) (e : Ending) (w' : World) : Prop := ∃ s, e = .returned (.tuple #[.agg #[.int .i64 h.k, .int .i64 h.ak, .int .i64 h.am, .int .i64 h.a, .int .i64 h.b, .int .i64 h.c, .int .i64 h.d, .int .i64 h.n, .int .i64 h.v, s], .bool true]) ∧ SF w' w.heap.size w'.heap.size f s ∧ Below w.heap.size w w'
def VnT (w : World) (e : Ending) (w' : World) : Prop := e = .returned (.tuple #[.agg #[.int .i64 0, .int .i64 0, .int .i64 0, .int .i64 0, .int .i64 0, .int .i64 0, .int .i64 0, .int .i64 0, .int .i64 0, .slice none 0 0], .bool false]) ∧ Below w.heap.size w w'

set_option maxRecDepth 10000 in
set_option maxHeartbeats 2000000 in
theorem vf_yes (h : FH) (f : Fo) (w : World) (ho : ownB h f.len = true) (hok : f.okB = true) (hz : f.size + 1 ≤ 600) : Calls Tryd.prog 53 #[nd1 h f.nds] w (VyT h f w) := by
  have HN := Lib.hid (fun W => nodesIn_any _ _ W (by simp [flat_len]; omega) (an_any f.size h f (Nat.le_refl _) ho hok))
  have HF := Lib.hid (fun W => fo_any f.size h f (Nat.le_refl _) ho hok W)
  have HL := Lib.hid (show (nd1 h f.nds :: f.flat).length = f.size + 1 by simp [flat_len])
  obtain ⟨q, hq⟩ : ∃ q : Nat, f.size + 1 = q := ⟨_, rfl⟩
  rw [hq] at HL
  have hq6 : ¬ (600 : Int) < (q : Int) := by omega
  have hq0 : 0 < q := by omega
  obtain ⟨t, y, e⟩ := nd1_iface h f.nds
  rw [e] at HN HF HL ⊢
  clear ho hok hz hq e
  go_enter Tryd.func53, Tryd.ntmps53
  go_wp2_with fail
  generalize hW : World.alloc _ _ = W
  have hw : Below w.heap.size w W := by subst hW; go_grown
  have hx : C10 W w.heap.size ⟨0, 0, 0, 0, 0, 0, 0, 0, 0⟩ (.slice none 0 0) := by subst hW; exact (by refine ⟨?_, ?_, ?_, ?_, ?_, ?_, ?_, ?_, ?_, ?_, ?_⟩ <;> first | (simp [go_sem]; done) | (simp; omega))
  have hf : ∀ o, W.frozen? ⟨w.heap.size, o, none⟩ = false := fun o => by subst hW; simp [go_sem]
  clear hW
  refine (HN.out W).mono ?_
  rintro e w2 ⟨v2, rfl, ho2, hb2⟩
  rw [HL.out] at ho2
  obtain ⟨g, cap, rfl, _⟩ := own_read ho2 hq0
  clear ho2
  go_wp2_with fail
  refine (HF.out w2).mono ?_
  rintro e w3 ⟨s3, rfl, hs3, hb3⟩
  obtain ⟨sa, sn, sc, rfl⟩ := hs3.slice
  have HS3 := Lib.hid hs3
  have hb23 := below_on hb2 hb3
  have hx3 := c10_on hx hb23
  have hf3 : ∀ o, w3.frozen? ⟨w.heap.size, o, none⟩ = false := fun o => ((bcell hb23).2 _ o hx.1).trans (hf o)
  have hw3 := below_on hw hb23
  have hws : w.heap.size < w2.heap.size := Nat.lt_of_lt_of_le hx.1 hb2.size
  obtain ⟨x0, c0, c1, c2, c3, c4, c5, c6, c7, c8, c9⟩ := id hx3
  clear hs3 hb2 hb3 hb23 hx hf hw
  go_upto_region 20 with fail
  generalize hW7 : World.setCell _ _ _ = W7
  have hblk7 : ∀ x, x ≠ w.heap.size → W7.heap[x]? = w3.heap[x]? := fun x hx => by subst hW7; repeat rw [Below.heap_setCell _ _ _ _ (by dsimp only; omega)]
  have hsz7 : W7.heap.size = w3.heap.size := by subst hW7; simp [World.setCell]
  obtain ⟨hx7, hb7⟩ := put10b (g := h) hx3 hW7
  have hww7 := hw3.trans (hb7 w.heap.size (Nat.le_refl _))
  have HS7 : Hid (SF W7 w.heap.size W7.heap.size f (.slice sa sn sc)) := by
    have h0 := SF.same (w' := W7) (fun x h1 _ => hblk7 x (by omega)) HS3.out
    exact SF.mono (by omega) (by omega) h0
  obtain ⟨z0, k0, k1, k2, k3, k4, k5, k6, k7, k8, k9⟩ := hx7
  clear hW7 x0 c0 c1 c2 c3 c4 c5 c6 c7 c8 c9 hblk7
  go_wp2
  refine bodyPost_ret (v := .tuple #[.agg #[.int .i64 h.k, .int .i64 h.ak, .int .i64 h.am, .int .i64 h.a, .int .i64 h.b, .int .i64 h.c, .int .i64 h.d, .int .i64 h.n, .int .i64 h.v, .slice sa sn sc], .bool true]) (by simp [results, Tryd.results53, go_sem, k0, k1, k2, k3, k4, k5, k6, k7, k8, k9]) rfl ⟨_, rfl, HS7.out, hww7⟩

set_option maxRecDepth 10000 in
set_option maxHeartbeats 2000000 in
theorem vf_no (h : FH) (f : Fo) (w : World) (ho : ownB h f.len = true) (hok : f.okB = true) (hz : 600 < f.size + 1) (hz2 : f.size ≤ 100000) : Calls Tryd.prog 53 #[nd1 h f.nds] w (VnT w) := by
  have HN := Lib.hid (fun W => nodesIn_any _ _ W (by simp [flat_len]; omega) (an_any f.size h f (Nat.le_refl _) ho hok))
  have HL := Lib.hid (show (nd1 h f.nds :: f.flat).length = f.size + 1 by simp [flat_len])
  obtain ⟨q, hq⟩ : ∃ q : Nat, f.size + 1 = q := ⟨_, rfl⟩
  rw [hq] at HL
  have hq6 : (600 : Int) < (q : Int) := by omega
  have hq0 : 0 < q := by omega
  obtain ⟨t, y, e⟩ := nd1_iface h f.nds
  rw [e] at HN HL ⊢
  clear ho hok hz hz2 hq e
  go_enter Tryd.func53, Tryd.ntmps53
  go_wp2_with fail
  generalize hW : World.alloc _ _ = W
  have hw : Below w.heap.size w W := by subst hW; go_grown
  have hx : C10 W w.heap.size ⟨0, 0, 0, 0, 0, 0, 0, 0, 0⟩ (.slice none 0 0) := by subst hW; exact (by refine ⟨?_, ?_, ?_, ?_, ?_, ?_, ?_, ?_, ?_, ?_, ?_⟩ <;> first | (simp [go_sem]; done) | (simp; omega))
  have hf : ∀ o, W.frozen? ⟨w.heap.size, o, none⟩ = false := fun o => by subst hW; simp [go_sem]
  clear hW
  refine (HN.out W).mono ?_
  rintro e w2 ⟨v2, rfl, ho2, hb2⟩
  rw [HL.out] at ho2
  obtain ⟨g, cap, rfl, _⟩ := own_read ho2 hq0
  have hx3 := c10_on hx hb2
  have hf3 : ∀ o, w2.frozen? ⟨w.heap.size, o, none⟩ = false := fun o => ((bcell hb2).2 _ o hx.1).trans (hf o)
  have hw3 := below_on hw hb2
  obtain ⟨x0, c0, c1, c2, c3, c4, c5, c6, c7, c8, c9⟩ := id hx3
  clear ho2 hb2 hx hf hw
  go_upto_region 20 with fail
  generalize hW7 : World.setCell _ _ _ = W7
  obtain ⟨hx7, hb7⟩ := put10b (g := ⟨0, 0, 0, 0, 0, 0, 0, 0, 0⟩) hx3 hW7
  have hww7 := hw3.trans (hb7 w.heap.size (Nat.le_refl _))
  obtain ⟨z0, k0, k1, k2, k3, k4, k5, k6, k7, k8, k9⟩ := hx7
  clear hW7 x0 c0 c1 c2 c3 c4 c5 c6 c7 c8 c9
  go_wp2
  refine bodyPost_ret (v := .tuple #[.agg #[.int .i64 0, .int .i64 0, .int .i64 0, .int .i64 0, .int .i64 0, .int .i64 0, .int .i64 0, .int .i64 0, .int .i64 0, .slice none 0 0], .bool false]) (by simp [results, Tryd.results53, go_sem, k0, k1, k2, k3, k4, k5, k6, k7, k8, k9]) rfl ⟨rfl, hww7⟩

/-- The nodes of a list joined from the first one on. -/
def jn (b : Bool) : Value → List Value → Value
  | x, [] => x
  | x, y :: r => jn b (.iface 100 (.agg #[.bool b, x, y])) r
theorem jn_snoc (b : Bool) : ∀ (L : List Value) (x y : Value), jn b x (L ++ [y]) = .iface 100 (.agg #[.bool b, jn b x L, y]) := by
  intro L
  induction L with
  | nil => intro x y; rfl
  | cons z r ih => intro x y; exact ih _ y
theorem jn_iface (b : Bool) : ∀ (L : List Value) (x : Value), (∃ t y, x = .iface t y) → ∃ t y, jn b x L = .iface t y := by
  intro L
  induction L with
  | nil => intro x h; exact h
  | cons z r ih => intro x _; exact ih _ ⟨_, _, rfl⟩

def JoT (v : Value) (w : World) (e : Ending) (w' : World) : Prop := e = .returned v ∧ Below w.heap.size w w'

theorem joined_nil (b : Bool) (sp : Option Addr) (cap : Nat) (w : World) : Calls Tryd.prog 54 #[.bool b, .slice sp 0 cap] w (JoT (.iface 98 (.agg #[.bool b])) w) := by
  go_enter Tryd.func54, Tryd.ntmps54
  go_wp2
  go_ret
  exact ⟨rfl, Below.refl _ _⟩

set_option maxHeartbeats 1000000 in
theorem joined_any (b : Bool) (g cap : Nat) (x : Value) (L : List Value) (w : World) (hcap : L.length + 1 ≤ cap) (hm : cap ≤ maxLen) (hx : ∃ t y, x = .iface t y) (hL : ∀ z ∈ L, ∃ t y, z = .iface t y) (hc : ∀ j, j < L.length + 1 → w.cell? ⟨g, j, none⟩ = (x :: L)[j]?) :
    Calls Tryd.prog 54 #[.bool b, .slice (some ⟨g, 0, none⟩) (L.length + 1) cap] w (JoT (jn b x L) w) := by
  obtain ⟨n, hn⟩ : ∃ n, L.length = n := ⟨_, rfl⟩
  have HN := Lib.hid hn
  have HX := Lib.hid hx
  have HC := Lib.hid hc
  have HI := Lib.hid hL
  have hc0 : w.cell? ⟨g, 0, none⟩ = some x := hc 0 (by omega)
  rw [hn] at hcap ⊢
  unfold maxLen at hm
  obtain ⟨t, y, rfl⟩ := hx
  clear hn hc hL
  by_cases hc1 : cap = 1
  · obtain rfl : n = 0 := by omega
    subst hc1
    have hl : L = [] := List.length_eq_zero_iff.1 HN.out
    subst hl
    go_enter Tryd.func54, Tryd.ntmps54
    go_wp2
    refine wp_loop_rounds 1 ?_
    rw [rounds_succ]
    go_wp2
    go_ret
    exact ⟨rfl, Below.refl _ _⟩
  · go_enter Tryd.func54, Tryd.ntmps54
    go_wp2
    go_loopw [5, 20] (fun cur i wr => ∃ k : Nat, i = .int .i64 k ∧ k ≤ n ∧ cur = jn b (.iface t y) (L.take k) ∧ w = wr) (fun _ i _ => n - (intOf i).toNat)
    case atStart => exact ⟨0, rfl, Nat.zero_le _, rfl, rfl⟩
    case round =>
      obtain ⟨k, rfl, hk, hcur, rfl⟩ := hrel
      obtain ⟨ct, cy, hci⟩ := jn_iface b (L.take k) (.iface t y) ⟨_, _, rfl⟩
      rw [hci] at hcur
      subst hcur
      have HCI := Lib.hid hci
      by_cases hlt : k < n
      · have hk' : (k : Int) < (n : Int) := by omega
        obtain ⟨z, hz⟩ : ∃ z, L[k]? = some z := ⟨_, List.getElem?_eq_getElem (by rw [HN.out]; exact hlt)⟩
        obtain ⟨zt, zy, rfl⟩ := HI.out z (List.mem_of_getElem? hz)
        have hcell : w.cell? ⟨g, 1 + k, none⟩ = some (.iface zt zy) := by
          have := HC.out (k + 1) (by rw [HN.out]; omega)
          rw [List.getElem?_cons_succ, hz] at this
          rw [Nat.add_comm]
          exact this
        have HT := Lib.hid (show jn b (.iface t y) (L.take (k + 1)) = .iface 100 (.agg #[.bool b, .iface ct cy, .iface zt zy]) by
          rw [List.take_add_one, hz, ← hci]
          exact jn_snoc b _ _ _)
        clear hz hci
        go_wp2
        go_roundw
        case rel => exact ⟨k + 1, by go_num, by omega, HT.out.symm, trivial⟩
        case measure => simp [intOf]; omega
      · have hk' : ¬ (k : Int) < (n : Int) := by omega
        obtain rfl : k = n := by omega
        go_wp2
        go_ret
        refine ⟨?_, Below.refl _ _⟩
        have h1 := HCI.out
        rw [← HN.out, List.take_length] at h1
        rw [h1]; rfl

end Go.Proofs.YtmkflokcficmoaaDoor

/- Formulas joined from the first one on, as data. -/
namespace Go.Proofs.YtmkflokcficmoaaDoor
open Go.RowKit

def jH (b : Bool) : FH := ⟨if b then 4 else 5, 0, 0, 0, 0, 0, 0, 0, 0⟩
/-- The formula (h, s) joined with those of a list. -/
def jF (b : Bool) : Fo → FH → Fo → FH × Fo
  | .nil, h, s => (h, s)
  | .cons h2 s2 r, h, s => jF b r (jH b) (.cons h s (.cons h2 s2 .nil))
/-- The formulas of a list joined. -/
def jA (b : Bool) : Fo → FH × Fo
  | .nil => (⟨if b then 0 else 1, 0, 0, 0, 0, 0, 0, 0, 0⟩, .nil)
  | .cons h s r => jF b r h s
def jB (b : Bool) (f : Fo) : Bool := f.okB && decide ((jA b f).2.size + 1 ≤ 600)

theorem jH_own (b : Bool) : ownB (jH b) 2 = true := by cases b <;> decide
theorem jF_ok (b : Bool) : ∀ (r : Fo) (h : FH) (s : Fo), ownB h s.len = true → s.okB = true → r.okB = true →
    ownB (jF b r h s).1 (jF b r h s).2.len = true ∧ (jF b r h s).2.okB = true ∧ (jF b r h s).2.size = s.size + r.size + r.len := by
  intro r
  induction r with
  | nil => intro h s h1 h2 _; exact ⟨h1, h2, by simp [jF, Fo.size, Fo.len]⟩
  | cons h2 s2 r _ ih =>
    intro h s h1 hs hr
    simp only [Fo.okB, Bool.and_eq_true] at hr
    obtain ⟨a1, a2, a3⟩ := ih (jH b) (.cons h s (.cons h2 s2 .nil)) (jH_own b) (by simp [Fo.okB, h1, hs, hr.1.1, hr.1.2]) hr.2
    refine ⟨a1, a2, ?_⟩
    show (jF b r (jH b) (.cons h s (.cons h2 s2 .nil))).2.size = _
    rw [a3]
    simp only [Fo.size, Fo.len]
    omega
theorem jF_nd (b : Bool) : ∀ (r : Fo) (h : FH) (s : Fo), nd1 (jF b r h s).1 (jF b r h s).2.nds = jn b (nd1 h s.nds) r.nds := by
  intro r
  induction r with
  | nil => intro h s; rfl
  | cons h2 s2 r _ ih =>
    intro h s
    show nd1 (jF b r (jH b) (.cons h s (.cons h2 s2 .nil))).1 (jF b r (jH b) (.cons h s (.cons h2 s2 .nil))).2.nds = _
    rw [ih]
    have e : nd1 (jH b) (Fo.cons h s (.cons h2 s2 .nil)).nds = .iface 100 (.agg #[.bool b, nd1 h s.nds, nd1 h2 s2.nds]) := by
      cases b <;> rfl
    rw [e]
    rfl
theorem jA_ok (b : Bool) {f : Fo} (hok : f.okB = true) : ownB (jA b f).1 (jA b f).2.len = true ∧ (jA b f).2.okB = true ∧ f.size ≤ (jA b f).2.size + 1 ∧ (jA b f).2.size ≤ f.size + f.len := by
  cases f with
  | nil => refine ⟨?_, rfl, by simp [jA, Fo.size], by simp [jA, Fo.size]⟩; cases b <;> decide
  | cons h s r =>
    simp only [Fo.okB, Bool.and_eq_true] at hok
    obtain ⟨a1, a2, a3⟩ := jF_ok b r h s hok.1.1 hok.1.2 hok.2
    refine ⟨a1, a2, ?_, ?_⟩
    · show _ ≤ (jF b r h s).2.size + 1
      rw [a3]; simp only [Fo.size]; omega
    · show (jF b r h s).2.size ≤ _
      rw [a3]; simp only [Fo.size, Fo.len]; omega

/-- The node of the joined formula. -/
def jV (b : Bool) (L : List Value) : Value := match L with
  | [] => .iface 98 (.agg #[.bool b])
  | x :: r => jn b x r
theorem jA_nd (b : Bool) (f : Fo) : nd1 (jA b f).1 (jA b f).2.nds = jV b f.nds := by
  cases f with
  | nil => cases b <;> rfl
  | cons h s r => exact jF_nd b r h s
theorem nds_iface (f : Fo) : ∀ z ∈ f.nds, ∃ t y, z = .iface t y := by
  induction f with
  | nil => intro z hz; simp [Fo.nds] at hz
  | cons h s r _ ih =>
    intro z hz
    simp only [Fo.nds, List.mem_cons] at hz
    rcases hz with rfl | hz
    · exact nd1_iface h s.nds
    · exact ih z hz
/-- joined at a list of nodes that a call has made. -/
theorem joined_own (b : Bool) (f : Fo) (base : Nat) (v : Value) (w : World) (h : w.ownsRow base 79 1 v f.len f.nds) : Calls Tryd.prog 54 #[.bool b, v] w (JoT (nd1 (jA b f).1 (jA b f).2.nds) w) := by
  rw [jA_nd]
  cases f with
  | nil =>
    rcases h.2 with ⟨rfl, _⟩ | ⟨g, cap, cur, rfl, _⟩
    · exact joined_nil b _ _ w
    · exact joined_nil b _ _ w
  | cons h1 s1 r =>
    obtain ⟨g, cap, rfl, hc1, hc2, _, _, hcell⟩ := own_read h (by simp [Fo.len])
    have hl : r.nds.length = r.len := nds_len r
    have := joined_any b g cap (nd1 h1 s1.nds) r.nds w (by rw [hl]; simpa [Fo.len] using hc1) hc2 (nd1_iface h1 s1.nds) (nds_iface r) (fun j hj => hcell j (by rw [hl] at hj; simpa [Fo.len] using hj))
    rw [hl] at this
    exact this

def JfT (b : Bool) (f : Fo) (w : World) (e : Ending) (w' : World) : Prop :=
  if jB b f = true then ∃ s, e = .returned (.tuple #[.agg #[.int .i64 (jA b f).1.k, .int .i64 (jA b f).1.ak, .int .i64 (jA b f).1.am, .int .i64 (jA b f).1.a, .int .i64 (jA b f).1.b, .int .i64 (jA b f).1.c, .int .i64 (jA b f).1.d, .int .i64 (jA b f).1.n, .int .i64 (jA b f).1.v, s], .bool true]) ∧ SF w' w.heap.size w'.heap.size (jA b f).2 s ∧ Below w.heap.size w w' else VnT w e w'

end Go.Proofs.YtmkflokcficmoaaDoor

/- The contract of joinFormulas, JoinAll and JoinAny of the program. -/
namespace Go.Proofs.YtmkflokcficmoaaDoor
open Go.RowKit

def JmR (f : Fo) (b o lo : Nat) (w : World) (v i : Value) (wr : World) : Prop :=
  ∃ (k l : Nat) (pre r : Fo), i = .int .i64 k ∧ pre.len = k ∧ pre.app r = f ∧ pre.okB = true ∧ l + pre.size = 600 ∧ wr.cell? ⟨w.heap.size + 1, 0, none⟩ = some (.int .i64 l) ∧ wr.frozen? ⟨w.heap.size + 1, 0, none⟩ = false ∧ Below w.heap.size w wr ∧ C10 wr w.heap.size ⟨0, 0, 0, 0, 0, 0, 0, 0, 0⟩ (.slice none 0 0) ∧ (∀ o, wr.frozen? ⟨w.heap.size, o, none⟩ = false) ∧
    wr.ownsRow (w.heap.size + 2) 79 1 v k pre.nds ∧ FEl w lo r b (o + k * 10)

theorem jB_no {b : Bool} {f : Fo} (h : f.okB = true → 600 < f.size) : jB b f = false := by
  unfold jB
  cases hk : f.okB with
  | false => rfl
  | true =>
    have h1 := h hk
    have h2 := (jA_ok b hk).2.2.1
    simp
    omega

set_option maxRecDepth 10000 in
set_option maxHeartbeats 2000000 in
/-- Behind the loop: the nodes are joined, and the formula is made. -/
theorem joinFormulas_any (bb : Bool) (f : Fo) (w : World) (lo : Nat) (s : Value) (hs : FS w lo f s) : Calls Tryd.prog 35 #[.bool bb, s] w (JfT bb f w) := by
  have HS := Lib.hid hs
  obtain ⟨sa, sn, sc, rfl, hn⟩ : ∃ a n c, s = .slice a n c ∧ n = f.len := by
    rcases hs with ⟨h0, x, cap, e, _⟩ | ⟨_, b, o, cap, e, _⟩
    · exact ⟨_, _, _, e, h0.symm⟩
    · exact ⟨_, _, _, e, rfl⟩
  subst hn
  clear hs
  obtain ⟨i0, hi, hz0, hz1, hz2⟩ := info_parts Tryd.infoNode
  have HZ := Lib.hid (And.intro hi (And.intro hz0 (And.intro hz1 hz2)))
  clear hi hz0 hz1 hz2
  go_enter Tryd.func35, Tryd.ntmps35
  go_wp2_with fail
  generalize hW : World.alloc _ _ = W
  have hw : Below w.heap.size w W := by subst hW; go_grown
  have hx : C10 W w.heap.size ⟨0, 0, 0, 0, 0, 0, 0, 0, 0⟩ (.slice none 0 0) := by subst hW; exact (by refine ⟨?_, ?_, ?_, ?_, ?_, ?_, ?_, ?_, ?_, ?_, ?_⟩ <;> first | (simp [go_sem]; done) | (simp; omega))
  have hf : ∀ o, W.frozen? ⟨w.heap.size, o, none⟩ = false := fun o => by subst hW; simp [go_sem]
  have hcW : W.cell? ⟨w.heap.size + 1, 0, none⟩ = some (.int .i64 (600 : Nat)) := by subst hW; simp [go_sem]
  have hfW : W.frozen? ⟨w.heap.size + 1, 0, none⟩ = false := by subst hW; simp [go_sem]
  have hsW : w.heap.size + 1 < W.heap.size := by subst hW; simp
  clear hW
  have hst : ∃ b o, JmR f b o lo w (.slice none 0 0) (.int .i64 0) W ∧ (0 < f.len → sa = some ⟨b, o, none⟩ ∧ sc ≤ maxLen ∧ f.len ≤ sc ∧ lo ≤ b ∧ b < w.heap.size) := by
    rcases HS.out with ⟨h0, _⟩ | ⟨h0, b, o, cap, e, hcc1, hcc2, hlo, hb, hel⟩
    · obtain rfl : f = .nil := Fo.len_zero h0
      exact ⟨0, 0, ⟨0, 600, .nil, .nil, rfl, rfl, rfl, rfl, rfl, hcW, hfW, hw, hx, hf, World.ownsRow_nil _ _ _ _, trivial⟩, fun h => absurd h (by omega)⟩
    · injection e with e1 e2 e3
      subst e1 e3
      exact ⟨b, o, ⟨0, 600, .nil, f, rfl, rfl, rfl, rfl, rfl, hcW, hfW, hw, hx, hf, World.ownsRow_nil _ _ _ _, by simpa using hel⟩, fun _ => ⟨rfl, hcc2, hcc1, hlo, hb⟩⟩
  obtain ⟨b, o, hst, hsh⟩ := hst
  have HST := Lib.hid hst
  have HSH := Lib.hid hsh
  clear hst hsh hw hx hf hcW hfW
  go_loopw [7, 14] (fun v i wr => JmR f b o lo w v i wr) (fun _ i _ => f.len - (intOf i).toNat)
  case atStart => exact HST.out
  case round =>
    obtain ⟨k, l, pre, r, rfl, hpl, hap, hok, hlq, hcr, hfr, hgr, hxr, hzf, hown, hr⟩ := hrel
    clear HST
    have HAP := Lib.hid hap
    have HPL := Lib.hid hpl
    have HOK := Lib.hid hok
    have HLQ := Lib.hid hlq
    have hll : l ≤ 600 := by omega
    have hk6 : k ≤ 600 := by have := Fo.len_le pre; omega
    have hklen : k + r.len = f.len := by rw [← hap, Fo.app_len, hpl]
    have HKL := Lib.hid hklen
    clear hap hpl hok hlq
    cases r with
    | nil =>
      simp only [Fo.len, Nat.add_zero] at hklen
      have hkl : ¬ k < f.len := by omega
      have e : pre = f := by have := HAP.out; rwa [Fo.app_nil] at this
      subst e
      have HJ := Lib.hid (joined_own bb pre (w.heap.size + 2) _ wr (by rw [HPL.out]; exact hown))
      obtain ⟨hjo, hjk, hj1, hj2⟩ := jA_ok bb HOK.out
      have hjs : (jA bb pre).2.size ≤ 100000 := by have := Fo.len_le pre; have := HLQ.out; omega
      have HXR := Lib.hid hxr
      have HZF := Lib.hid hzf
      have HGR := Lib.hid hgr
      clear hcr hfr hown hklen hr
      by_cases hyes : (jA bb pre).2.size + 1 ≤ 600
      · have HB := Lib.hid (show jB bb pre = true by unfold jB; rw [HOK.out]; simpa using hyes)
        have HV := Lib.hid (fun W => vf_yes (jA bb pre).1 (jA bb pre).2 W hjo hjk hyes)
        obtain ⟨q, hq⟩ : ∃ q, jA bb pre = q := ⟨_, rfl⟩
        have HQ := Lib.hid hq
        rw [hq] at HJ HV
        obtain ⟨t, y, e⟩ := nd1_iface q.1 q.2.nds
        rw [e] at HJ HV
        clear hjo hjk hj1 hj2 hjs hyes hq e
        obtain ⟨x0, c0, c1, c2, c3, c4, c5, c6, c7, c8, c9⟩ := id hxr
        go_wp2_with fail
        refine HJ.out.mono ?_
        rintro e w2 ⟨rfl, hb2⟩
        go_wp2_with fail
        refine (HV.out w2).mono ?_
        rintro e w3 ⟨s3, rfl, hs3, hb3⟩
        obtain ⟨ta, tn, tc, rfl⟩ := hs3.slice
        have HS3 := Lib.hid hs3
        have hb23 := below_on hb2 hb3
        have hx3 := c10_on HXR.out hb23
        have hf3 : ∀ o, w3.frozen? ⟨w.heap.size, o, none⟩ = false := fun o => ((bcell hb23).2 _ o HXR.out.1).trans (HZF.out o)
        have hw3 := below_on HGR.out hb23
        have hws : w.heap.size < w2.heap.size := Nat.lt_of_lt_of_le HXR.out.1 hb2.size
        clear x0 c0 c1 c2 c3 c4 c5 c6 c7 c8 c9 hs3 hb2 hb3 hb23 hxr hzf hgr
        obtain ⟨x0, c0, c1, c2, c3, c4, c5, c6, c7, c8, c9⟩ := id hx3
        go_upto_region 20 with fail
        generalize hW7 : World.setCell _ _ _ = W7
        have hblk7 : ∀ x, x ≠ w.heap.size → W7.heap[x]? = w3.heap[x]? := fun x hx => by subst hW7; repeat rw [Below.heap_setCell _ _ _ _ (by dsimp only; omega)]
        have hsz7 : W7.heap.size = w3.heap.size := by subst hW7; simp [World.setCell]
        obtain ⟨hx7, hb7⟩ := put10b (g := q.1) hx3 hW7
        have hww7 := hw3.trans (hb7 w.heap.size (Nat.le_refl _))
        have HS7 : Hid (SF W7 w.heap.size W7.heap.size q.2 (.slice ta tn tc)) := by
          have h0 := SF.same (w' := W7) (fun x h1 _ => hblk7 x (by omega)) HS3.out
          exact SF.mono (by omega) (by omega) h0
        obtain ⟨z0, k0, k1, k2, k3, k4, k5, k6, k7, k8, k9⟩ := hx7
        clear hW7 x0 c0 c1 c2 c3 c4 c5 c6 c7 c8 c9 hblk7
        go_wp2
        refine bodyPost_ret (v := .tuple #[.agg #[.int .i64 q.1.k, .int .i64 q.1.ak, .int .i64 q.1.am, .int .i64 q.1.a, .int .i64 q.1.b, .int .i64 q.1.c, .int .i64 q.1.d, .int .i64 q.1.n, .int .i64 q.1.v, .slice ta tn tc], .bool true]) (by simp [results, Tryd.results35, go_sem, k0, k1, k2, k3, k4, k5, k6, k7, k8, k9]) rfl ?_
        unfold JfT
        rw [if_pos HB.out, HQ.out]
        exact ⟨_, rfl, HS7.out, hww7⟩
      · have HB := Lib.hid (show jB bb pre = false by unfold jB; rw [HOK.out]; simpa using hyes)
        have HV := Lib.hid (fun W => vf_no (jA bb pre).1 (jA bb pre).2 W hjo hjk (by omega) hjs)
        obtain ⟨t, y, e⟩ := nd1_iface (jA bb pre).1 (jA bb pre).2.nds
        rw [e] at HJ HV
        clear hjo hjk hj1 hj2 hjs hyes e
        obtain ⟨x0, c0, c1, c2, c3, c4, c5, c6, c7, c8, c9⟩ := id hxr
        go_wp2_with fail
        refine HJ.out.mono ?_
        rintro e w2 ⟨rfl, hb2⟩
        go_wp2_with fail
        refine (HV.out w2).mono ?_
        rintro e w3 ⟨rfl, hb3⟩
        have hb23 := below_on hb2 hb3
        have hx3 := c10_on HXR.out hb23
        have hf3 : ∀ o, w3.frozen? ⟨w.heap.size, o, none⟩ = false := fun o => ((bcell hb23).2 _ o HXR.out.1).trans (HZF.out o)
        have hw3 := below_on HGR.out hb23
        clear x0 c0 c1 c2 c3 c4 c5 c6 c7 c8 c9 hb2 hb3 hb23 hxr hzf hgr
        obtain ⟨x0, c0, c1, c2, c3, c4, c5, c6, c7, c8, c9⟩ := id hx3
        go_upto_region 20 with fail
        generalize hW7 : World.setCell _ _ _ = W7
        obtain ⟨hx7, hb7⟩ := put10b (g := ⟨0, 0, 0, 0, 0, 0, 0, 0, 0⟩) hx3 hW7
        have hww7 := hw3.trans (hb7 w.heap.size (Nat.le_refl _))
        obtain ⟨z0, k0, k1, k2, k3, k4, k5, k6, k7, k8, k9⟩ := hx7
        clear hW7 x0 c0 c1 c2 c3 c4 c5 c6 c7 c8 c9
        go_wp2
        refine bodyPost_ret (v := .tuple #[.agg #[.int .i64 0, .int .i64 0, .int .i64 0, .int .i64 0, .int .i64 0, .int .i64 0, .int .i64 0, .int .i64 0, .int .i64 0, .slice none 0 0], .bool false]) (by simp [results, Tryd.results35, go_sem, k0, k1, k2, k3, k4, k5, k6, k7, k8, k9]) rfl ?_
        unfold JfT
        rw [if_neg (by rw [HB.out]; simp)]
        exact ⟨rfl, hww7⟩
    | cons h' s' r' =>
      simp only [Fo.len] at hklen
      have hkl : k < f.len := by omega
      obtain ⟨rfl, hcc2, hcc1, hlo, hb⟩ := HSH.out (by omega)
      unfold maxLen at hcc2
      have hbr := hgr
      have HR := Lib.hid hr.2
      obtain ⟨sl, hrow, hsl⟩ := hr.1
      have hcb : ∀ o, wr.cell? ⟨b, o, none⟩ = w.cell? ⟨b, o, none⟩ := fun o => hbr.cell (p := ⟨b, o, none⟩) hb
      have d0 := (hcb _).trans hrow.1
      have d1 := (hcb _).trans hrow.2.1
      have d2 := (hcb _).trans hrow.2.2.1
      have d3 := (hcb _).trans hrow.2.2.2.1
      have d4 := (hcb _).trans hrow.2.2.2.2.1
      have d5 := (hcb _).trans hrow.2.2.2.2.2.1
      have d6 := (hcb _).trans hrow.2.2.2.2.2.2.1
      have d7 := (hcb _).trans hrow.2.2.2.2.2.2.2.1
      have d8 := (hcb _).trans hrow.2.2.2.2.2.2.2.2.1
      have d9 := (hcb _).trans hrow.2.2.2.2.2.2.2.2.2
      obtain ⟨ga, gn, gc, rfl⟩ : ∃ a n c, sl = .slice a n c := FS.slice (w := w) (lo := lo) (f := s') hsl
      have HL := Lib.hid (lim_any h' s' w)
      have HSL := Lib.hid (show FS w lo s' (.slice ga gn gc) from hsl)
      have HBR := Lib.hid hbr
      have HGR := Lib.hid hgr
      have HXR := Lib.hid hxr
      have HOW := Lib.hid hown
      have hpw : w.heap.size + 1 < wr.heap.size := World.block_lt_of_cell? wr _ hcr
      have hws : w.heap.size < wr.heap.size := hxr.1
      have HZF := Lib.hid hzf
      clear hcb hrow hsl hr hbr hgr hxr hown hzf
      go_wp2_with fail
      generalize hW2 : wr.alloc _ = W2
      have hb2 : Below wr.heap.size wr W2 := by subst hW2; go_grown
      have hs2 : wr.heap.size < W2.heap.size := by subst hW2; simp
      have hc2 : W2.cell? ⟨w.heap.size + 1, 0, none⟩ = some (.int .i64 l) := ((bcell hb2).1 (w.heap.size + 1) 0 hpw).trans hcr
      have hf2 : W2.frozen? ⟨w.heap.size + 1, 0, none⟩ = false := ((bcell hb2).2 (w.heap.size + 1) 0 hpw).trans hfr
      have HG2 := Lib.hid (below_on HGR.out hb2)
      have HZ2 := Lib.hid (show ∀ o, W2.frozen? ⟨w.heap.size, o, none⟩ = false from fun o => ((bcell hb2).2 _ o hws).trans (HZF.out o))
      have HX2 := Lib.hid (c10_on HXR.out hb2)
      have HO2 := Lib.hid (own_below (show wr.ownsRow (w.heap.size + 2) 79 1 _ k pre.nds from HOW.out) hb2)
      have HCALL := Lib.hid (HL.out W2 lo (w.heap.size + 1) l (.slice ga gn gc) HSL.out (below_on HBR.out hb2) (by omega) (by omega) hll hc2 hf2)
      clear hW2 hb2 hc2 hf2 d0 d1 d2 d3 d4 d5 d6 d7 d8 d9 hcr hfr
      refine HCALL.out.mono ?_
      intro e w3 hpost
      unfold LimPost at hpost
      by_cases hcond : (ownB h' s'.len && s'.okB) = true ∧ s'.size + 1 ≤ l
      · rw [if_pos hcond] at hpost
        obtain ⟨rfl, hg3, hc3, hf3⟩ := hpost
        obtain ⟨t, y, hnd⟩ := nd1_iface h' s'.nds
        rw [hnd]
        have HND := Lib.hid hnd
        have HCOND := Lib.hid hcond
        have HG3 := Lib.hid (below_gp HG2.out hg3 (by omega))
        have HZ3 := Lib.hid (show ∀ o, w3.frozen? ⟨w.heap.size, o, none⟩ = false from fun o => (World.frozen?_of_block (a := ⟨w.heap.size, o, none⟩) (hg3.block w.heap.size (by omega) (by intro e; injection e with e; omega))).trans (HZ2.out o))
        have HX3 := Lib.hid (gp_cells hg3 HX2.out (by omega))
        have hown3 := HO2.out.kept hg3 (own_off HO2.out (by omega))
        have HC3 := Lib.hid hc3
        have HF3 := Lib.hid hf3
        have hp3 : w.heap.size + 1 < w3.heap.size := Nat.lt_of_lt_of_le (by omega) hg3.size
        have hs3 : w.heap.size + 2 ≤ w3.heap.size := Nat.le_trans (by omega) hg3.size
        clear hcond hg3 hc3 hf3 hnd
        obtain ⟨hi, hz0, hz1, hz2⟩ := HZ.out
        go_wp2_with (at_builtin; refine wpList_append_own _ rfl _ _ 77 rfl (w.heap.size + 2) 79 i0 .nilIface 1 16 Tryd.underlying77 hi hz0 hz1 hz2 rfl (by decide) _ _ _ rfl (hown3.alloc _) ⟨w3.heap.size, 0, none⟩ 1 1 [.iface t y] rfl rfl ?c1 ?c2 ?c3 ?c4 ?c5 ?_)
        case c1 =>
          intro j u hj
          match j, hj with
          | 0, hj => simp at hj; subst hj; simp [Addr.add]
        case c2 => intro u hu; simp at hu; subst hu; rfl
        case c3 => unfold maxLen; omega
        case c4 => omega
        case c5 => simp; omega
        · intro v' w4 hown4 hgrow _
          have hal : ∀ j, j < w3.heap.size → (w3.alloc (.cells #[.iface t y] 79)).heap[j]? = w3.heap[j]? := fun j hj => Below.heap_alloc _ _ _ hj
          have hblk : ∀ j, j < w.heap.size + 2 → w4.heap[j]? = w3.heap[j]? := fun j hj =>
            (grown_lt (hown3.alloc (.cells #[.iface t y] 79)) hgrow (by simp; omega) hj).trans (hal j (by omega))
          have hsz4 : w3.heap.size ≤ w4.heap.size := Nat.le_trans (by simp) hgrow.size
          have hb34 : Below w.heap.size w3 w4 := ⟨hgrow.os, hgrow.tape, hgrow.output, hsz4, fun j hj => hblk j (by omega)⟩
          have hc4 : w4.cell? ⟨w.heap.size + 1, 0, none⟩ = _ := (World.cell?_of_block (hblk (w.heap.size + 1) (by omega))).trans HC3.out
          have hf4 : w4.frozen? ⟨w.heap.size + 1, 0, none⟩ = _ := (World.frozen?_of_block (hblk (w.heap.size + 1) (by omega))).trans HF3.out
          have HX4 := Lib.hid (c10_block hsz4 (hblk w.heap.size (by omega)) HX3.out)
          have HG4 := Lib.hid (HG3.out.trans hb34)
          have HZ4 := Lib.hid (show ∀ o, w4.frozen? ⟨w.heap.size, o, none⟩ = false from fun o => (World.frozen?_of_block (a := ⟨w.heap.size, o, none⟩) (hblk w.heap.size (by omega))).trans (HZ3.out o))
          have HC4 := Lib.hid hc4
          have HF4 := Lib.hid hf4
          have HN : Hid (w4.ownsRow (w.heap.size + 2) 79 1 v' (k + 1) (pre.app (.cons h' s' .nil)).nds) := by
            show w4.ownsRow _ _ _ _ _ _
            rw [nds_app]
            simp only [Fo.nds]
            rw [HND.out]
            exact hown4
          clear hown3 hown4 hgrow hal hblk hb34 hc4 hf4 hi hz0 hz1 hz2
          go_wp2
          go_roundw
          case rel =>
            have q1 := HCOND.out
            have q2 := HLQ.out
            refine ⟨k + 1, l - (s'.size + 1), pre.app (.cons h' s' .nil), r', by go_num, by rw [Fo.app_len, HPL.out]; rfl, by rw [Fo.app_assoc]; exact HAP.out, ?_, ?_, HC4.out, HF4.out, HG4.out, HX4.out, HZ4.out, HN.out, by rw [show o + (k + 1) * 10 = o + k * 10 + 10 by omega]; exact HR.out⟩
            · rw [okB_app, HOK.out]; simp only [Fo.okB, Bool.and_true, Bool.true_and]; exact q1.1
            · rw [size_app]; simp only [Fo.size]; omega
          case measure => simp [intOf]; omega
      · rw [if_neg hcond] at hpost
        obtain ⟨rfl, hg3⟩ := hpost
        have HB := Lib.hid (show jB bb f = false from jB_no fun q1 => by
          have q3 := HAP.out
          have q4 := HLQ.out
          rw [← q3, okB_app] at q1
          simp only [Fo.okB, Bool.and_eq_true] at q1
          rw [← q3, size_app]
          simp only [Fo.size]
          have q5 : ¬ s'.size + 1 ≤ l := fun q => hcond ⟨by simp only [Bool.and_eq_true]; exact q1.2.1, q⟩
          omega)
        have hw3 := below_gp HG2.out hg3 (by omega)
        have hx3 := gp_cells hg3 HX2.out (by omega)
        have hf3 : ∀ o, w3.frozen? ⟨w.heap.size, o, none⟩ = false := fun o => (World.frozen?_of_block (a := ⟨w.heap.size, o, none⟩) (hg3.block w.heap.size (by omega) (by intro e; injection e with e; omega))).trans (HZ2.out o)
        clear hcond hg3
        obtain ⟨x0, c0, c1, c2, c3, c4, c5, c6, c7, c8, c9⟩ := id hx3
        go_upto_region 20 with fail
        generalize hW7 : World.setCell _ _ _ = W7
        obtain ⟨hx7, hb7⟩ := put10b (g := ⟨0, 0, 0, 0, 0, 0, 0, 0, 0⟩) hx3 hW7
        have hww7 := hw3.trans (hb7 w.heap.size (Nat.le_refl _))
        obtain ⟨z0, k0, k1, k2, k3, k4, k5, k6, k7, k8, k9⟩ := hx7
        clear hW7 x0 c0 c1 c2 c3 c4 c5 c6 c7 c8 c9
        go_wp2
        refine bodyPost_ret (v := .tuple #[.agg #[.int .i64 0, .int .i64 0, .int .i64 0, .int .i64 0, .int .i64 0, .int .i64 0, .int .i64 0, .int .i64 0, .int .i64 0, .slice none 0 0], .bool false]) (by simp [results, Tryd.results35, go_sem, k0, k1, k2, k3, k4, k5, k6, k7, k8, k9]) rfl ?_
        unfold JfT
        rw [if_neg (by rw [HB.out]; simp)]
        exact ⟨rfl, hww7⟩


end Go.Proofs.YtmkflokcficmoaaDoor

/- Contracts of the program's JoinAll and JoinAny. -/
namespace Go.Proofs.YtmkflokcficmoaaDoor
open Go.RowKit

set_option maxRecDepth 10000 in
set_option maxHeartbeats 2000000 in
theorem JoinAny_any (f : Fo) (w : World) (lo : Nat) (s : Value) (hs : FS w lo f s) : Calls Tryd.prog 17 #[s] w (JfT false f w) := by
  have HC := Lib.hid (fun W hW => joinFormulas_any false f W lo s (FS.below (w := w) hW (Nat.le_refl _) hs))
  obtain ⟨sa, sn, sc, rfl⟩ := hs.slice
  clear hs
  go_enter Tryd.func17, Tryd.ntmps17
  go_wp2_with fail
  generalize hW : World.alloc _ _ = W
  have hw : Below w.heap.size w W := by subst hW; go_grown
  have hx : C10 W w.heap.size ⟨0, 0, 0, 0, 0, 0, 0, 0, 0⟩ (.slice none 0 0) := by subst hW; exact (by refine ⟨?_, ?_, ?_, ?_, ?_, ?_, ?_, ?_, ?_, ?_, ?_⟩ <;> first | (simp [go_sem]; done) | (simp; omega))
  have hf : ∀ o, W.frozen? ⟨w.heap.size, o, none⟩ = false := fun o => by subst hW; simp [go_sem]
  clear hW
  refine (HC.out W hw).mono ?_
  intro e w3 hpost
  unfold JfT at hpost
  cases hj : jB false f with
  | true =>
    have HJB := Lib.hid hj
    clear hj
    rw [if_pos HJB.out] at hpost
    obtain ⟨s3, rfl, hs3, hb3⟩ := hpost
    obtain ⟨q, hq⟩ : ∃ q, jA false f = q := ⟨_, rfl⟩
    have HQ := Lib.hid hq
    rw [hq] at hs3 ⊢
    obtain ⟨ta, tn, tc, rfl⟩ := hs3.slice
    have HS3 := Lib.hid hs3
    clear hs3 hq
    have hx3 := c10_on hx hb3
    have hf3 : ∀ o, w3.frozen? ⟨w.heap.size, o, none⟩ = false := fun o => ((bcell hb3).2 _ o hx.1).trans (hf o)
    have hw3 := below_on hw hb3
    have hws := hx.1
    obtain ⟨x0, c0, c1, c2, c3, c4, c5, c6, c7, c8, c9⟩ := id hx3
    clear hb3 hx hf hw
    go_upto_region 20 with fail
    generalize hW7 : World.setCell _ _ _ = W7
    have hblk7 : ∀ x, x ≠ w.heap.size → W7.heap[x]? = w3.heap[x]? := fun x hx => by subst hW7; repeat rw [Below.heap_setCell _ _ _ _ (by dsimp only; omega)]
    have hsz7 : W7.heap.size = w3.heap.size := by subst hW7; simp [World.setCell]
    obtain ⟨hx7, hb7⟩ := put10b (g := q.1) hx3 hW7
    have hww7 := hw3.trans (hb7 w.heap.size (Nat.le_refl _))
    have HS7 : Hid (SF W7 w.heap.size W7.heap.size q.2 (.slice ta tn tc)) := by
      have h0 := SF.same (w' := W7) (fun x h1 _ => hblk7 x (by omega)) HS3.out
      exact SF.mono (by omega) (by omega) h0
    obtain ⟨z0, k0, k1, k2, k3, k4, k5, k6, k7, k8, k9⟩ := hx7
    clear hW7 x0 c0 c1 c2 c3 c4 c5 c6 c7 c8 c9 hblk7 hsz7
    go_wp2
    refine bodyPost_ret (v := .tuple #[.agg #[.int .i64 q.1.k, .int .i64 q.1.ak, .int .i64 q.1.am, .int .i64 q.1.a, .int .i64 q.1.b, .int .i64 q.1.c, .int .i64 q.1.d, .int .i64 q.1.n, .int .i64 q.1.v, .slice ta tn tc], .bool true]) (by simp [results, Tryd.results17, go_sem, k0, k1, k2, k3, k4, k5, k6, k7, k8, k9]) rfl ?_
    unfold JfT
    rw [if_pos HJB.out, HQ.out]
    exact ⟨_, rfl, HS7.out, hww7⟩
  | false =>
    have HJB := Lib.hid hj
    clear hj
    rw [if_neg (by rw [HJB.out]; simp)] at hpost
    obtain ⟨rfl, hb3⟩ := hpost
    have hx3 := c10_on hx hb3
    have hf3 : ∀ o, w3.frozen? ⟨w.heap.size, o, none⟩ = false := fun o => ((bcell hb3).2 _ o hx.1).trans (hf o)
    have hw3 := below_on hw hb3
    have hws := hx.1
    obtain ⟨x0, c0, c1, c2, c3, c4, c5, c6, c7, c8, c9⟩ := id hx3
    clear hb3 hx hf hw
    go_upto_region 20 with fail
    generalize hW7 : World.setCell _ _ _ = W7
    have hblk7 : ∀ x, x ≠ w.heap.size → W7.heap[x]? = w3.heap[x]? := fun x hx => by subst hW7; repeat rw [Below.heap_setCell _ _ _ _ (by dsimp only; omega)]
    have hsz7 : W7.heap.size = w3.heap.size := by subst hW7; simp [World.setCell]
    obtain ⟨hx7, hb7⟩ := put10b (g := ⟨0, 0, 0, 0, 0, 0, 0, 0, 0⟩) hx3 hW7
    have hww7 := hw3.trans (hb7 w.heap.size (Nat.le_refl _))
    obtain ⟨z0, k0, k1, k2, k3, k4, k5, k6, k7, k8, k9⟩ := hx7
    clear hW7 x0 c0 c1 c2 c3 c4 c5 c6 c7 c8 c9 hblk7 hsz7
    go_wp2
    refine bodyPost_ret (v := .tuple #[.agg #[.int .i64 0, .int .i64 0, .int .i64 0, .int .i64 0, .int .i64 0, .int .i64 0, .int .i64 0, .int .i64 0, .int .i64 0, .slice none 0 0], .bool false]) (by simp [results, Tryd.results17, go_sem, k0, k1, k2, k3, k4, k5, k6, k7, k8, k9]) rfl ?_
    unfold JfT
    rw [if_neg (by rw [HJB.out]; simp)]
    exact ⟨rfl, hww7⟩

end Go.Proofs.YtmkflokcficmoaaDoor

/- Contracts of the model's l3Join and l3Valid. -/
namespace Go.Proofs.YtmkflokcficmoaaDoor
open Go.RowKit

def kJ (b : Bool) : Int := if b then 4 else 5
theorem jH_k (b : Bool) : jH b = ⟨kJ b, 0, 0, 0, 0, 0, 0, 0, 0⟩ := rfl

/-- Blocks that are none of the two boxes'. -/
def NX (w : World) (lo k : Nat) : Prop := lo ≤ k ∧ k ≠ w.heap.size ∧ k ≠ w.heap.size + 1

def LjT (b : Bool) (f : Fo) (lo : Nat) (w : World) (e : Ending) (w' : World) : Prop := ∃ s, e = .returned (.agg #[.int .i64 (jA b f).1.k, .int .i64 (jA b f).1.ak, .int .i64 (jA b f).1.am, .int .i64 (jA b f).1.a, .int .i64 (jA b f).1.b, .int .i64 (jA b f).1.c, .int .i64 (jA b f).1.d, .int .i64 (jA b f).1.n, .int .i64 (jA b f).1.v, s]) ∧ FS w' lo (jA b f).2 s ∧ Below w.heap.size w w'

def LjR (bb : Bool) (f : Fo) (b o lo : Nat) (w : World) (i : Value) (wr : World) : Prop :=
  ∃ (k : Nat) (h : FH) (t r : Fo) (s : Value), i = .int .i64 k ∧ 1 ≤ k ∧ k + r.len = f.len ∧ jF bb r h t = jA bb f ∧ FEl w lo r b (o + k * 10) ∧ C10 wr (w.heap.size + 1) h s ∧ (∀ o, wr.frozen? ⟨w.heap.size + 1, o, none⟩ = false) ∧ C10 wr w.heap.size ⟨0, 0, 0, 0, 0, 0, 0, 0, 0⟩ (.slice none 0 0) ∧ (∀ o, wr.frozen? ⟨w.heap.size, o, none⟩ = false) ∧ FSP wr (NX w lo) t s ∧ Below w.heap.size w wr

theorem ten_set {W W' : World} {x : Nat} {h g : FH} {s t : Value} (hx : C10 W x h s)
    (hW : ((((((((((W.setCell ⟨x, 0, none⟩ (.int .i64 g.k)).setCell ⟨x, 1, none⟩ (.int .i64 g.ak)).setCell ⟨x, 2, none⟩ (.int .i64 g.am)).setCell ⟨x, 3, none⟩ (.int .i64 g.a)).setCell ⟨x, 4, none⟩ (.int .i64 g.b)).setCell ⟨x, 5, none⟩ (.int .i64 g.c)).setCell ⟨x, 6, none⟩ (.int .i64 g.d)).setCell ⟨x, 7, none⟩ (.int .i64 g.n)).setCell ⟨x, 8, none⟩ (.int .i64 g.v)).setCell ⟨x, 9, none⟩ t) = W') : C10 W' x g t ∧ (∀ k, k ≠ x → W'.heap[k]? = W.heap[k]?) ∧ W'.heap.size = W.heap.size ∧ (∀ b o, W'.frozen? ⟨b, o, none⟩ = W.frozen? ⟨b, o, none⟩) := by
  obtain ⟨x0, c0, c1, c2, c3, c4, c5, c6, c7, c8, c9⟩ := hx
  refine ⟨?_, fun k hk => by subst hW; repeat rw [Below.heap_setCell _ _ _ _ (by dsimp only; omega)], by subst hW; simp [World.setCell], fun b o => by subst hW; simp [go_sem]⟩
  subst hW
  exact ⟨by simpa [World.setCell] using x0, by simp [go_sem, *], by simp [go_sem, *], by simp [go_sem, *], by simp [go_sem, *], by simp [go_sem, *], by simp [go_sem, *], by simp [go_sem, *], by simp [go_sem, *], by simp [go_sem, *], by simp [go_sem, *]⟩

set_option maxRecDepth 10000 in
set_option maxHeartbeats 2000000 in
theorem l3Join_any (bb : Bool) (f : Fo) (w : World) (lo : Nat) (s : Value) (_hlw : lo ≤ w.heap.size) (hs : FS w lo f s) : Calls Tryd.prog 57 #[.int .i64 (kJ bb), s] w (LjT bb f lo w) := by
  rcases hs with ⟨h0, x, cap, rfl, _, _⟩ | ⟨h0, b, o, cap, rfl, hc1, hc2, hlo, hb, hel⟩
  · obtain rfl : f = .nil := Fo.len_zero h0
    clear h0
    cases bb with
    | true =>
      rw [show kJ true = 4 from rfl]
      go_enter Tryd.func57, Tryd.ntmps57
      go_wp2_with fail
      refine bodyPost_ret (v := .agg #[.int .i64 0, .int .i64 0, .int .i64 0, .int .i64 0, .int .i64 0, .int .i64 0, .int .i64 0, .int .i64 0, .int .i64 0, .slice none 0 0]) (by simp [results, Tryd.results57, go_sem]) rfl ⟨.slice none 0 0, rfl, .inl ⟨rfl, none, 0, rfl, Nat.le_refl _, Nat.zero_le _⟩, ?_⟩
      go_grown
    | false =>
      rw [show kJ false = 5 from rfl]
      go_enter Tryd.func57, Tryd.ntmps57
      go_wp2_with fail
      refine bodyPost_ret (v := .agg #[.int .i64 1, .int .i64 0, .int .i64 0, .int .i64 0, .int .i64 0, .int .i64 0, .int .i64 0, .int .i64 0, .int .i64 0, .slice none 0 0]) (by simp [results, Tryd.results57, go_sem]) rfl ⟨.slice none 0 0, rfl, .inl ⟨rfl, none, 0, rfl, Nat.le_refl _, Nat.zero_le _⟩, ?_⟩
      go_grown
  · cases f with
    | nil => simp [Fo.len] at h0
    | cons h1 t1 r1 =>
      obtain ⟨⟨sl1, hrow1, hsl1⟩, hel1⟩ := hel
      obtain ⟨ga, gn, gc, rfl⟩ : ∃ a n c, sl1 = .slice a n c := FS.slice (w := w) (lo := lo) (f := t1) hsl1
      have HSL1 := Lib.hid (FSP.of (show FS w lo t1 (.slice ga gn gc) from hsl1))
      have HR1 := Lib.hid hel1
      obtain ⟨d0, d1, d2, d3, d4, d5, d6, d7, d8, d9⟩ := hrow1
      obtain ⟨n, hn⟩ : ∃ n, (Fo.cons h1 t1 r1).len = n := ⟨_, rfl⟩
      have HN := Lib.hid hn
      rw [hn] at hc1 h0 ⊢
      unfold maxLen at hc2
      have hn0 : ((n : Int) == 0) = false := by rw [beq_eq_false_iff_ne]; omega
      obtain ⟨kq, hK⟩ : ∃ kq, kJ bb = kq := ⟨_, rfl⟩
      have HK := Lib.hid hK
      rw [hK]
      clear hsl1 hel1 hn hK
      go_enter Tryd.func57, Tryd.ntmps57
      go_wp2_with fail
      generalize hW : World.alloc _ _ = W
      have hx : C10 W (w.heap.size + 1) h1 (.slice ga gn gc) := by subst hW; exact (by refine ⟨?_, ?_, ?_, ?_, ?_, ?_, ?_, ?_, ?_, ?_, ?_⟩ <;> first | (simp [go_sem]; done) | (simp; omega))
      have hz : C10 W w.heap.size ⟨0, 0, 0, 0, 0, 0, 0, 0, 0⟩ (.slice none 0 0) := by subst hW; exact (by refine ⟨?_, ?_, ?_, ?_, ?_, ?_, ?_, ?_, ?_, ?_, ?_⟩ <;> first | (simp [go_sem]; done) | (simp; omega))
      have fx : ∀ o, W.frozen? ⟨w.heap.size + 1, o, none⟩ = false := by intro o; subst hW; simp [go_sem]
      have fz : ∀ o, W.frozen? ⟨w.heap.size, o, none⟩ = false := by intro o; subst hW; simp [go_sem]
      have hw : Below w.heap.size w W := by subst hW; go_grown
      have HST := Lib.hid (show LjR bb (.cons h1 t1 r1) b o lo w (.int .i64 1) W from ⟨1, h1, t1, r1, _, rfl, Nat.le_refl _, by simp [Fo.len]; omega, rfl, by rw [Nat.one_mul]; exact HR1.out, hx, fx, hz, fz, FSP.kept (Q := NX w lo) hw.size (fun k hk _ => hw.block k hk.2) (fun k hk => ⟨hk.1, by omega, by omega⟩) HSL1.out, hw⟩)
      clear hW hx hz fx fz hw d0 d1 d2 d3 d4 d5 d6 d7 d8 d9
      go_loopw [6] (fun i wr => LjR bb (.cons h1 t1 r1) b o lo w i wr) (fun i _ => n - (intOf i).toNat)
      case atStart => exact HST.out
      case round =>
        obtain ⟨k, h, t, r, s, rfl, hk1, hk, hj, hr, hx, fx, hz, fz, hfs, hbw⟩ := hrel
        clear HST
        rw [HN.out] at hk
        obtain ⟨sa, sn, sc, rfl⟩ := hfs.slice
        have HJ := Lib.hid hj
        have HX := Lib.hid hx
        have HZ := Lib.hid hz
        have FX := Lib.hid fx
        have FZ := Lib.hid fz
        have HFS := Lib.hid hfs
        have HB := Lib.hid hbw
        obtain ⟨x0, c0, c1, c2, c3, c4, c5, c6, c7, c8, c9⟩ := id hx
        clear hj hfs
        cases r with
        | nil =>
          simp only [Fo.len] at hk
          have hkl : ¬ (k : Int) < (n : Int) := by omega
          obtain ⟨z0, e0, e1, e2, e3, e4, e5, e6, e7, e8, e9⟩ := id hz
          go_upto_region 20 with fail
          generalize hW7 : World.setCell _ _ _ = W7
          obtain ⟨hz7, hk7, hs7, _⟩ := ten_set (g := h) HZ.out hW7
          have hw7 : Below w.heap.size w W7 := by subst hW7; go_grown
          obtain ⟨y0, y1, y2, y3, y4, y5, y6, y7, y8, y9, y10⟩ := hz7
          have HF7 := Lib.hid (FSP.to (lo := lo) (fun k hk => hk.1) (FSP.kept (w' := W7) (Q := NX w lo) (Nat.le_of_eq hs7.symm) (fun k hk _ => hk7 k hk.2.1) (fun _ h => h) HFS.out))
          have e : (h, t) = jA bb (.cons h1 t1 r1) := HJ.out
          have HE := Lib.hid e
          clear hW7 hk7 hs7 x0 c0 c1 c2 c3 c4 c5 c6 c7 c8 c9 z0 e0 e1 e2 e3 e4 e5 e6 e7 e8 e9 e hx hz
          go_wp2
          refine bodyPost_ret (v := .agg #[.int .i64 h.k, .int .i64 h.ak, .int .i64 h.am, .int .i64 h.a, .int .i64 h.b, .int .i64 h.c, .int .i64 h.d, .int .i64 h.n, .int .i64 h.v, .slice sa sn sc]) (by simp [results, Tryd.results57, go_sem, y1, y2, y3, y4, y5, y6, y7, y8, y9, y10]) rfl ?_
          unfold LjT
          rw [← HE.out]
          exact ⟨_, rfl, HF7.out, hw7⟩
        | cons h' t' r' =>
          simp only [Fo.len] at hk
          have hkl : (k : Int) < (n : Int) := by omega
          have HR := Lib.hid hr.2
          obtain ⟨⟨sl, hrow, hsl⟩, _⟩ := FEl.below hbw (Nat.le_refl _) hlo hb hr
          obtain ⟨⟨sl', hrow', hsl'⟩, _⟩ := hr
          have he : sl = sl' := by
            have h1 := hrow.2.2.2.2.2.2.2.2.2
            have h2 := (hbw.cell (p := ⟨b, o + k * 10 + 9, none⟩) hb).trans hrow'.2.2.2.2.2.2.2.2.2
            rw [h1] at h2
            exact Option.some.inj h2
          subst he
          obtain ⟨ta, tn, tc, rfl⟩ : ∃ a n c, sl = .slice a n c := FS.slice (w := w) (lo := lo) (f := t') hsl'
          have HSL := Lib.hid (show FSP wr.drew (NX w lo) t' (.slice ta tn tc) from FSP.kept (Q := NX w lo) hbw.size (fun k hk _ => hbw.block k hk.2) (fun k hk => ⟨hk.1, by omega, by omega⟩) (FSP.of (show FS w lo t' (.slice ta tn tc) from hsl')))
          have HFD := Lib.hid (show FSP wr.drew (NX w lo) t (.slice sa sn sc) from FSP.kept (w := wr) (Q := NX w lo) (Nat.le_refl _) (fun _ _ _ => rfl) (fun _ h => h) HFS.out)
          obtain ⟨d0, d1, d2, d3, d4, d5, d6, d7, d8, d9⟩ := hrow
          clear hsl hsl' hrow' hbw hx hz
          go_wp2_with fail
          refine wp_region_held_drew (S := fun _ => True) (by kernel_rfl) trivial (fun _ => ?_)
          refine wpAnyH_take (i := 0) (oi := { dst := some 22, op := Go.Op.move (Go.Operand.tmp 0), type := 3, pos := "l3_formulas.go:276", after := #[], guard := none }) (v := ?_) rfl (by kernel_rfl) (by kernel_rfl) (by kernel_rfl) (fun _ _ _ h => h) (Or.inl ⟨by rfl, ?_⟩) (by assumption) ?_
          rotate_left
          · (intro w _; first | (go_simp; done) | (go_simp; with_reducible rfl))
          try simp only [Act.put, List.setIfInBounds_toArray, List.set_cons_zero, List.set_cons_succ]
          refine wpAnyH_take (i := 2) (oi := { dst := some 24, op := Go.Op.move (Go.Operand.tmp 1), type := 29, pos := "l3_formulas.go:276", after := #[], guard := none }) (v := ?_) rfl (by kernel_rfl) (by kernel_rfl) (by kernel_rfl) (fun _ _ _ h => h) (Or.inl ⟨by rfl, ?_⟩) (by assumption) ?_
          rotate_left
          · (intro w _; first | (go_simp; done) | (go_simp; with_reducible rfl))
          try simp only [Act.put, List.setIfInBounds_toArray, List.set_cons_zero, List.set_cons_succ]
          refine wpAnyH_take (i := 3) (oi := { dst := some 25, op := Go.Op.move (Go.Operand.tmp 6), type := 3, pos := "l3_formulas.go:276", after := #[], guard := none }) (v := ?_) rfl (by kernel_rfl) (by kernel_rfl) (by kernel_rfl) (fun _ _ _ h => h) (Or.inl ⟨by rfl, ?_⟩) (by assumption) ?_
          rotate_left
          · (intro w _; first | (go_simp; done) | (go_simp; with_reducible rfl))
          try simp only [Act.put, List.setIfInBounds_toArray, List.set_cons_zero, List.set_cons_succ]
          refine wpAnyH_take (i := 4) (oi := { dst := some 26, op := Go.Op.indexAddr 29 (Go.Operand.tmp 24) (Go.Operand.tmp 25), type := 0, pos := "l3_formulas.go:276", after := #[{ on := 2, ground := Go.Ground.data }, { on := 3, ground := Go.Ground.data }], guard := none }) (v := ?_) rfl (by kernel_rfl) (by kernel_rfl) (by kernel_rfl) (fun _ _ _ h => h) (Or.inl ⟨by rfl, ?_⟩) (by assumption) ?_
          rotate_left
          · (intro w _; first | (go_simp; done) | (go_simp; with_reducible rfl))
          try simp only [Act.put, List.setIfInBounds_toArray, List.set_cons_zero, List.set_cons_succ]
          refine wpAnyH_ready (rs := [1, 5]) (by kernel_rfl) (by simp) ?_
          refine AllReadyH.cons (o := { dst := some 23, op := Go.Op.load 31 (Go.Operand.tmp 5), type := 31, pos := "l3_formulas.go:276", after := #[], guard := none }) rfl (fun K hK => ?_) (AllReadyH.cons (o := { dst := some 27, op := Go.Op.load 31 (Go.Operand.tmp 26), type := 31, pos := "l3_formulas.go:276", after := #[{ on := 4, ground := Go.Ground.data }], guard := none }) rfl (fun K hK => ?_) AllReadyH.nil)
          ·
            go_simp
            refine hK.out _ _ trivial (fun _ => ?_)
            clear hK K
            try simp only [Act.put, List.setIfInBounds_toArray, List.set_cons_zero, List.set_cons_succ]
            refine wpAnyH_ready (rs := [5]) (by kernel_rfl) (by simp) ?_
            refine AllReadyH.cons (o := { dst := some 27, op := Go.Op.load 31 (Go.Operand.tmp 26), type := 31, pos := "l3_formulas.go:276", after := #[{ on := 4, ground := Go.Ground.data }], guard := none }) rfl (fun K hK => ?_) AllReadyH.nil
            go_simp
            refine hK.out _ _ trivial (fun _ => ?_)
            clear hK K
            try simp only [Act.put, List.setIfInBounds_toArray, List.set_cons_zero, List.set_cons_succ]
            refine wpAnyH_ready (rs := [6]) (by kernel_rfl) (by simp) ?_
            refine AllReadyH.cons (o := { dst := some 28, op := Go.Op.call { callee := Go.Callee.value (Go.Operand.func 41), args := #[Go.Operand.tmp 22, Go.Operand.tmp 23, Go.Operand.tmp 27], argTypes := #[3, 31, 31] }, type := 31, pos := "l3_formulas.go:276", after := #[{ on := 0, ground := Go.Ground.data }, { on := 1, ground := Go.Ground.data }, { on := 5, ground := Go.Ground.data }], guard := none }) rfl (fun K hK => ?_) AllReadyH.nil
            go_simp
            (go_at_call 41; refine (l3Two_p (NX w lo) kq h h' t t' _ _ _ HFD.out HSL.out).mono ?_; rintro e w5 ⟨s5, rfl, hs5, hb5⟩; obtain ⟨a5, n5, c5x, rfl⟩ := hs5.slice; have hx5 := c10_on (W := wr.drew) HX.out hb5; obtain ⟨p0, p1, p2, p3, p4, p5, p6, p7, p8, p9, p10⟩ := id hx5; have fx5 : ∀ o, w5.frozen? ⟨w.heap.size + 1, o, none⟩ = false := (fun o => ((bcell hb5).2 _ o HX.out.1).trans (FX.out o)))
            refine hK.out _ _ trivial (fun _ => ?_)
            clear hK K
            try simp only [Act.put, List.setIfInBounds_toArray, List.set_cons_zero, List.set_cons_succ]
            refine wpAnyH_ready (rs := [7]) (by kernel_rfl) (by simp) ?_
            refine AllReadyH.cons (o := { dst := none, op := Go.Op.store 31 (Go.Operand.tmp 5) (Go.Operand.tmp 28), type := 0, pos := "l3_formulas.go:276", after := #[{ on := 6, ground := Go.Ground.data }, { on := 6, ground := Go.Ground.chain }, { on := 0, ground := Go.Ground.phase }, { on := 1, ground := Go.Ground.phase }, { on := 2, ground := Go.Ground.phase }, { on := 3, ground := Go.Ground.phase }, { on := 4, ground := Go.Ground.phase }, { on := 5, ground := Go.Ground.phase }, { on := 6, ground := Go.Ground.phase }], guard := none }) rfl (fun K hK => ?_) AllReadyH.nil
            go_simp
            refine hK.out _ _ trivial (fun _ => ?_)
            clear hK K
            try simp only [Act.put, List.setIfInBounds_toArray, List.set_cons_zero, List.set_cons_succ]
            refine wpAnyH_done (by kernel_rfl) ?_ _
            generalize hW6 : World.setCell _ _ _ = W6
            obtain ⟨hx6, hk6, hs6, hf6⟩ := ten_set (g := ⟨kq, 0, 0, 0, 0, 0, 0, 0, 0⟩) hx5 hW6
            have hz5 := c10_on (W := wr.drew) HZ.out hb5
            have fz5 : ∀ o, w5.frozen? ⟨w.heap.size, o, none⟩ = false := fun o => ((bcell hb5).2 _ o HZ.out.1).trans (FZ.out o)
            have hb56 : Below w.heap.size w w5 := below_on (W := wr.drew) (Below.drew HB.out) hb5
            have hsw5 : w.heap.size + 1 < w5.heap.size := hx5.1
            have hsw : w.heap.size + 1 < wr.heap.size := HX.out.1
            have hw6 : Below w.heap.size w W6 := hb56.trans ((put10b (g := ⟨kq, 0, 0, 0, 0, 0, 0, 0, 0⟩) hx5 hW6).2 w.heap.size (by omega))
            have HN6 : Hid (LjR bb (.cons h1 t1 r1) b o lo w (.int .i64 ((k + 1 : Nat) : Int)) W6) := ⟨k + 1, ⟨kq, 0, 0, 0, 0, 0, 0, 0, 0⟩, .cons h t (.cons h' t' .nil), r', _, rfl, by omega, by rw [HN.out]; omega, by
                have e : jH bb = ⟨kq, 0, 0, 0, 0, 0, 0, 0, 0⟩ := by rw [jH_k, HK.out]
                rw [← e]
                exact HJ.out, by rw [show o + (k + 1) * 10 = o + k * 10 + 10 by omega]; exact HR.out, hx6, fun o => (hf6 _ o).trans (fx5 o), c10_block (by omega) (hk6 _ (by omega)) hz5, fun o => (hf6 _ o).trans (fz5 o), FSP.kept (Q := NX w lo) (Nat.le_of_eq hs6.symm) (fun q hq _ => hk6 q (by
                  rcases hq with hq | hq
                  · exact hq.2.2
                  · have hq' : wr.heap.size ≤ q := hq
                    omega)) (fun q hq => by
                  rcases hq with hq | hq
                  · exact hq
                  · have hq' : wr.heap.size ≤ q := hq
                    exact ⟨by omega, by omega, by omega⟩) hs5, hw6⟩
            clear hW6 hx6 hk6 hs6 hf6 hz5 fz5 hb56 hw6 hs5 hb5 p0 p1 p2 p3 p4 p5 p6 p7 p8 p9 p10 fx5 hx5 d0 d1 d2 d3 d4 d5 d6 d7 d8 d9 x0 c0 c1 c2 c3 c4 c5 c6 c7 c8 c9
            go_wp2
            go_roundw
            case rel =>
              have e : ((k + 1 : Nat) : Int) = (k : Int) + 1 := by omega
              have h9 := HN6.out
              rw [e] at h9
              exact h9
            case measure => simp [intOf]; omega
          ·
            go_simp
            refine hK.out _ _ trivial (fun _ => ?_)
            clear hK K
            try simp only [Act.put, List.setIfInBounds_toArray, List.set_cons_zero, List.set_cons_succ]
            refine wpAnyH_ready (rs := [1]) (by kernel_rfl) (by simp) ?_
            refine AllReadyH.cons (o := { dst := some 23, op := Go.Op.load 31 (Go.Operand.tmp 5), type := 31, pos := "l3_formulas.go:276", after := #[], guard := none }) rfl (fun K hK => ?_) AllReadyH.nil
            go_simp
            refine hK.out _ _ trivial (fun _ => ?_)
            clear hK K
            try simp only [Act.put, List.setIfInBounds_toArray, List.set_cons_zero, List.set_cons_succ]
            refine wpAnyH_ready (rs := [6]) (by kernel_rfl) (by simp) ?_
            refine AllReadyH.cons (o := { dst := some 28, op := Go.Op.call { callee := Go.Callee.value (Go.Operand.func 41), args := #[Go.Operand.tmp 22, Go.Operand.tmp 23, Go.Operand.tmp 27], argTypes := #[3, 31, 31] }, type := 31, pos := "l3_formulas.go:276", after := #[{ on := 0, ground := Go.Ground.data }, { on := 1, ground := Go.Ground.data }, { on := 5, ground := Go.Ground.data }], guard := none }) rfl (fun K hK => ?_) AllReadyH.nil
            go_simp
            (go_at_call 41; refine (l3Two_p (NX w lo) kq h h' t t' _ _ _ HFD.out HSL.out).mono ?_; rintro e w5 ⟨s5, rfl, hs5, hb5⟩; obtain ⟨a5, n5, c5x, rfl⟩ := hs5.slice; have hx5 := c10_on (W := wr.drew) HX.out hb5; obtain ⟨p0, p1, p2, p3, p4, p5, p6, p7, p8, p9, p10⟩ := id hx5; have fx5 : ∀ o, w5.frozen? ⟨w.heap.size + 1, o, none⟩ = false := (fun o => ((bcell hb5).2 _ o HX.out.1).trans (FX.out o)))
            refine hK.out _ _ trivial (fun _ => ?_)
            clear hK K
            try simp only [Act.put, List.setIfInBounds_toArray, List.set_cons_zero, List.set_cons_succ]
            refine wpAnyH_ready (rs := [7]) (by kernel_rfl) (by simp) ?_
            refine AllReadyH.cons (o := { dst := none, op := Go.Op.store 31 (Go.Operand.tmp 5) (Go.Operand.tmp 28), type := 0, pos := "l3_formulas.go:276", after := #[{ on := 6, ground := Go.Ground.data }, { on := 6, ground := Go.Ground.chain }, { on := 0, ground := Go.Ground.phase }, { on := 1, ground := Go.Ground.phase }, { on := 2, ground := Go.Ground.phase }, { on := 3, ground := Go.Ground.phase }, { on := 4, ground := Go.Ground.phase }, { on := 5, ground := Go.Ground.phase }, { on := 6, ground := Go.Ground.phase }], guard := none }) rfl (fun K hK => ?_) AllReadyH.nil
            go_simp
            refine hK.out _ _ trivial (fun _ => ?_)
            clear hK K
            try simp only [Act.put, List.setIfInBounds_toArray, List.set_cons_zero, List.set_cons_succ]
            refine wpAnyH_done (by kernel_rfl) ?_ _
            generalize hW6 : World.setCell _ _ _ = W6
            obtain ⟨hx6, hk6, hs6, hf6⟩ := ten_set (g := ⟨kq, 0, 0, 0, 0, 0, 0, 0, 0⟩) hx5 hW6
            have hz5 := c10_on (W := wr.drew) HZ.out hb5
            have fz5 : ∀ o, w5.frozen? ⟨w.heap.size, o, none⟩ = false := fun o => ((bcell hb5).2 _ o HZ.out.1).trans (FZ.out o)
            have hb56 : Below w.heap.size w w5 := below_on (W := wr.drew) (Below.drew HB.out) hb5
            have hsw5 : w.heap.size + 1 < w5.heap.size := hx5.1
            have hsw : w.heap.size + 1 < wr.heap.size := HX.out.1
            have hw6 : Below w.heap.size w W6 := hb56.trans ((put10b (g := ⟨kq, 0, 0, 0, 0, 0, 0, 0, 0⟩) hx5 hW6).2 w.heap.size (by omega))
            have HN6 : Hid (LjR bb (.cons h1 t1 r1) b o lo w (.int .i64 ((k + 1 : Nat) : Int)) W6) := ⟨k + 1, ⟨kq, 0, 0, 0, 0, 0, 0, 0, 0⟩, .cons h t (.cons h' t' .nil), r', _, rfl, by omega, by rw [HN.out]; omega, by
                have e : jH bb = ⟨kq, 0, 0, 0, 0, 0, 0, 0, 0⟩ := by rw [jH_k, HK.out]
                rw [← e]
                exact HJ.out, by rw [show o + (k + 1) * 10 = o + k * 10 + 10 by omega]; exact HR.out, hx6, fun o => (hf6 _ o).trans (fx5 o), c10_block (by omega) (hk6 _ (by omega)) hz5, fun o => (hf6 _ o).trans (fz5 o), FSP.kept (Q := NX w lo) (Nat.le_of_eq hs6.symm) (fun q hq _ => hk6 q (by
                  rcases hq with hq | hq
                  · exact hq.2.2
                  · have hq' : wr.heap.size ≤ q := hq
                    omega)) (fun q hq => by
                  rcases hq with hq | hq
                  · exact hq
                  · have hq' : wr.heap.size ≤ q := hq
                    exact ⟨by omega, by omega, by omega⟩) hs5, hw6⟩
            clear hW6 hx6 hk6 hs6 hf6 hz5 fz5 hb56 hw6 hs5 hb5 p0 p1 p2 p3 p4 p5 p6 p7 p8 p9 p10 fx5 hx5 d0 d1 d2 d3 d4 d5 d6 d7 d8 d9 x0 c0 c1 c2 c3 c4 c5 c6 c7 c8 c9
            go_wp2
            go_roundw
            case rel =>
              have e : ((k + 1 : Nat) : Int) = (k : Int) + 1 := by omega
              have h9 := HN6.out
              rw [e] at h9
              exact h9
            case measure => simp [intOf]; omega
  

end Go.Proofs.YtmkflokcficmoaaDoor

/- A formula put behind a list of formulas that lie apart: the list that lies apart. -/
namespace Go.Proofs.YtmkflokcficmoaaDoor
open Go.RowKit

theorem TEl.moved {w w' : World} : ∀ (f : Fo) (b b' i lo hi : Nat), (∀ x, lo ≤ x → x < hi → x ≠ b → w'.heap[x]? = w.heap[x]?) → (b' = b ∨ hi ≤ b') → (∀ j, i * 10 ≤ j → j < (i + f.len) * 10 → w'.cell? ⟨b', j, none⟩ = w.cell? ⟨b, j, none⟩) → TEl w f b i lo hi → TEl w' f b' i lo hi := by
  intro f
  induction f with
  | nil => intro _ _ _ _ _ _ _ _ _; trivial
  | cons h s r _ ihr =>
    rintro b b' i lo hi hx hb hc ⟨l, m, h1, h2, h3, h4, ⟨sl, hr, hsl⟩, h6⟩
    simp only [Fo.len] at hc
    obtain ⟨r0, r1, r2, r3, r4, r5, r6, r7, r8, r9⟩ := hr
    refine ⟨l, m, h1, h2, h3, by omega, ⟨sl, ⟨(hc _ (by omega) (by omega)).trans r0, (hc _ (by omega) (by omega)).trans r1, (hc _ (by omega) (by omega)).trans r2, (hc _ (by omega) (by omega)).trans r3, (hc _ (by omega) (by omega)).trans r4, (hc _ (by omega) (by omega)).trans r5, (hc _ (by omega) (by omega)).trans r6, (hc _ (by omega) (by omega)).trans r7, (hc _ (by omega) (by omega)).trans r8, (hc _ (by omega) (by omega)).trans r9⟩, ?_⟩, ihr b b' (i + 1) m hi (fun x a1 a2 a3 => hx x (by omega) a2 a3) hb (fun j a1 a2 => hc j (by omega) (by omega)) h6⟩
    exact SF.same (lo := l) (hi := m) (fun x a1 a2 => hx x (by omega) (by omega) (by omega)) hsl

theorem sf_snoc {wa w4 w5 : World} {B g n cap : Nat} {pre : Fo} {h2 : FH} {f2 : Fo} {s2 v1 : Value} {xs : List Value} (hpre : pre.len = n) (ho : wa.ownsRow B 31 10 (.slice (some ⟨g, 0, none⟩) n cap) n xs) (ht : TEl wa pre g 0 B wa.heap.size) (hBw : B ≤ wa.heap.size)
    (hb4 : Below wa.heap.size wa w4) (hs2 : SF w4 wa.heap.size w4.heap.size f2 s2)
    (hr : w5.ownsRow B 31 10 v1 (n + 1) (xs ++ fcel h2 s2)) (hg : (w4.alloc (.cells #[.int .i64 h2.k, .int .i64 h2.ak, .int .i64 h2.am, .int .i64 h2.a, .int .i64 h2.b, .int .i64 h2.c, .int .i64 h2.d, .int .i64 h2.n, .int .i64 h2.v, s2] 31)).grownBy w5 (some g)) (hw : v1.ownBlock = some g ∨ v1.ownBlock = some (w4.heap.size + 1)) :
    ∃ g' cap', v1 = .slice (some ⟨g', 0, none⟩) (n + 1) cap' ∧ TEl w5 (pre.app (.cons h2 f2 .nil)) g' 0 B w5.heap.size := by
  obtain ⟨g', cap', rfl⟩ := own_some hr (fun e => by
    rcases hr.2 with ⟨_, h0⟩ | ⟨g, cap, cur, e0, _⟩
    · omega
    · rw [e] at e0; simp at e0)
  have hlt := ho.lt g rfl
  have hs45 : w4.heap.size + 1 ≤ w5.heap.size := by have := hg.size; simpa using this
  have hsa4 := hb4.size
  have hgg : g' = g ∨ g' = w4.heap.size + 1 := by simpa [Value.ownBlock] using hw
  have hblk : ∀ x, x ≠ g → x < w4.heap.size → w5.heap[x]? = w4.heap[x]? := fun x hx hl => (hg.block x (by simp; omega) (by intro e; injection e with e; exact hx e)).trans (Below.heap_alloc _ _ _ hl)
  have hl : xs.length = n * 10 := ho.1
  have hcell : ∀ j u, (xs ++ fcel h2 s2)[j]? = some u → w5.cell? ⟨g', j, none⟩ = some u := by
    intro j u hj
    have hj' : j < (n + 1) * 10 := by
      have h := (List.getElem?_eq_some_iff.1 hj).1
      have h1 := hr.1
      omega
    exact (hr.cellAt j hj').trans hj
  have hold : ∀ j, j < n * 10 → w5.cell? ⟨g', j, none⟩ = wa.cell? ⟨g, j, none⟩ := by
    intro j hj
    have h1 := ho.cellAt j hj
    obtain ⟨u, hu⟩ : ∃ u, xs[j]? = some u := ⟨_, List.getElem?_eq_getElem (by omega)⟩
    rw [h1, hu]
    exact hcell j u (by rw [List.getElem?_append_left (by omega)]; exact hu)
  have hnew : ∀ j u, (fcel h2 s2)[j]? = some u → w5.cell? ⟨g', n * 10 + j, none⟩ = some u := by
    intro j u hj
    have h := hcell (xs.length + j) u (by rw [List.getElem?_append_right (Nat.le_add_right _ _), Nat.add_sub_cancel_left]; exact hj)
    rwa [hl] at h
  refine ⟨g', cap', rfl, TEl.app pre _ 0 B wa.heap.size w5.heap.size hBw (by omega) ?_ ?_⟩
  · exact TEl.moved pre g g' 0 B wa.heap.size (fun x _ hx hne => (hblk x hne (by omega)).trans (hb4.block x hx)) (by omega) (fun j _ hj => hold j (by rw [hpre] at hj; omega)) ht
  · rw [Nat.zero_add, hpre]
    exact ⟨wa.heap.size, w4.heap.size, Nat.le_refl _, hsa4, by omega, by omega, ⟨s2, ⟨hnew 0 _ rfl, hnew 1 _ rfl, hnew 2 _ rfl, hnew 3 _ rfl, hnew 4 _ rfl, hnew 5 _ rfl, hnew 6 _ rfl, hnew 7 _ rfl, hnew 8 _ rfl, hnew 9 _ rfl⟩, SF.same (fun x hx1 hx2 => hblk x (by omega) hx2) hs2⟩, trivial⟩

end Go.Proofs.YtmkflokcficmoaaDoor

/- Contracts of the model's l17OwnListFormula and l17OwnFormula: a copy whose lists lie apart. -/
namespace Go.Proofs.YtmkflokcficmoaaDoor
open Go.RowKit

def OlsT (f : Fo) (w : World) (e : Ending) (w' : World) : Prop := ∃ s', e = .returned s' ∧ SF w' w.heap.size w'.heap.size f s' ∧ Below w.heap.size w w'
def OlS (f : Fo) : Prop := ∀ (w : World) (lo : Nat) (s : Value), f.size ≤ 1048576 → FS w lo f s → Calls Tryd.prog 28 #[s] w (OlsT f w)
def OlF (h : FH) (f : Fo) : Prop := ∀ (w : World) (lo : Nat) (s : Value), f.size ≤ 1048576 → FS w lo f s → Calls Tryd.prog 12 #[.agg #[.int .i64 h.k, .int .i64 h.ak, .int .i64 h.am, .int .i64 h.a, .int .i64 h.b, .int .i64 h.c, .int .i64 h.d, .int .i64 h.n, .int .i64 h.v, s]] w (FoT h f w)

theorem own_sf {wr : World} {B g k cap : Nat} {xs : List Value} {f : Fo} (ho : wr.ownsRow B 31 10 (.slice (some ⟨g, 0, none⟩) k cap) k xs) (hl : f.len = k) (ht : TEl wr f g 0 B wr.heap.size) : SF wr B wr.heap.size f (.slice (some ⟨g, 0, none⟩) k cap) := by
  have hlt := ho.lt g rfl
  have hcap : k ≤ cap ∧ cap ≤ maxLen := by
    rcases ho.2 with ⟨e, _⟩ | ⟨g', cap', cur, e, _, _, h1, h2, _⟩
    · simp at e
    · injection e with _ _ e3
      subst e3
      exact ⟨h1, h2⟩
  subst hl
  by_cases h0 : f.len = 0
  · exact .inl ⟨h0, _, cap, by rw [h0], Nat.zero_le _, hcap.2⟩
  · exact .inr ⟨by omega, g, cap, rfl, hcap.1, hcap.2, hlt.1, hlt.2, fun o => ho.frozenAt o, ht⟩

def OlR (f : Fo) (b o lo : Nat) (w : World) (out i : Value) (wr : World) : Prop :=
  ∃ (k g cap : Nat) (pre r : Fo) (xs : List Value), i = .int .i64 k ∧ out = .slice (some ⟨g, 0, none⟩) k cap ∧ pre.len = k ∧ k + r.len = f.len ∧ r.size ≤ f.size ∧ pre.app r = f ∧ FEl w lo r b (o + k * 10) ∧
    wr.ownsRow w.heap.size 31 10 (.slice (some ⟨g, 0, none⟩) k cap) k xs ∧ TEl wr pre g 0 w.heap.size wr.heap.size ∧ Below w.heap.size w wr

set_option maxRecDepth 10000 in
set_option maxHeartbeats 2000000 in
theorem olS_of {f : Fo} (HF : ∀ h s, s.size < f.size → OlF h s) : OlS f := by
  intro w lo s hf hs
  have H := Lib.hid HF
  have HS := Lib.hid hs
  obtain ⟨sa, sn, sc, rfl, hn⟩ : ∃ a n c, s = .slice a n c ∧ n = f.len := by
    rcases hs with ⟨h0, x, cap, e, _⟩ | ⟨_, b, o, cap, e, _⟩
    · exact ⟨_, _, _, e, h0.symm⟩
    · exact ⟨_, _, _, e, rfl⟩
  subst hn
  clear HF hs
  have hlen := Fo.len_le f
  go_enter Tryd.func28, Tryd.ntmps28
  go_wp2_with fail
  generalize hW : World.alloc _ _ = W
  have hw : Below w.heap.size w W := by subst hW; go_grown
  have ho : W.ownsRow w.heap.size 31 10 (.slice (some ⟨w.heap.size, 0, none⟩) 0 0) 0 [] := by
    subst hW
    have := World.ownsRow_lit (base := w.heap.size) (e := 31) (size := 10) w #[] 0 (Nat.le_refl _) (Nat.zero_le _) rfl
    simpa using this
  clear hW
  have hst : ∃ b o, OlR f b o lo w (.slice (some ⟨w.heap.size, 0, none⟩) 0 0) (.int .i64 0) W ∧ (0 < f.len → sa = some ⟨b, o, none⟩ ∧ sc ≤ maxLen ∧ f.len ≤ sc ∧ lo ≤ b ∧ b < w.heap.size) := by
    rcases HS.out with ⟨h0, _⟩ | ⟨h0, b, o, cap, e, hcc1, hcc2, hlo, hb, hel⟩
    · obtain rfl : f = .nil := Fo.len_zero h0
      exact ⟨0, 0, ⟨0, _, _, .nil, .nil, _, rfl, rfl, rfl, rfl, Nat.le_refl _, rfl, trivial, ho, trivial, hw⟩, fun h => absurd h (by omega)⟩
    · injection e with e1 e2 e3
      subst e1 e3
      exact ⟨b, o, ⟨0, _, _, .nil, f, _, rfl, rfl, rfl, by omega, Nat.le_refl _, rfl, by simpa using hel, ho, trivial, hw⟩, fun _ => ⟨rfl, hcc2, hcc1, hlo, hb⟩⟩
  obtain ⟨b, o, hst, hsh⟩ := hst
  have HST := Lib.hid hst
  have HSH := Lib.hid hsh
  clear hst hsh hw ho
  go_loopw [3, 9] (fun out i wr => OlR f b o lo w out i wr) (fun _ i _ => f.len - (intOf i).toNat)
  case atStart => exact HST.out
  case round =>
    obtain ⟨k, g, cap, pre, r, xs, rfl, rfl, hpl, hk, hdr, hap, hr, hown, htel, hbw⟩ := hrel
    clear HST
    have HAP := Lib.hid hap
    have HPL := Lib.hid hpl
    have HO := Lib.hid hown
    have HT := Lib.hid htel
    have HB := Lib.hid hbw
    clear hap hpl htel
    cases r with
    | nil =>
      simp only [Fo.len] at hk
      have hkl : ¬ k < f.len := by omega
      have e : pre = f := by have := HAP.out; rwa [Fo.app_nil] at this
      subst e
      clear hown
      go_wp2
      go_ret
      exact ⟨_, rfl, own_sf HO.out HPL.out HT.out, hbw⟩
    | cons h' s' r' =>
      simp only [Fo.len] at hk
      simp only [Fo.size] at hdr
      have hkl : k < f.len := by omega
      obtain ⟨rfl, hcc2, hcc1, hlo, hb⟩ := HSH.out (by omega)
      unfold maxLen at hcc2
      have HR := Lib.hid hr.2
      obtain ⟨⟨sl, hrow, hsl⟩, _⟩ := FEl.below hbw (Nat.le_refl _) hlo hb hr
      obtain ⟨ga, gn, gc, rfl⟩ : ∃ a n c, sl = .slice a n c := FS.slice (w := wr) (lo := lo) (f := s') hsl
      have HSL := Lib.hid (show FS wr lo s' (.slice ga gn gc) from hsl)
      obtain ⟨d0, d1, d2, d3, d4, d5, d6, d7, d8, d9⟩ := hrow
      have hgl := hown.lt g rfl
      clear hsl hr hbw hown
      go_wp2_with fail
      generalize hW2 : wr.alloc _ = W2
      have hb2 : Below wr.heap.size wr W2 := by subst hW2; go_grown
      have HB2 := Lib.hid (below_on HB.out hb2)
      have HO2 := Lib.hid (own_below HO.out hb2)
      have HT2 := Lib.hid (TEl.mono pre g 0 _ _ _ W2.heap.size (Nat.le_refl _) hb2.size (TEl.same pre g 0 _ _ (fun x _ hx _ => hb2.block x hx) (fun j _ _ => (bcell hb2).1 g j hgl.2) HT.out))
      have HC := Lib.hid (H.out h' s' (by omega) W2 lo _ (by omega) (FS.below hb2 (Nat.le_refl _) HSL.out))
      have hs2 : w.heap.size ≤ W2.heap.size := HB2.out.size
      clear hW2 hb2 d0 d1 d2 d3 d4 d5 d6 d7 d8 d9
      refine HC.out.mono ?_
      rintro e w4 ⟨s4, rfl, hs4, hb4⟩
      obtain ⟨ta, tn, tc, rfl⟩ := hs4.slice
      have hown4 := own_below HO2.out hb4
      have hs24 := hb4.size
      obtain ⟨v1, w5, hr5, ho5, hg5, hv5⟩ := fo_app h' ta tn tc (show w.heap.size ≤ w4.heap.size by omega) (show k ≤ 1048576 by omega) hown4
      have hb5 : Below w.heap.size w4 w5 := low_grown (g := g) (show Below w.heap.size w4 (w4.alloc (.cells #[.int .i64 h'.k, .int .i64 h'.ak, .int .i64 h'.am, .int .i64 h'.a, .int .i64 h'.b, .int .i64 h'.c, .int .i64 h'.d, .int .i64 h'.n, .int .i64 h'.v, .slice ta tn tc] 31)) by go_grown) (by omega) hg5 hgl.1
      obtain ⟨g5, cap5, rfl, ht5⟩ := sf_snoc HPL.out HO2.out HT2.out hs2 hb4 hs4 ho5 hg5 hv5
      have HRUN := Lib.hid hr5
      have HO5 := Lib.hid ho5
      have HT5 := Lib.hid ht5
      have HB5 := Lib.hid ((below_on HB2.out hb4).trans hb5)
      clear hr5 ho5 hg5 hv5 ht5 hb5 hown4 hs4 hb4
      go_wp2_with (at_builtin; refine wpList_append_run rfl _ _ 29 rfl rfl rfl HRUN.out ?_)
      go_wp2
      go_roundw
      case rel => exact ⟨k + 1, g5, cap5, pre.app (.cons h' s' .nil), r', _, by go_num, rfl, by rw [Fo.app_len, HPL.out]; rfl, by omega, by omega, by rw [Fo.app_assoc]; exact HAP.out, by rw [show o + (k + 1) * 10 = o + k * 10 + 10 by omega]; exact HR.out, HO5.out, HT5.out, HB5.out⟩
      case measure => simp [intOf]; omega

set_option maxRecDepth 10000 in
set_option maxHeartbeats 2000000 in
theorem olF_of {h : FH} {f : Fo} (HS : OlS f) : OlF h f := by
  intro w lo s hf hs
  have H := Lib.hid HS
  have HF := Lib.hid hs
  obtain ⟨sa0, sn0, sc0, rfl⟩ := hs.slice
  clear HS hs
  go_enter Tryd.func12, Tryd.ntmps12
  go_wp2_with fail
  generalize hW : World.alloc _ _ = W
  have hx : C10 W w.heap.size h (.slice sa0 sn0 sc0) := by subst hW; exact (by refine ⟨?_, ?_, ?_, ?_, ?_, ?_, ?_, ?_, ?_, ?_, ?_⟩ <;> first | (simp [go_sem]; done) | (simp; omega))
  have hz : C10 W (w.heap.size + 1) ⟨0, 0, 0, 0, 0, 0, 0, 0, 0⟩ (.slice none 0 0) := by subst hW; exact (by refine ⟨?_, ?_, ?_, ?_, ?_, ?_, ?_, ?_, ?_, ?_, ?_⟩ <;> first | (simp [go_sem]; done) | (simp; omega))
  have fx : ∀ o, W.frozen? ⟨w.heap.size, o, none⟩ = false := by intro o; subst hW; simp [go_sem]
  have fz : ∀ o, W.frozen? ⟨w.heap.size + 1, o, none⟩ = false := by intro o; subst hW; simp [go_sem]
  have hw : Below w.heap.size w W := by subst hW; go_grown
  clear hW
  refine (H.out W lo _ hf (FS.below hw (Nat.le_refl _) HF.out)).mono ?_
  rintro e w3 ⟨s2, rfl, hs2, hb3⟩
  obtain ⟨sa, sn, sc, rfl⟩ := hs2.slice
  have HS2 := Lib.hid hs2
  have hx3 := c10_on hx hb3
  have hz3 := c10_on hz hb3
  obtain ⟨x0, c0, c1, c2, c3, c4, c5, c6, c7, c8, c9⟩ := id hx3
  obtain ⟨z0, g0, g1, g2, g3, g4, g5, g6, g7, g8, g9⟩ := id hz3
  have fx3 : ∀ o, w3.frozen? ⟨w.heap.size, o, none⟩ = false := fun o => ((bcell hb3).2 _ o hx.1).trans (fx o)
  have fz3 : ∀ o, w3.frozen? ⟨w.heap.size + 1, o, none⟩ = false := fun o => ((bcell hb3).2 _ o hz.1).trans (fz o)
  have hw3 := below_on hw hb3
  have hs5 : w.heap.size + 1 < W.heap.size := hz.1
  clear hs2 hb3 hx hz fx fz
  go_upto_region 20 with fail
  generalize hW7 : World.setCell _ _ _ = W7
  have hk7 : ∀ k, k ≠ w.heap.size → k ≠ w.heap.size + 1 → W7.heap[k]? = w3.heap[k]? := fun k h1 h2 => by subst hW7; repeat rw [Below.heap_setCell _ _ _ _ (by dsimp only; omega)]
  have hs7 : W7.heap.size = w3.heap.size := by subst hW7; simp [World.setCell]
  have hz7 : C10 W7 (w.heap.size + 1) h (.slice sa sn sc) := by subst hW7; refine ⟨?_, ?_, ?_, ?_, ?_, ?_, ?_, ?_, ?_, ?_, ?_⟩ <;> first | (simp [go_sem, *]; done) | (simp [World.setCell]; omega)
  have hw7 : Below w.heap.size w W7 := by subst hW7; go_grown
  obtain ⟨y0, y1, y2, y3, y4, y5, y6, y7, y8, y9, y10⟩ := hz7
  have HS7 := Lib.hid (show SF W7 w.heap.size W7.heap.size f (.slice sa sn sc) from SF.mono (by omega) (by omega) (SF.same (w' := W7) (fun x h1 _ => hk7 x (by omega) (by omega)) HS2.out))
  clear hW7 hk7 c0 c1 c2 c3 c4 c5 c6 c7 c8 c9 g0 g1 g2 g3 g4 g5 g6 g7 g8 g9
  go_wp2
  refine bodyPost_ret (v := .agg #[.int .i64 h.k, .int .i64 h.ak, .int .i64 h.am, .int .i64 h.a, .int .i64 h.b, .int .i64 h.c, .int .i64 h.d, .int .i64 h.n, .int .i64 h.v, .slice sa sn sc]) (by simp [results, Tryd.results12, go_sem, y1, y2, y3, y4, y5, y6, y7, y8, y9, y10]) rfl ⟨_, rfl, HS7.out, hw7⟩

theorem olS_any (f : Fo) : OlS f := by
  have key : ∀ N (f : Fo), f.size ≤ N → OlS f := by
    intro N
    induction N with
    | zero => intro f hf; exact olS_of fun h s hs => absurd hs (by omega)
    | succ N ih => intro f hf; exact olS_of fun h s hs => olF_of (ih s (by omega))
  exact key f.size f (Nat.le_refl _)
theorem olF_any (h : FH) (f : Fo) : OlF h f := olF_of (olS_any f)

end Go.Proofs.YtmkflokcficmoaaDoor

/- Contracts of the model's l3Valid, l3RawJoinAll and l3RawJoinAny. -/
namespace Go.Proofs.YtmkflokcficmoaaDoor
open Go.RowKit

theorem jF_okB (b : Bool) : ∀ (r : Fo) (h : FH) (s : Fo), (ownB (jF b r h s).1 (jF b r h s).2.len && (jF b r h s).2.okB) = (ownB h s.len && s.okB && r.okB) := by
  intro r
  induction r with
  | nil => intro h s; simp [jF, Fo.okB]
  | cons h2 s2 r _ ih =>
    intro h s
    show (ownB (jF b r (jH b) (.cons h s (.cons h2 s2 .nil))).1 (jF b r (jH b) (.cons h s (.cons h2 s2 .nil))).2.len && (jF b r (jH b) (.cons h s (.cons h2 s2 .nil))).2.okB) = _
    rw [ih]
    have e : ownB (jH b) (Fo.cons h s (.cons h2 s2 .nil)).len = true := jH_own b
    rw [e]
    simp only [Fo.okB, Bool.true_and, Bool.and_true, Bool.and_assoc]
theorem jB_vf (b : Bool) (f : Fo) : (decide (f.len ≤ 600) && vfB (jA b f).1 (jA b f).2) = jB b f := by
  have hok : (ownB (jA b f).1 (jA b f).2.len && (jA b f).2.okB) = f.okB := by
    cases f with
    | nil => cases b <;> decide
    | cons h s r => exact jF_okB b r h s
  unfold vfB jB
  rw [hok]
  cases hk : f.okB with
  | false => simp
  | true =>
    have h1 := (jA_ok b hk).2.2.1
    have h2 := Fo.len_le f
    by_cases hz : (jA b f).2.size + 1 ≤ 600
    · have h3 : f.len ≤ 600 := by omega
      simp [hz, h3]
    · simp [hz]

set_option maxHeartbeats 1000000 in
theorem l3Valid_yes (h : FH) (f : Fo) (w : World) (lo : Nat) (s : Value) (hs : FS w lo f s) (hv : vfB h f = true) : Calls Tryd.prog 56 #[.agg #[.int .i64 h.k, .int .i64 h.ak, .int .i64 h.am, .int .i64 h.a, .int .i64 h.b, .int .i64 h.c, .int .i64 h.d, .int .i64 h.n, .int .i64 h.v, s], .bool true] w (JoT (.tuple #[.agg #[.int .i64 h.k, .int .i64 h.ak, .int .i64 h.am, .int .i64 h.a, .int .i64 h.b, .int .i64 h.c, .int .i64 h.d, .int .i64 h.n, .int .i64 h.v, s], .bool true]) w) := by
  have HC := Lib.hid (fun W hW => specFormulaValid_any h f W lo s (FS.below (w := w) hW (Nat.le_refl _) hs))
  obtain ⟨sa, sn, sc, rfl⟩ := hs.slice
  rw [hv] at HC
  clear hs hv
  go_enter Tryd.func56, Tryd.ntmps56
  go_wp2_with fail
  generalize hW : World.alloc _ _ = W
  have hx : C10 W w.heap.size h (.slice sa sn sc) := by subst hW; exact (by refine ⟨?_, ?_, ?_, ?_, ?_, ?_, ?_, ?_, ?_, ?_, ?_⟩ <;> first | (simp [go_sem]; done) | (simp; omega))
  have hz : C10 W (w.heap.size + 1) ⟨0, 0, 0, 0, 0, 0, 0, 0, 0⟩ (.slice none 0 0) := by subst hW; exact (by refine ⟨?_, ?_, ?_, ?_, ?_, ?_, ?_, ?_, ?_, ?_, ?_⟩ <;> first | (simp [go_sem]; done) | (simp; omega))
  have fz : ∀ o, W.frozen? ⟨w.heap.size + 1, o, none⟩ = false := by intro o; subst hW; simp [go_sem]
  have hw : Below w.heap.size w W := by subst hW; go_grown
  clear hW
  refine (HC.out W hw).mono ?_
  rintro e w1 ⟨rfl, hb1⟩
  have hz1 := c10_on hz hb1
  have hw1 := below_on hw hb1
  have fz1 : ∀ o, w1.frozen? ⟨w.heap.size + 1, o, none⟩ = false := fun o => ((bcell hb1).2 _ o hz.1).trans (fz o)
  obtain ⟨x0, c0, c1, c2, c3, c4, c5, c6, c7, c8, c9⟩ := c10_on hx hb1
  obtain ⟨z0, e0, e1, e2, e3, e4, e5, e6, e7, e8, e9⟩ := id hz1
  clear hb1 hx hz fz hw
  go_upto_region 20 with fail
  generalize hW7 : World.setCell _ _ _ = W7
  obtain ⟨hz7, _, _, _⟩ := ten_set (g := h) hz1 hW7
  have hw7 : Below w.heap.size w W7 := by subst hW7; go_grown
  obtain ⟨y0, y1, y2, y3, y4, y5, y6, y7, y8, y9, y10⟩ := hz7
  clear hW7 x0 c0 c1 c2 c3 c4 c5 c6 c7 c8 c9 z0 e0 e1 e2 e3 e4 e5 e6 e7 e8 e9
  go_wp2
  refine bodyPost_ret (v := .tuple #[.agg #[.int .i64 h.k, .int .i64 h.ak, .int .i64 h.am, .int .i64 h.a, .int .i64 h.b, .int .i64 h.c, .int .i64 h.d, .int .i64 h.n, .int .i64 h.v, .slice sa sn sc], .bool true]) (by simp [results, Tryd.results56, go_sem, y1, y2, y3, y4, y5, y6, y7, y8, y9, y10]) rfl ⟨rfl, hw7⟩

set_option maxHeartbeats 1000000 in
theorem l3Valid_no (h : FH) (f : Fo) (w : World) (lo : Nat) (s : Value) (ok : Bool) (hs : FS w lo f s) (hv : (ok && vfB h f) = false) : Calls Tryd.prog 56 #[.agg #[.int .i64 h.k, .int .i64 h.ak, .int .i64 h.am, .int .i64 h.a, .int .i64 h.b, .int .i64 h.c, .int .i64 h.d, .int .i64 h.n, .int .i64 h.v, s], .bool ok] w (VnT w) := by
  have HC := Lib.hid (fun W hW => specFormulaValid_any h f W lo s (FS.below (w := w) hW (Nat.le_refl _) hs))
  obtain ⟨sa, sn, sc, rfl⟩ := hs.slice
  clear hs
  cases ok with
  | true =>
    rw [Bool.true_and] at hv
    rw [hv] at HC
    clear hv
    go_enter Tryd.func56, Tryd.ntmps56
    go_wp2_with fail
    generalize hW : World.alloc _ _ = W
    have hx : C10 W w.heap.size h (.slice sa sn sc) := by subst hW; exact (by refine ⟨?_, ?_, ?_, ?_, ?_, ?_, ?_, ?_, ?_, ?_, ?_⟩ <;> first | (simp [go_sem]; done) | (simp; omega))
    have hz : C10 W (w.heap.size + 1) ⟨0, 0, 0, 0, 0, 0, 0, 0, 0⟩ (.slice none 0 0) := by subst hW; exact (by refine ⟨?_, ?_, ?_, ?_, ?_, ?_, ?_, ?_, ?_, ?_, ?_⟩ <;> first | (simp [go_sem]; done) | (simp; omega))
    have fz : ∀ o, W.frozen? ⟨w.heap.size + 1, o, none⟩ = false := by intro o; subst hW; simp [go_sem]
    have hw : Below w.heap.size w W := by subst hW; go_grown
    clear hW
    refine (HC.out W hw).mono ?_
    rintro e w1 ⟨rfl, hb1⟩
    have hz1 := c10_on hz hb1
    have hw1 := below_on hw hb1
    have fz1 : ∀ o, w1.frozen? ⟨w.heap.size + 1, o, none⟩ = false := fun o => ((bcell hb1).2 _ o hz.1).trans (fz o)
    obtain ⟨z0, e0, e1, e2, e3, e4, e5, e6, e7, e8, e9⟩ := id hz1
    clear hb1 hx hz fz hw
    go_upto_region 20 with fail
    generalize hW7 : World.setCell _ _ _ = W7
    obtain ⟨hz7, _, _, _⟩ := ten_set (g := ⟨0, 0, 0, 0, 0, 0, 0, 0, 0⟩) hz1 hW7
    have hw7 : Below w.heap.size w W7 := by subst hW7; go_grown
    obtain ⟨y0, y1, y2, y3, y4, y5, y6, y7, y8, y9, y10⟩ := hz7
    clear hW7 z0 e0 e1 e2 e3 e4 e5 e6 e7 e8 e9
    go_wp2
    refine bodyPost_ret (v := .tuple #[.agg #[.int .i64 0, .int .i64 0, .int .i64 0, .int .i64 0, .int .i64 0, .int .i64 0, .int .i64 0, .int .i64 0, .int .i64 0, .slice none 0 0], .bool false]) (by simp [results, Tryd.results56, go_sem, y1, y2, y3, y4, y5, y6, y7, y8, y9, y10]) rfl ⟨rfl, hw7⟩
  | false =>
    clear hv
    go_enter Tryd.func56, Tryd.ntmps56
    go_wp2
    refine bodyPost_ret (v := .tuple #[.agg #[.int .i64 0, .int .i64 0, .int .i64 0, .int .i64 0, .int .i64 0, .int .i64 0, .int .i64 0, .int .i64 0, .int .i64 0, .slice none 0 0], .bool false]) (by simp [results, Tryd.results56, go_sem]) rfl ⟨rfl, ?_⟩
    go_grown

def JrT (b : Bool) (f : Fo) (w : World) (e : Ending) (w' : World) : Prop :=
  if jB b f = true then ∃ s, e = .returned (.tuple #[.agg #[.int .i64 (jA b f).1.k, .int .i64 (jA b f).1.ak, .int .i64 (jA b f).1.am, .int .i64 (jA b f).1.a, .int .i64 (jA b f).1.b, .int .i64 (jA b f).1.c, .int .i64 (jA b f).1.d, .int .i64 (jA b f).1.n, .int .i64 (jA b f).1.v, s], .bool true]) ∧ FS w' w.heap.size (jA b f).2 s ∧ Below w.heap.size w w' else VnT w e w'

end Go.Proofs.YtmkflokcficmoaaDoor

/- Contracts of the model's l3RawJoinAll and l3RawJoinAny. -/
namespace Go.Proofs.YtmkflokcficmoaaDoor
open Go.RowKit

theorem sf_shape {w : World} {lo hi : Nat} {f : Fo} {s : Value} (h : SF w lo hi f s) : ∃ a c, s = .slice a f.len c ∧ c ≤ maxLen ∧ f.len ≤ c := by
  rcases h with ⟨h0, x, cap, e, _, h2⟩ | ⟨h0, b', cap, e, g1, g2, _⟩
  · exact ⟨_, _, by rw [e, h0], h2, by omega⟩
  · exact ⟨_, _, e, g2, g1⟩

set_option maxHeartbeats 2000000 in
theorem l3RawJoinAny_any (f : Fo) (w : World) (lo : Nat) (s : Value) (hz : f.size ≤ 1048576) (hs : FS w lo f s) : Calls Tryd.prog 42 #[s] w (JrT false f w) := by
  have HS := Lib.hid hs
  obtain ⟨sa, sn, sc, rfl⟩ := hs.slice
  have hvf := jB_vf false f
  have hlen := Fo.len_le f
  obtain ⟨q, hq⟩ : ∃ q, jA false f = q := ⟨_, rfl⟩
  have HQ := Lib.hid hq
  rw [hq] at hvf
  clear hs hq
  go_enter Tryd.func42, Tryd.ntmps42
  go_wp2_with fail
  generalize hW : World.alloc _ _ = W
  have hzz : C10 W w.heap.size ⟨0, 0, 0, 0, 0, 0, 0, 0, 0⟩ (.slice none 0 0) := by subst hW; exact (by refine ⟨?_, ?_, ?_, ?_, ?_, ?_, ?_, ?_, ?_, ?_, ?_⟩ <;> first | (simp [go_sem]; done) | (simp; omega))
  have fz : ∀ o, W.frozen? ⟨w.heap.size, o, none⟩ = false := by intro o; subst hW; simp [go_sem]
  have hw : Below w.heap.size w W := by subst hW; go_grown
  clear hW
  refine (olS_any f W lo _ hz (FS.below hw (Nat.le_refl _) HS.out)).mono ?_
  rintro e w2 ⟨s2, rfl, hs2, hb2⟩
  obtain ⟨a2, c2, rfl, hc2, hc2l⟩ := sf_shape hs2
  have HS2 := Lib.hid (SF.fs (Nat.le_refl _) hs2)
  unfold maxLen at hc2
  have hs12 := hb2.size
  obtain ⟨n, hn⟩ : ∃ n, f.len = n := ⟨_, rfl⟩
  have HN := Lib.hid hn
  rw [hn] at hvf hlen hc2l HS2 ⊢
  clear hs2 hn
  have HJ := Lib.hid (l3Join_any false f w2 W.heap.size _ hs12 HS2.out)
  have hwz := hzz.1
  go_wp2_with fail
  refine HJ.out.mono ?_
  rintro e w3 ⟨s3, rfl, hs3, hb3⟩
  rw [HQ.out] at hs3 ⊢
  obtain ⟨a3, n3, c3, rfl⟩ := hs3.slice
  have HS3 := Lib.hid hs3
  have hb23 := below_on hb2 hb3
  have hw3 := below_on hw hb23
  clear hs3 hb3 hb2 HJ
  cases hj : jB false f with
  | true =>
    rw [hj] at hvf
    simp only [Bool.and_eq_true, decide_eq_true_eq] at hvf
    have hn6 : (n : Int) ≤ 600 := by omega
    have HV := Lib.hid (l3Valid_yes q.1 q.2 w3 W.heap.size _ HS3.out hvf.2)
    have HJB := Lib.hid hj
    clear hvf hj
    go_wp2_with fail
    refine HV.out.mono ?_
    rintro e w4 ⟨rfl, hb4⟩
    have hb24 := below_on hb23 hb4
    have hz4 := c10_on hzz hb24
    have fz4 : ∀ o, w4.frozen? ⟨w.heap.size, o, none⟩ = false := fun o => ((bcell hb24).2 _ o hzz.1).trans (fz o)
    have hw4 := below_on hw3 hb4
    have HS4 := Lib.hid (FS.below hb4 (Nat.le_refl _) HS3.out)
    obtain ⟨z0, e0, e1, e2, e3, e4, e5, e6, e7, e8, e9⟩ := id hz4
    clear hb4 hb24 hzz fz hw3 hb23
    go_upto_region 20 with fail
    generalize hW7 : World.setCell _ _ _ = W7
    obtain ⟨hz7, hk7, hs7, _⟩ := ten_set (g := q.1) hz4 hW7
    have hw7 : Below w.heap.size w W7 := by subst hW7; go_grown
    obtain ⟨y0, y1, y2, y3, y4, y5, y6, y7, y8, y9, y10⟩ := hz7
    have HS7 := Lib.hid (FS.mono (lo' := w.heap.size) (by omega) (FS.kept (w' := W7) (Nat.le_of_eq hs7.symm) (fun k hk _ => hk7 k (by omega)) HS4.out))
    clear hW7 hk7 hs7 z0 e0 e1 e2 e3 e4 e5 e6 e7 e8 e9
    go_wp2
    refine bodyPost_ret (v := .tuple #[.agg #[.int .i64 q.1.k, .int .i64 q.1.ak, .int .i64 q.1.am, .int .i64 q.1.a, .int .i64 q.1.b, .int .i64 q.1.c, .int .i64 q.1.d, .int .i64 q.1.n, .int .i64 q.1.v, .slice a3 n3 c3], .bool true]) (by simp [results, Tryd.results42, go_sem, y1, y2, y3, y4, y5, y6, y7, y8, y9, y10]) rfl ?_
    unfold JrT
    rw [if_pos HJB.out, HQ.out]
    exact ⟨_, rfl, HS7.out, hw7⟩
  | false =>
    rw [hj] at hvf
    have HJB := Lib.hid hj
    have HV := Lib.hid (l3Valid_no q.1 q.2 w3 W.heap.size _ _ HS3.out hvf)
    have hd : decide ((n : Int) ≤ 600) = decide (n ≤ 600) := by
      by_cases g : n ≤ 600
      · rw [decide_eq_true g, decide_eq_true (by omega)]
      · rw [decide_eq_false g, decide_eq_false (by omega)]
    rw [← hd] at HV
    clear hvf hj hd
    go_wp2_with fail
    refine HV.out.mono ?_
    rintro e w4 ⟨rfl, hb4⟩
    have hb24 := below_on hb23 hb4
    have hz4 := c10_on hzz hb24
    have fz4 : ∀ o, w4.frozen? ⟨w.heap.size, o, none⟩ = false := fun o => ((bcell hb24).2 _ o hzz.1).trans (fz o)
    have hw4 := below_on hw3 hb4
    obtain ⟨z0, e0, e1, e2, e3, e4, e5, e6, e7, e8, e9⟩ := id hz4
    clear hb4 hb24 hzz fz hw3 hb23
    go_upto_region 20 with fail
    generalize hW7 : World.setCell _ _ _ = W7
    obtain ⟨hz7, _, _, _⟩ := ten_set (g := ⟨0, 0, 0, 0, 0, 0, 0, 0, 0⟩) hz4 hW7
    have hw7 : Below w.heap.size w W7 := by subst hW7; go_grown
    obtain ⟨y0, y1, y2, y3, y4, y5, y6, y7, y8, y9, y10⟩ := hz7
    clear hW7 z0 e0 e1 e2 e3 e4 e5 e6 e7 e8 e9
    go_wp2
    refine bodyPost_ret (v := .tuple #[.agg #[.int .i64 0, .int .i64 0, .int .i64 0, .int .i64 0, .int .i64 0, .int .i64 0, .int .i64 0, .int .i64 0, .int .i64 0, .slice none 0 0], .bool false]) (by simp [results, Tryd.results42, go_sem, y1, y2, y3, y4, y5, y6, y7, y8, y9, y10]) rfl ?_
    unfold JrT
    rw [if_neg (by rw [HJB.out]; simp)]
    exact ⟨rfl, hw7⟩

end Go.Proofs.YtmkflokcficmoaaDoor

/- Contracts of the model's JoinAll and JoinAny. -/
namespace Go.Proofs.YtmkflokcficmoaaDoor
open Go.RowKit

/-- What the model answers: a copy, whose list is not nil. -/
def JsT (b : Bool) (f : Fo) (w : World) (e : Ending) (w' : World) : Prop :=
  if jB b f = true then ∃ s, e = .returned (.tuple #[.agg #[.int .i64 (jA b f).1.k, .int .i64 (jA b f).1.ak, .int .i64 (jA b f).1.am, .int .i64 (jA b f).1.a, .int .i64 (jA b f).1.b, .int .i64 (jA b f).1.c, .int .i64 (jA b f).1.d, .int .i64 (jA b f).1.n, .int .i64 (jA b f).1.v, s], .bool true]) ∧ FS w' w.heap.size (jA b f).2 s ∧ Below w.heap.size w w'
  else ∃ s, e = .returned (.tuple #[.agg #[.int .i64 0, .int .i64 0, .int .i64 0, .int .i64 0, .int .i64 0, .int .i64 0, .int .i64 0, .int .i64 0, .int .i64 0, s], .bool false]) ∧ FS w' w.heap.size .nil s ∧ Below w.heap.size w w'
theorem jB_size {b : Bool} {f : Fo} (h : jB b f = true) : (jA b f).2.size ≤ 1048576 := by
  unfold jB at h
  simp only [Bool.and_eq_true, decide_eq_true_eq] at h
  omega

set_option maxRecDepth 10000 in
set_option maxHeartbeats 2000000 in
theorem specJoinAny_any (f : Fo) (w : World) (lo : Nat) (s : Value) (hz : f.size ≤ 1048576) (hs : FS w lo f s) : Calls Tryd.prog 27 #[s] w (JsT false f w) := by
  have HC := Lib.hid (fun W hW => l3RawJoinAny_any f W lo s hz (FS.below (w := w) hW (Nat.le_refl _) hs))
  obtain ⟨sa, sn, sc, rfl⟩ := hs.slice
  clear hs
  go_enter Tryd.func27, Tryd.ntmps27
  go_wp2_with fail
  generalize hW : World.alloc _ _ = W
  have hw : Below w.heap.size w W := by subst hW; go_grown
  have hx : C10 W w.heap.size ⟨0, 0, 0, 0, 0, 0, 0, 0, 0⟩ (.slice none 0 0) := by subst hW; exact (by refine ⟨?_, ?_, ?_, ?_, ?_, ?_, ?_, ?_, ?_, ?_, ?_⟩ <;> first | (simp [go_sem]; done) | (simp; omega))
  have hf : ∀ o, W.frozen? ⟨w.heap.size, o, none⟩ = false := fun o => by subst hW; simp [go_sem]
  clear hW
  refine (HC.out W hw).mono ?_
  intro e w3 hpost
  unfold JrT at hpost
  cases hj : jB false f with
  | true =>
    have HJB := Lib.hid hj
    clear hj
    rw [if_pos HJB.out] at hpost
    obtain ⟨s3, rfl, hs3, hb3⟩ := hpost
    have hsz := jB_size HJB.out
    obtain ⟨q, hq⟩ : ∃ q, jA false f = q := ⟨_, rfl⟩
    have HQ := Lib.hid hq
    rw [hq] at hs3 hsz ⊢
    obtain ⟨ta, tn, tc, rfl⟩ := hs3.slice
    have HS3 := Lib.hid hs3
    have HO := Lib.hid (fun V hV => olF_any q.1 q.2 V W.heap.size _ hsz (FS.below (w := w3) hV (Nat.le_refl _) HS3.out))
    clear hs3 hq hsz
    have hx3 := c10_on hx hb3
    have hf3 : ∀ o, w3.frozen? ⟨w.heap.size, o, none⟩ = false := fun o => ((bcell hb3).2 _ o hx.1).trans (hf o)
    have hw3 := below_on hw hb3
    clear hb3 hx hf hw
    go_wp2_with fail
    generalize hV : World.alloc _ _ = V
    have hbV : Below w3.heap.size w3 V := by subst hV; go_grown
    clear hV
    refine (HO.out V hbV).mono ?_
    rintro e w4 ⟨s4, rfl, hs4, hb4⟩
    obtain ⟨a4, n4, c4, rfl⟩ := hs4.slice
    have HS4 := Lib.hid (SF.fs (Nat.le_refl _) hs4)
    have hb34 := below_on hbV hb4
    have hx4 := c10_on hx3 hb34
    have hf4 : ∀ o, w4.frozen? ⟨w.heap.size, o, none⟩ = false := fun o => ((bcell hb34).2 _ o hx3.1).trans (hf3 o)
    have hw4 := below_on hw3 hb34
    have hwV : w.heap.size < V.heap.size := Nat.lt_of_lt_of_le hx3.1 hbV.size
    obtain ⟨x0, c0, c1, c2, c3, c4', c5, c6, c7, c8, c9⟩ := id hx4
    clear hs4 hb4 hb34 hbV hx3 hf3 hw3
    go_upto_region 20 with fail
    generalize hW7 : World.setCell _ _ _ = W7
    obtain ⟨hx7, hk7, hs7, _⟩ := ten_set (g := q.1) hx4 hW7
    have hw7 : Below w.heap.size w W7 := by subst hW7; go_grown
    have HS7 := Lib.hid (FS.mono (lo' := w.heap.size) (by omega) (FS.kept (w' := W7) (Nat.le_of_eq hs7.symm) (fun k hk _ => hk7 k (by omega)) HS4.out))
    obtain ⟨z0, k0, k1, k2, k3, k4, k5, k6, k7, k8, k9⟩ := hx7
    clear hW7 hk7 hs7 x0 c0 c1 c2 c3 c4' c5 c6 c7 c8 c9
    go_wp2
    refine bodyPost_ret (v := .tuple #[.agg #[.int .i64 q.1.k, .int .i64 q.1.ak, .int .i64 q.1.am, .int .i64 q.1.a, .int .i64 q.1.b, .int .i64 q.1.c, .int .i64 q.1.d, .int .i64 q.1.n, .int .i64 q.1.v, .slice a4 n4 c4], .bool true]) (by simp [results, Tryd.results27, go_sem, k0, k1, k2, k3, k4, k5, k6, k7, k8, k9]) rfl ?_
    unfold JsT
    rw [if_pos HJB.out, HQ.out]
    exact ⟨_, rfl, HS7.out, hw7⟩
  | false =>
    have HJB := Lib.hid hj
    clear hj
    rw [if_neg (by rw [HJB.out]; simp)] at hpost
    obtain ⟨rfl, hb3⟩ := hpost
    have HO := Lib.hid (fun V => olF_any ⟨0, 0, 0, 0, 0, 0, 0, 0, 0⟩ .nil V W.heap.size (.slice none 0 0) (by decide) (.inl ⟨rfl, none, 0, rfl, Nat.le_refl _, Nat.zero_le _⟩))
    have hx3 := c10_on hx hb3
    have hf3 : ∀ o, w3.frozen? ⟨w.heap.size, o, none⟩ = false := fun o => ((bcell hb3).2 _ o hx.1).trans (hf o)
    have hw3 := below_on hw hb3
    clear hb3 hx hf hw
    go_wp2_with fail
    generalize hV : World.alloc _ _ = V
    have hbV : Below w3.heap.size w3 V := by subst hV; go_grown
    clear hV
    refine (HO.out V).mono ?_
    rintro e w4 ⟨s4, rfl, hs4, hb4⟩
    obtain ⟨a4, n4, c4, rfl⟩ := hs4.slice
    have HS4 := Lib.hid (SF.fs (Nat.le_refl _) hs4)
    have hb34 := below_on hbV hb4
    have hx4 := c10_on hx3 hb34
    have hf4 : ∀ o, w4.frozen? ⟨w.heap.size, o, none⟩ = false := fun o => ((bcell hb34).2 _ o hx3.1).trans (hf3 o)
    have hw4 := below_on hw3 hb34
    have hwV : w.heap.size < V.heap.size := Nat.lt_of_lt_of_le hx3.1 hbV.size
    obtain ⟨x0, c0, c1, c2, c3, c4', c5, c6, c7, c8, c9⟩ := id hx4
    clear hs4 hb4 hb34 hbV hx3 hf3 hw3
    go_upto_region 20 with fail
    generalize hW7 : World.setCell _ _ _ = W7
    obtain ⟨hx7, hk7, hs7, _⟩ := ten_set (g := ⟨0, 0, 0, 0, 0, 0, 0, 0, 0⟩) hx4 hW7
    have hw7 : Below w.heap.size w W7 := by subst hW7; go_grown
    have HS7 := Lib.hid (FS.mono (lo' := w.heap.size) (by omega) (FS.kept (w' := W7) (Nat.le_of_eq hs7.symm) (fun k hk _ => hk7 k (by omega)) HS4.out))
    obtain ⟨z0, k0, k1, k2, k3, k4, k5, k6, k7, k8, k9⟩ := hx7
    clear hW7 hk7 hs7 x0 c0 c1 c2 c3 c4' c5 c6 c7 c8 c9
    go_wp2
    refine bodyPost_ret (v := .tuple #[.agg #[.int .i64 0, .int .i64 0, .int .i64 0, .int .i64 0, .int .i64 0, .int .i64 0, .int .i64 0, .int .i64 0, .int .i64 0, .slice a4 n4 c4], .bool false]) (by simp [results, Tryd.results27, go_sem, k0, k1, k2, k3, k4, k5, k6, k7, k8, k9]) rfl ?_
    unfold JsT
    rw [if_neg (by rw [HJB.out]; simp)]
    exact ⟨_, rfl, HS7.out, hw7⟩

end Go.Proofs.YtmkflokcficmoaaDoor

/- The walks of the laws that say that JoinAll and JoinAny answer as their models do. -/
namespace Go.Proofs.YtmkflokcficmoaaDoor
open Go.RowKit

/-- The joined formula, or the zero one. -/
def jR (b : Bool) (f : Fo) : FH × Fo := if jB b f = true then jA b f else (⟨0, 0, 0, 0, 0, 0, 0, 0, 0⟩, .nil)
theorem jR_size (b : Bool) (f : Fo) : (jR b f).2.size ≤ 600 := by
  unfold jR
  split
  · rename_i h
    unfold jB at h
    simp only [Bool.and_eq_true, decide_eq_true_eq] at h
    omega
  · simp [Fo.size]
theorem js_of {b : Bool} {f : Fo} {w : World} {e : Ending} {w' : World} (h : JsT b f w e w') : ∃ s, e = .returned (.tuple #[.agg #[.int .i64 (jR b f).1.k, .int .i64 (jR b f).1.ak, .int .i64 (jR b f).1.am, .int .i64 (jR b f).1.a, .int .i64 (jR b f).1.b, .int .i64 (jR b f).1.c, .int .i64 (jR b f).1.d, .int .i64 (jR b f).1.n, .int .i64 (jR b f).1.v, s], .bool (jB b f)]) ∧ FS w' w.heap.size (jR b f).2 s ∧ Below w.heap.size w w' := by
  unfold JsT at h
  unfold jR
  cases hj : jB b f with
  | true =>
    rw [if_pos hj] at h
    rw [if_pos rfl]
    exact h
  | false =>
    rw [if_neg (by rw [hj]; simp)] at h
    rw [if_neg (by simp)]
    exact h
theorem jf_of {b : Bool} {f : Fo} {w : World} {e : Ending} {w' : World} (h : JfT b f w e w') : ∃ s, e = .returned (.tuple #[.agg #[.int .i64 (jR b f).1.k, .int .i64 (jR b f).1.ak, .int .i64 (jR b f).1.am, .int .i64 (jR b f).1.a, .int .i64 (jR b f).1.b, .int .i64 (jR b f).1.c, .int .i64 (jR b f).1.d, .int .i64 (jR b f).1.n, .int .i64 (jR b f).1.v, s], .bool (jB b f)]) ∧ SF w' w.heap.size w'.heap.size (jR b f).2 s ∧ Below w.heap.size w w' := by
  unfold JfT at h
  unfold jR
  cases hj : jB b f with
  | true =>
    rw [if_pos hj] at h
    rw [if_pos rfl]
    exact h
  | false =>
    rw [if_neg (by rw [hj]; simp)] at h
    rw [if_neg (by simp)]
    exact ⟨.slice none 0 0, h.1, .inl ⟨rfl, none, 0, rfl, Nat.le_refl _, Nat.zero_le _⟩, h.2⟩
theorem sf_keeps {w w' : World} {lo hi l m : Nat} {f : Fo} {s : Value} (hs : SF w l m f s) (hk : Keeps lo hi w w') (hl : hi ≤ l) (hm : m ≤ w.heap.size) : SF w' l m f s :=
  SF.same (fun x h1 h2 => hk.block x (by omega) (.inr (by omega))) hs
theorem c10_keeps {w w' : World} {lo hi x : Nat} {h : FH} {s : Value} (hx : C10 w x h s) (hk : Keeps lo hi w w') (hl : hi ≤ x ∨ x < lo) : C10 w' x h s :=
  c10_block hk.size (hk.block x hx.1 (by omega)) hx

end Go.Proofs.YtmkflokcficmoaaDoor
