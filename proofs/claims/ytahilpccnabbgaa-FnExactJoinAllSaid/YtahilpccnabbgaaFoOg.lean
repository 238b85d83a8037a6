/- The contract of formulaOf. -/
import Derived.Test.YtahilpccnabbgaaOwnG
import Derived.Test.YtahilpccnabbgaaOwn3
import Derived.Test.YtahilpccnabbgaaFoOf
import Derived.Test.YtahilpccnabbgaaFormR
import Derived.Deep.RegionHeld3
namespace Go.Proofs.Ytahilpccnabbgaa
open Go.RowKit

set_option maxRecDepth 10000 in
set_option maxHeartbeats 2000000 in
theorem fo_n (h : FH) (t : TypeId) (y : Value) (h1 : FH) (f1 : Fo) (OWN : ∀ w, Calls Try.prog 95 #[.iface 95 (.agg #[.iface t y])] w (OwT h w)) (HC : FoAt (.iface t y) h1 f1) : FoAt (.iface 95 (.agg #[.iface t y])) h (.cons h1 f1 .nil) := by
  intro w
  have H := Lib.hid HC
  have HOWN := Lib.hid OWN
  clear HC OWN
  go_enter Try.func89, Try.ntmps89
  go_wp2_with fail
  generalize hW : World.alloc _ _ = W
  have hw : Below w.heap.size w W := by subst hW; go_grown
  have hx : C10 W w.heap.size ⟨0, 0, 0, 0, 0, 0, 0, 0, 0⟩ (.slice none 0 0) := by subst hW; exact (by refine ⟨?_, ?_, ?_, ?_, ?_, ?_, ?_, ?_, ?_, ?_, ?_⟩ <;> first | (simp [go_sem]; done) | (simp; omega))
  have hf : ∀ o, W.frozen? ⟨w.heap.size, o, none⟩ = false := fun o => by subst hW; simp [go_sem]
  clear hW
  refine (HOWN.out _).mono ?_
  rintro e w1 ⟨rfl, hb1⟩
  have hw1 := below_on hw hb1
  have hf1 : ∀ o, w1.frozen? ⟨w.heap.size, o, none⟩ = false := fun o => ((bcell hb1).2 _ o hx.1).trans (hf o)
  have hx1 := c10_on hx hb1
  clear hx hf hb1 hw HOWN
  go_upto_region 2 with fail
  generalize hW2 : World.alloc _ _ = W2
  have hw2 : Below w1.heap.size w1 W2 := by subst hW2; go_grown
  have hy2 : C10 W2 w1.heap.size h (.slice none 0 0) := by subst hW2; exact (by refine ⟨?_, ?_, ?_, ?_, ?_, ?_, ?_, ?_, ?_, ?_, ?_⟩ <;> first | (simp [go_sem]; done) | (simp; omega))
  have hg2 : ∀ o, W2.frozen? ⟨w1.heap.size, o, none⟩ = false := fun o => by subst hW2; simp [go_sem]
  have hx2 := c10_on hx1 hw2
  have hf2 : ∀ o, W2.frozen? ⟨w.heap.size, o, none⟩ = false := fun o => ((bcell hw2).2 _ o hx1.1).trans (hf1 o)
  have hne : w.heap.size < w1.heap.size := hx1.1
  have hww2 := below_on hw1 hw2
  clear hW2 hx1 hf1 hw1 hw2
  go_wp2
  generalize hW3 : World.alloc _ _ = W3
  have hw3 : Below W2.heap.size W2 W3 := by subst hW3; go_grown
  have hc3 : W3.cell? ⟨W2.heap.size + 1, 0, none⟩ = some (.iface t y) := by subst hW3; simp [go_sem]
  have hy3 := c10_on hy2 hw3
  have hx3 := c10_on hx2 hw3
  have hg3 : ∀ o, W3.frozen? ⟨w1.heap.size, o, none⟩ = false := fun o => ((bcell hw3).2 _ o hy2.1).trans (hg2 o)
  have hf3 : ∀ o, W3.frozen? ⟨w.heap.size, o, none⟩ = false := fun o => ((bcell hw3).2 _ o hx2.1).trans (hf2 o)
  have hww3 := below_on hww2 hw3
  clear hW3 hx2 hy2 hf2 hg2 hww2 hw3
  refine wp_loop_rounds 2 ?_
  rw [rounds_succ]
  go_upto_region 5 with fail
  have HX3 := Lib.hid hx3
  have HY3 := Lib.hid hy3
  have HF3 := Lib.hid hf3
  obtain ⟨y0, d0, d1, d2, d3, d4, d5, d6, d7, d8, d9⟩ := hy3
  clear hx3 hf3 hc3 d0 d1 d2 d3 d4 d5 d6 d7 d8
  refine wp_region_held_drew (S := fun _ => True) (by kernel_rfl) trivial (fun _ => ?_)
  refine wpAnyH_take (i := 0) (oi := { dst := some 15, op := Go.Op.fieldAddr 30 (Go.Operand.tmp 3) 3, type := 0, pos := "l3_formulas.go:223", after := #[], guard := none }) (v := ?_) rfl (by kernel_rfl) (by kernel_rfl) (by kernel_rfl) (fun _ _ _ h => h) (Or.inl ⟨by rfl, ?_⟩) (by assumption) ?_
  rotate_left
  · (intro w _; first | (go_simp; done) | (go_simp; with_reducible rfl))
  try simp only [Act.put, List.setIfInBounds_toArray, List.set_cons_zero, List.set_cons_succ]
  refine wpAnyH_take (i := 2) (oi := { dst := some 17, op := Go.Op.move (Go.Operand.tmp 5), type := 78, pos := "l3_formulas.go:223", after := #[], guard := none }) (v := ?_) rfl (by kernel_rfl) (by kernel_rfl) (by kernel_rfl) (fun _ _ _ h => h) (Or.inl ⟨by rfl, ?_⟩) (by assumption) ?_
  rotate_left
  · (intro w _; first | (go_simp; done) | (go_simp; with_reducible rfl))
  try simp only [Act.put, List.setIfInBounds_toArray, List.set_cons_zero, List.set_cons_succ]
  refine wpAnyH_ready (rs := [1, 3]) (by kernel_rfl) (by simp) ?_
  refine AllReadyH.cons (o := { dst := some 16, op := Go.Op.load 28 (Go.Operand.tmp 15), type := 28, pos := "l3_formulas.go:223", after := #[{ on := 0, ground := Go.Ground.data }], guard := none }) rfl (fun K hK => ?_) (AllReadyH.cons (o := { dst := some 18, op := Go.Op.call { callee := Go.Callee.value (Go.Operand.func 89), args := #[Go.Operand.tmp 17], argTypes := #[78] }, type := 30, pos := "l3_formulas.go:223", after := #[{ on := 2, ground := Go.Ground.data }], guard := none }) rfl (fun K hK => ?_) AllReadyH.nil)
  ·
    go_simp
    refine hK.out _ _ trivial (fun _ => ?_)
    clear hK K
    try simp only [Act.put, List.setIfInBounds_toArray, List.set_cons_zero, List.set_cons_succ]
    refine wpAnyH_ready (rs := [3]) (by kernel_rfl) (by simp) ?_
    refine AllReadyH.cons (o := { dst := some 18, op := Go.Op.call { callee := Go.Callee.value (Go.Operand.func 89), args := #[Go.Operand.tmp 17], argTypes := #[78] }, type := 30, pos := "l3_formulas.go:223", after := #[{ on := 2, ground := Go.Ground.data }], guard := none }) rfl (fun K hK => ?_) AllReadyH.nil
    go_simp
    (go_at_call 89; refine (H.out _).mono ?_; rintro e w4 ⟨s4, rfl, hs4, hb4⟩; obtain ⟨ga, gn, gc, rfl⟩ := hs4.slice; have hlt4 : w1.heap.size < w4.heap.size := Nat.lt_of_lt_of_le y0 hb4.size; have hd9 : w4.cell? ⟨w1.heap.size, 9, none⟩ = some (.slice none 0 0) := ((bcell hb4).1 _ 9 y0).trans d9; obtain ⟨g, cap, w5, hr5, ho5, hb5⟩ := fo_first h1 ga gn gc w4; have hf5 : ∀ o, w5.frozen? ⟨w1.heap.size, o, none⟩ = false := (fun o => ((bcell hb5).2 _ o (Nat.lt_of_lt_of_le y0 hb4.size)).trans (((bcell hb4).2 _ o y0).trans (hg3 o))); have he9 : w5.cell? ⟨w1.heap.size, 9, none⟩ = some (.slice none 0 0) := ((bcell hb5).1 _ 9 (Nat.lt_of_lt_of_le y0 hb4.size)).trans hd9)
    refine hK.out _ _ trivial (fun _ => ?_)
    clear hK K
    try simp only [Act.put, List.setIfInBounds_toArray, List.set_cons_zero, List.set_cons_succ]
    refine wpAnyH_ready (rs := [4]) (by kernel_rfl) (by simp) ?_
    refine AllReadyH.cons (o := { dst := some 19, op := Go.Op.buildSlice 28 1 #[(0, Go.Operand.tmp 18)], type := 28, pos := "l3_formulas.go:223", after := #[{ on := 3, ground := Go.Ground.data }], guard := none }) rfl (fun K hK => ?_) AllReadyH.nil
    go_simp
    refine hK.out _ _ trivial (fun _ => ?_)
    clear hK K
    try simp only [Act.put, List.setIfInBounds_toArray, List.set_cons_zero, List.set_cons_succ]
    refine wpAnyH_ready (rs := [5]) (by kernel_rfl) (by simp) ?_
    refine AllReadyH.cons (o := { dst := some 20, op := Go.Op.call { callee := Go.Callee.builtin Go.Builtin.append, args := #[Go.Operand.tmp 16, Go.Operand.tmp 19], argTypes := #[28, 28] }, type := 28, pos := "l3_formulas.go:223", after := #[{ on := 1, ground := Go.Ground.data }, { on := 4, ground := Go.Ground.data }, { on := 3, ground := Go.Ground.chain }], guard := none }) rfl (fun K hK => ?_) AllReadyH.nil
    rw [if_pos (by rfl)]
    (refine oper_append _ _ _ rfl rfl rfl hr5 ?_)
    refine hK.out _ _ trivial (fun _ => ?_)
    clear hK K
    try simp only [Act.put, List.setIfInBounds_toArray, List.set_cons_zero, List.set_cons_succ]
    refine wpAnyH_take (i := 6) (oi := { dst := some 21, op := Go.Op.fieldAddr 30 (Go.Operand.tmp 3) 3, type := 0, pos := "l3_formulas.go:223", after := #[{ on := 0, ground := Go.Ground.phase }, { on := 1, ground := Go.Ground.phase }, { on := 2, ground := Go.Ground.phase }, { on := 3, ground := Go.Ground.phase }, { on := 4, ground := Go.Ground.phase }, { on := 5, ground := Go.Ground.phase }], guard := none }) (v := ?_) rfl (by kernel_rfl) (by kernel_rfl) (by kernel_rfl) (fun _ _ _ h => h) (Or.inl ⟨by rfl, ?_⟩) (by assumption) ?_
    rotate_left
    · (intro w _; first | (go_simp; done) | (go_simp; with_reducible rfl))
    try simp only [Act.put, List.setIfInBounds_toArray, List.set_cons_zero, List.set_cons_succ]
    refine wpAnyH_ready (rs := [7]) (by kernel_rfl) (by simp) ?_
    refine AllReadyH.cons (o := { dst := none, op := Go.Op.store 28 (Go.Operand.tmp 21) (Go.Operand.tmp 20), type := 0, pos := "l3_formulas.go:223", after := #[{ on := 6, ground := Go.Ground.data }, { on := 5, ground := Go.Ground.data }, { on := 5, ground := Go.Ground.chain }, { on := 0, ground := Go.Ground.phase }, { on := 1, ground := Go.Ground.phase }, { on := 2, ground := Go.Ground.phase }, { on := 3, ground := Go.Ground.phase }, { on := 4, ground := Go.Ground.phase }, { on := 5, ground := Go.Ground.phase }], guard := none }) rfl (fun K hK => ?_) AllReadyH.nil
    go_simp
    refine hK.out _ _ trivial (fun _ => ?_)
    clear hK K
    try simp only [Act.put, List.setIfInBounds_toArray, List.set_cons_zero, List.set_cons_succ]
    refine wpAnyH_done (by kernel_rfl) ?_ _
    have hb34 := below_on (w := W3.drew) hb4 hb5
    have hx5 := c10_on (W := W3.drew) HX3.out hb34
    have hy5 := c10_on (W := W3.drew) HY3.out hb34
    have hfx5 : ∀ o, w5.frozen? ⟨w.heap.size, o, none⟩ = false := fun o => ((bcell hb34).2 _ o HX3.out.1).trans (HF3.out o)
    have HS5 := Lib.hid (sf_one ho5 (SF.below hb5 (Nat.le_refl _) hs4) hb4.size)
    have hww5 : Below w.heap.size w w5 := below_on (W := W3.drew) (Below.drew hww3) hb34
    have hsz35 : W3.heap.size ≤ w5.heap.size := hb34.size
    generalize hW6 : World.setCell _ _ _ = W6
    have hblk6 : ∀ x, x ≠ w1.heap.size → W6.heap[x]? = w5.heap[x]? := fun x hx => by subst hW6; exact Below.heap_setCell _ _ _ _ (by dsimp only; omega)
    have hsz6 : W6.heap.size = w5.heap.size := by subst hW6; simp [World.setCell]
    have hww6 : Below w.heap.size w W6 := by subst hW6; exact hww5.setCell (Nat.le_of_lt hne) _
    have hx6 : C10 W6 w.heap.size ⟨0, 0, 0, 0, 0, 0, 0, 0, 0⟩ (.slice none 0 0) := c10_block (by omega) (hblk6 _ (by omega)) hx5
    have hf6 : ∀ o, W6.frozen? ⟨w.heap.size, o, none⟩ = false := fun o => (World.frozen?_of_block (a := ⟨w.heap.size, o, none⟩) (hblk6 w.heap.size (by omega))).trans (hfx5 o)
    have hy6 : C10 W6 w1.heap.size h (.slice (some ⟨g, 0, none⟩) 1 cap) := by
      obtain ⟨y0', e0, e1, e2, e3, e4, e5, e6, e7, e8, e9⟩ := hy5
      subst hW6
      refine ⟨by simpa [World.setCell] using y0', ?_, ?_, ?_, ?_, ?_, ?_, ?_, ?_, ?_, ?_⟩ <;> simp [go_sem, *]
    have HS6 := Lib.hid (SF.same (w' := W6) (fun x h1 _ => hblk6 x (by have := y0; have h2 : W3.heap.size ≤ x := h1; omega)) HS5.out)
    have hsz36 : W3.heap.size ≤ W6.heap.size := by omega
    have hlo : w.heap.size < W3.heap.size := by omega
    rw [← hsz6] at HS6
    clear hW6 hblk6 hww5 HS5 hfx5 hx5 hy5 hb34 hs4 hb4 hb5 ho5 hr5 hf5 he9 hd9 hsz35 hsz6 HX3 HY3 HF3
    obtain ⟨x0, c0, c1, c2, c3, c4, c5, c6, c7, c8, c9⟩ := id hx6
    obtain ⟨y1, e0, e1, e2, e3, e4, e5, e6, e7, e8, e9⟩ := hy6
    go_wp2_with fail
    rw [rounds_succ]
    go_wp2_with fail
    generalize hW7 : World.setCell _ _ _ = W7
    have hblk7 : ∀ x, x ≠ w.heap.size → W7.heap[x]? = W6.heap[x]? := fun x hx => by subst hW7; repeat rw [Below.heap_setCell _ _ _ _ (by dsimp only; omega)]
    have hsz7 : W7.heap.size = W6.heap.size := by subst hW7; simp [World.setCell]
    obtain ⟨hx7, hb7⟩ := put10b (g := h) hx6 hW7
    have hww7 := hww6.trans (hb7 w.heap.size (Nat.le_refl _))
    have HS7 : Hid (SF W7 w.heap.size W7.heap.size (.cons h1 f1 .nil) (.slice (some ⟨g, 0, none⟩) 1 cap)) := by
      have h0 := SF.same (w' := W7) (fun x h1 _ => hblk7 x (by have h2 : W3.heap.size ≤ x := h1; omega)) HS6.out
      exact SF.mono (Nat.le_of_lt hlo) (by omega) h0
    obtain ⟨z0, k0, k1, k2, k3, k4, k5, k6, k7, k8, k9⟩ := hx7
    (try simp only [Exit.inBlock, Exit.then])
    refine bodyPost_ret (v := .agg #[.int .i64 h.k, .int .i64 h.ak, .int .i64 h.am, .int .i64 h.a, .int .i64 h.b, .int .i64 h.c, .int .i64 h.d, .int .i64 h.n, .int .i64 h.v, .slice (some ⟨g, 0, none⟩) 1 cap]) ?_ rfl ⟨_, rfl, HS7.out, hww7⟩
    rw [results_cell1 rfl]
    go_simp
  ·
    go_simp
    (go_at_call 89; refine (H.out _).mono ?_; rintro e w4 ⟨s4, rfl, hs4, hb4⟩; obtain ⟨ga, gn, gc, rfl⟩ := hs4.slice; have hlt4 : w1.heap.size < w4.heap.size := Nat.lt_of_lt_of_le y0 hb4.size; have hd9 : w4.cell? ⟨w1.heap.size, 9, none⟩ = some (.slice none 0 0) := ((bcell hb4).1 _ 9 y0).trans d9; obtain ⟨g, cap, w5, hr5, ho5, hb5⟩ := fo_first h1 ga gn gc w4; have hf5 : ∀ o, w5.frozen? ⟨w1.heap.size, o, none⟩ = false := (fun o => ((bcell hb5).2 _ o (Nat.lt_of_lt_of_le y0 hb4.size)).trans (((bcell hb4).2 _ o y0).trans (hg3 o))); have he9 : w5.cell? ⟨w1.heap.size, 9, none⟩ = some (.slice none 0 0) := ((bcell hb5).1 _ 9 (Nat.lt_of_lt_of_le y0 hb4.size)).trans hd9)
    refine hK.out _ _ trivial (fun _ => ?_)
    clear hK K
    try simp only [Act.put, List.setIfInBounds_toArray, List.set_cons_zero, List.set_cons_succ]
    refine wpAnyH_ready (rs := [1, 4]) (by kernel_rfl) (by simp) ?_
    refine AllReadyH.cons (o := { dst := some 16, op := Go.Op.load 28 (Go.Operand.tmp 15), type := 28, pos := "l3_formulas.go:223", after := #[{ on := 0, ground := Go.Ground.data }], guard := none }) rfl (fun K hK => ?_) (AllReadyH.cons (o := { dst := some 19, op := Go.Op.buildSlice 28 1 #[(0, Go.Operand.tmp 18)], type := 28, pos := "l3_formulas.go:223", after := #[{ on := 3, ground := Go.Ground.data }], guard := none }) rfl (fun K hK => ?_) AllReadyH.nil)
    ·
      go_simp
      refine hK.out _ _ trivial (fun _ => ?_)
      clear hK K
      try simp only [Act.put, List.setIfInBounds_toArray, List.set_cons_zero, List.set_cons_succ]
      refine wpAnyH_ready (rs := [4]) (by kernel_rfl) (by simp) ?_
      refine AllReadyH.cons (o := { dst := some 19, op := Go.Op.buildSlice 28 1 #[(0, Go.Operand.tmp 18)], type := 28, pos := "l3_formulas.go:223", after := #[{ on := 3, ground := Go.Ground.data }], guard := none }) rfl (fun K hK => ?_) AllReadyH.nil
      go_simp
      refine hK.out _ _ trivial (fun _ => ?_)
      clear hK K
      try simp only [Act.put, List.setIfInBounds_toArray, List.set_cons_zero, List.set_cons_succ]
      refine wpAnyH_ready (rs := [5]) (by kernel_rfl) (by simp) ?_
      refine AllReadyH.cons (o := { dst := some 20, op := Go.Op.call { callee := Go.Callee.builtin Go.Builtin.append, args := #[Go.Operand.tmp 16, Go.Operand.tmp 19], argTypes := #[28, 28] }, type := 28, pos := "l3_formulas.go:223", after := #[{ on := 1, ground := Go.Ground.data }, { on := 4, ground := Go.Ground.data }, { on := 3, ground := Go.Ground.chain }], guard := none }) rfl (fun K hK => ?_) AllReadyH.nil
      rw [if_pos (by rfl)]
      (refine oper_append _ _ _ rfl rfl rfl hr5 ?_)
      refine hK.out _ _ trivial (fun _ => ?_)
      clear hK K
      try simp only [Act.put, List.setIfInBounds_toArray, List.set_cons_zero, List.set_cons_succ]
      refine wpAnyH_take (i := 6) (oi := { dst := some 21, op := Go.Op.fieldAddr 30 (Go.Operand.tmp 3) 3, type := 0, pos := "l3_formulas.go:223", after := #[{ on := 0, ground := Go.Ground.phase }, { on := 1, ground := Go.Ground.phase }, { on := 2, ground := Go.Ground.phase }, { on := 3, ground := Go.Ground.phase }, { on := 4, ground := Go.Ground.phase }, { on := 5, ground := Go.Ground.phase }], guard := none }) (v := ?_) rfl (by kernel_rfl) (by kernel_rfl) (by kernel_rfl) (fun _ _ _ h => h) (Or.inl ⟨by rfl, ?_⟩) (by assumption) ?_
      rotate_left
      · (intro w _; first | (go_simp; done) | (go_simp; with_reducible rfl))
      try simp only [Act.put, List.setIfInBounds_toArray, List.set_cons_zero, List.set_cons_succ]
      refine wpAnyH_ready (rs := [7]) (by kernel_rfl) (by simp) ?_
      refine AllReadyH.cons (o := { dst := none, op := Go.Op.store 28 (Go.Operand.tmp 21) (Go.Operand.tmp 20), type := 0, pos := "l3_formulas.go:223", after := #[{ on := 6, ground := Go.Ground.data }, { on := 5, ground := Go.Ground.data }, { on := 5, ground := Go.Ground.chain }, { on := 0, ground := Go.Ground.phase }, { on := 1, ground := Go.Ground.phase }, { on := 2, ground := Go.Ground.phase }, { on := 3, ground := Go.Ground.phase }, { on := 4, ground := Go.Ground.phase }, { on := 5, ground := Go.Ground.phase }], guard := none }) rfl (fun K hK => ?_) AllReadyH.nil
      go_simp
      refine hK.out _ _ trivial (fun _ => ?_)
      clear hK K
      try simp only [Act.put, List.setIfInBounds_toArray, List.set_cons_zero, List.set_cons_succ]
      refine wpAnyH_done (by kernel_rfl) ?_ _
      have hb34 := below_on (w := W3.drew) hb4 hb5
      have hx5 := c10_on (W := W3.drew) HX3.out hb34
      have hy5 := c10_on (W := W3.drew) HY3.out hb34
      have hfx5 : ∀ o, w5.frozen? ⟨w.heap.size, o, none⟩ = false := fun o => ((bcell hb34).2 _ o HX3.out.1).trans (HF3.out o)
      have HS5 := Lib.hid (sf_one ho5 (SF.below hb5 (Nat.le_refl _) hs4) hb4.size)
      have hww5 : Below w.heap.size w w5 := below_on (W := W3.drew) (Below.drew hww3) hb34
      have hsz35 : W3.heap.size ≤ w5.heap.size := hb34.size
      generalize hW6 : World.setCell _ _ _ = W6
      have hblk6 : ∀ x, x ≠ w1.heap.size → W6.heap[x]? = w5.heap[x]? := fun x hx => by subst hW6; exact Below.heap_setCell _ _ _ _ (by dsimp only; omega)
      have hsz6 : W6.heap.size = w5.heap.size := by subst hW6; simp [World.setCell]
      have hww6 : Below w.heap.size w W6 := by subst hW6; exact hww5.setCell (Nat.le_of_lt hne) _
      have hx6 : C10 W6 w.heap.size ⟨0, 0, 0, 0, 0, 0, 0, 0, 0⟩ (.slice none 0 0) := c10_block (by omega) (hblk6 _ (by omega)) hx5
      have hf6 : ∀ o, W6.frozen? ⟨w.heap.size, o, none⟩ = false := fun o => (World.frozen?_of_block (a := ⟨w.heap.size, o, none⟩) (hblk6 w.heap.size (by omega))).trans (hfx5 o)
      have hy6 : C10 W6 w1.heap.size h (.slice (some ⟨g, 0, none⟩) 1 cap) := by
        obtain ⟨y0', e0, e1, e2, e3, e4, e5, e6, e7, e8, e9⟩ := hy5
        subst hW6
        refine ⟨by simpa [World.setCell] using y0', ?_, ?_, ?_, ?_, ?_, ?_, ?_, ?_, ?_, ?_⟩ <;> simp [go_sem, *]
      have HS6 := Lib.hid (SF.same (w' := W6) (fun x h1 _ => hblk6 x (by have := y0; have h2 : W3.heap.size ≤ x := h1; omega)) HS5.out)
      have hsz36 : W3.heap.size ≤ W6.heap.size := by omega
      have hlo : w.heap.size < W3.heap.size := by omega
      rw [← hsz6] at HS6
      clear hW6 hblk6 hww5 HS5 hfx5 hx5 hy5 hb34 hs4 hb4 hb5 ho5 hr5 hf5 he9 hd9 hsz35 hsz6 HX3 HY3 HF3
      obtain ⟨x0, c0, c1, c2, c3, c4, c5, c6, c7, c8, c9⟩ := id hx6
      obtain ⟨y1, e0, e1, e2, e3, e4, e5, e6, e7, e8, e9⟩ := hy6
      go_wp2_with fail
      rw [rounds_succ]
      go_wp2_with fail
      generalize hW7 : World.setCell _ _ _ = W7
      have hblk7 : ∀ x, x ≠ w.heap.size → W7.heap[x]? = W6.heap[x]? := fun x hx => by subst hW7; repeat rw [Below.heap_setCell _ _ _ _ (by dsimp only; omega)]
      have hsz7 : W7.heap.size = W6.heap.size := by subst hW7; simp [World.setCell]
      obtain ⟨hx7, hb7⟩ := put10b (g := h) hx6 hW7
      have hww7 := hww6.trans (hb7 w.heap.size (Nat.le_refl _))
      have HS7 : Hid (SF W7 w.heap.size W7.heap.size (.cons h1 f1 .nil) (.slice (some ⟨g, 0, none⟩) 1 cap)) := by
        have h0 := SF.same (w' := W7) (fun x h1 _ => hblk7 x (by have h2 : W3.heap.size ≤ x := h1; omega)) HS6.out
        exact SF.mono (Nat.le_of_lt hlo) (by omega) h0
      obtain ⟨z0, k0, k1, k2, k3, k4, k5, k6, k7, k8, k9⟩ := hx7
      (try simp only [Exit.inBlock, Exit.then])
      refine bodyPost_ret (v := .agg #[.int .i64 h.k, .int .i64 h.ak, .int .i64 h.am, .int .i64 h.a, .int .i64 h.b, .int .i64 h.c, .int .i64 h.d, .int .i64 h.n, .int .i64 h.v, .slice (some ⟨g, 0, none⟩) 1 cap]) ?_ rfl ⟨_, rfl, HS7.out, hww7⟩
      rw [results_cell1 rfl]
      go_simp
    ·
      go_simp
      refine hK.out _ _ trivial (fun _ => ?_)
      clear hK K
      try simp only [Act.put, List.setIfInBounds_toArray, List.set_cons_zero, List.set_cons_succ]
      refine wpAnyH_ready (rs := [1]) (by kernel_rfl) (by simp) ?_
      refine AllReadyH.cons (o := { dst := some 16, op := Go.Op.load 28 (Go.Operand.tmp 15), type := 28, pos := "l3_formulas.go:223", after := #[{ on := 0, ground := Go.Ground.data }], guard := none }) rfl (fun K hK => ?_) AllReadyH.nil
      go_simp
      refine hK.out _ _ trivial (fun _ => ?_)
      clear hK K
      try simp only [Act.put, List.setIfInBounds_toArray, List.set_cons_zero, List.set_cons_succ]
      refine wpAnyH_ready (rs := [5]) (by kernel_rfl) (by simp) ?_
      refine AllReadyH.cons (o := { dst := some 20, op := Go.Op.call { callee := Go.Callee.builtin Go.Builtin.append, args := #[Go.Operand.tmp 16, Go.Operand.tmp 19], argTypes := #[28, 28] }, type := 28, pos := "l3_formulas.go:223", after := #[{ on := 1, ground := Go.Ground.data }, { on := 4, ground := Go.Ground.data }, { on := 3, ground := Go.Ground.chain }], guard := none }) rfl (fun K hK => ?_) AllReadyH.nil
      rw [if_pos (by rfl)]
      (refine oper_append _ _ _ rfl rfl rfl hr5 ?_)
      refine hK.out _ _ trivial (fun _ => ?_)
      clear hK K
      try simp only [Act.put, List.setIfInBounds_toArray, List.set_cons_zero, List.set_cons_succ]
      refine wpAnyH_take (i := 6) (oi := { dst := some 21, op := Go.Op.fieldAddr 30 (Go.Operand.tmp 3) 3, type := 0, pos := "l3_formulas.go:223", after := #[{ on := 0, ground := Go.Ground.phase }, { on := 1, ground := Go.Ground.phase }, { on := 2, ground := Go.Ground.phase }, { on := 3, ground := Go.Ground.phase }, { on := 4, ground := Go.Ground.phase }, { on := 5, ground := Go.Ground.phase }], guard := none }) (v := ?_) rfl (by kernel_rfl) (by kernel_rfl) (by kernel_rfl) (fun _ _ _ h => h) (Or.inl ⟨by rfl, ?_⟩) (by assumption) ?_
      rotate_left
      · (intro w _; first | (go_simp; done) | (go_simp; with_reducible rfl))
      try simp only [Act.put, List.setIfInBounds_toArray, List.set_cons_zero, List.set_cons_succ]
      refine wpAnyH_ready (rs := [7]) (by kernel_rfl) (by simp) ?_
      refine AllReadyH.cons (o := { dst := none, op := Go.Op.store 28 (Go.Operand.tmp 21) (Go.Operand.tmp 20), type := 0, pos := "l3_formulas.go:223", after := #[{ on := 6, ground := Go.Ground.data }, { on := 5, ground := Go.Ground.data }, { on := 5, ground := Go.Ground.chain }, { on := 0, ground := Go.Ground.phase }, { on := 1, ground := Go.Ground.phase }, { on := 2, ground := Go.Ground.phase }, { on := 3, ground := Go.Ground.phase }, { on := 4, ground := Go.Ground.phase }, { on := 5, ground := Go.Ground.phase }], guard := none }) rfl (fun K hK => ?_) AllReadyH.nil
      go_simp
      refine hK.out _ _ trivial (fun _ => ?_)
      clear hK K
      try simp only [Act.put, List.setIfInBounds_toArray, List.set_cons_zero, List.set_cons_succ]
      refine wpAnyH_done (by kernel_rfl) ?_ _
      have hb34 := below_on (w := W3.drew) hb4 hb5
      have hx5 := c10_on (W := W3.drew) HX3.out hb34
      have hy5 := c10_on (W := W3.drew) HY3.out hb34
      have hfx5 : ∀ o, w5.frozen? ⟨w.heap.size, o, none⟩ = false := fun o => ((bcell hb34).2 _ o HX3.out.1).trans (HF3.out o)
      have HS5 := Lib.hid (sf_one ho5 (SF.below hb5 (Nat.le_refl _) hs4) hb4.size)
      have hww5 : Below w.heap.size w w5 := below_on (W := W3.drew) (Below.drew hww3) hb34
      have hsz35 : W3.heap.size ≤ w5.heap.size := hb34.size
      generalize hW6 : World.setCell _ _ _ = W6
      have hblk6 : ∀ x, x ≠ w1.heap.size → W6.heap[x]? = w5.heap[x]? := fun x hx => by subst hW6; exact Below.heap_setCell _ _ _ _ (by dsimp only; omega)
      have hsz6 : W6.heap.size = w5.heap.size := by subst hW6; simp [World.setCell]
      have hww6 : Below w.heap.size w W6 := by subst hW6; exact hww5.setCell (Nat.le_of_lt hne) _
      have hx6 : C10 W6 w.heap.size ⟨0, 0, 0, 0, 0, 0, 0, 0, 0⟩ (.slice none 0 0) := c10_block (by omega) (hblk6 _ (by omega)) hx5
      have hf6 : ∀ o, W6.frozen? ⟨w.heap.size, o, none⟩ = false := fun o => (World.frozen?_of_block (a := ⟨w.heap.size, o, none⟩) (hblk6 w.heap.size (by omega))).trans (hfx5 o)
      have hy6 : C10 W6 w1.heap.size h (.slice (some ⟨g, 0, none⟩) 1 cap) := by
        obtain ⟨y0', e0, e1, e2, e3, e4, e5, e6, e7, e8, e9⟩ := hy5
        subst hW6
        refine ⟨by simpa [World.setCell] using y0', ?_, ?_, ?_, ?_, ?_, ?_, ?_, ?_, ?_, ?_⟩ <;> simp [go_sem, *]
      have HS6 := Lib.hid (SF.same (w' := W6) (fun x h1 _ => hblk6 x (by have := y0; have h2 : W3.heap.size ≤ x := h1; omega)) HS5.out)
      have hsz36 : W3.heap.size ≤ W6.heap.size := by omega
      have hlo : w.heap.size < W3.heap.size := by omega
      rw [← hsz6] at HS6
      clear hW6 hblk6 hww5 HS5 hfx5 hx5 hy5 hb34 hs4 hb4 hb5 ho5 hr5 hf5 he9 hd9 hsz35 hsz6 HX3 HY3 HF3
      obtain ⟨x0, c0, c1, c2, c3, c4, c5, c6, c7, c8, c9⟩ := id hx6
      obtain ⟨y1, e0, e1, e2, e3, e4, e5, e6, e7, e8, e9⟩ := hy6
      go_wp2_with fail
      rw [rounds_succ]
      go_wp2_with fail
      generalize hW7 : World.setCell _ _ _ = W7
      have hblk7 : ∀ x, x ≠ w.heap.size → W7.heap[x]? = W6.heap[x]? := fun x hx => by subst hW7; repeat rw [Below.heap_setCell _ _ _ _ (by dsimp only; omega)]
      have hsz7 : W7.heap.size = W6.heap.size := by subst hW7; simp [World.setCell]
      obtain ⟨hx7, hb7⟩ := put10b (g := h) hx6 hW7
      have hww7 := hww6.trans (hb7 w.heap.size (Nat.le_refl _))
      have HS7 : Hid (SF W7 w.heap.size W7.heap.size (.cons h1 f1 .nil) (.slice (some ⟨g, 0, none⟩) 1 cap)) := by
        have h0 := SF.same (w' := W7) (fun x h1 _ => hblk7 x (by have h2 : W3.heap.size ≤ x := h1; omega)) HS6.out
        exact SF.mono (Nat.le_of_lt hlo) (by omega) h0
      obtain ⟨z0, k0, k1, k2, k3, k4, k5, k6, k7, k8, k9⟩ := hx7
      (try simp only [Exit.inBlock, Exit.then])
      refine bodyPost_ret (v := .agg #[.int .i64 h.k, .int .i64 h.ak, .int .i64 h.am, .int .i64 h.a, .int .i64 h.b, .int .i64 h.c, .int .i64 h.d, .int .i64 h.n, .int .i64 h.v, .slice (some ⟨g, 0, none⟩) 1 cap]) ?_ rfl ⟨_, rfl, HS7.out, hww7⟩
      rw [results_cell1 rfl]
      go_simp


end Go.Proofs.Ytahilpccnabbgaa
