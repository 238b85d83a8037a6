/- What the model draws for the laws of chapter 7: sets that are sometimes not valid. -/
import Derived.Test.YtbfjppliploloaaDoorDrS
namespace Go.Proofs.YtbfjppliploloaaDoor
open Go.RowKit

/-- A set that is not great has been drawn. -/
def SmL (h l : List UInt8) : Prop := h.length ≤ 3000 ∧ l.length ≤ 3000
def BadS (r : Nat) (p K : Int) (w : World) (e : Ending) (w' : World) : Prop := ∃ h l : List UInt8, e = .returned (.agg #[.string (bs h), .string (bs l)]) ∧ SmL h l ∧ Turned r p K w w'

theorem many_t (x : List UInt8) (n : Nat) (w : World) (hx : x.length ≤ 2) (hn : n ≤ 1000) :
    Calls Tryd.prog 34 #[.string (bs x), .int .i64 n] w fun e w' => ∃ T : List UInt8, e = .returned (.string (bs T)) ∧ T.length ≤ 2000 ∧ w = w' :=
  (l17Many_any x n w (by omega) (by omega)).mono fun _ _ ⟨he, hw⟩ => ⟨_, he, by rw [rep_len]; exact Nat.le_trans (Nat.mul_le_mul hn hx) (by decide), hw⟩
theorem two_at {w : World} {b : Nat} {x y : List UInt8} (h0 : w.cell? ⟨b, 0, none⟩ = some (.string (bs x))) (h1 : w.cell? ⟨b, 1, none⟩ = some (.string (bs y))) : ∀ (i : Nat) z, ([x, y] : List (List UInt8))[i]? = some z → w.cell? ⟨b, i, none⟩ = some (.string (bs z)) := by
  intro i z hz
  match i, hz with
  | 0, hz => simp at hz; subst hz; exact h0
  | 1, hz => simp at hz; subst hz; exact h1
theorem two_at_i {w : World} {b : Nat} {x y : Int} (h0 : w.cell? ⟨b, 0, none⟩ = some (.int .i64 x)) (h1 : w.cell? ⟨b, 1, none⟩ = some (.int .i64 y)) : ∀ (i : Nat) z, ([x, y] : List Int)[i]? = some z → w.cell? ⟨b, i, none⟩ = some (.int .i64 z) := by
  intro i z hz
  match i, hz with
  | 0, hz => simp at hz; subst hz; exact h0
  | 1, hz => simp at hz; subst hz; exact h1

set_option maxRecDepth 10000 in
set_option maxHeartbeats 4000000 in
theorem l7Bad_t (r : Nat) (p : Int) (h l : List UInt8) (w : World) (hr : Rd w r p) (hp : p ≤ 600000) (hh : h.length ≤ 400) (hl : l.length ≤ 240) :
    Calls Tryd.prog 21 #[.pointer (some ⟨r, 0, none⟩), .agg #[.string (bs h), .string (bs l)]] w (BadS r p 5 w) := by
  have happ := bs_app
  have HM := Lib.hid fun (x : List UInt8) (n : Nat) (w : World) (hx : x.length ≤ 2) (hn : n ≤ 1000) => many_t x n w hx hn
  have hsh := bs_size h
  have hsl := bs_size l
  have H := Lib.hid hr
  have hrw := rd_lt hr
  clear hr
  go_enter Tryd.func21, Tryd.ntmps21
  go_wp2_with fail
  generalize hW : World.alloc w _ = W
  obtain ⟨hx, hsx, hbx⟩ := s2_new hW
  clear hW
  generalize hW : World.alloc W _ = W2
  obtain ⟨hz, hsz, hbz⟩ := s2_new hW
  rw [hsx] at hz
  clear hW
  have hx2 := s2_on hx hbz
  have hb2 := below_on hbx hbz
  clear hx hbx hbz
  refine (pick_t r p 40 W2 (rd_on H.out hb2) (by omega)).mono ?_
  rintro e w1 ⟨x, rfl, x0, x1, ht1⟩
  have hx1 := s2_turned hx2 ht1.1 (by omega)
  have hz1 := s2_turned hz ht1.1 (by omega)
  have HT1 := Lib.hid (below_turned hb2 ht1)
  have hs1 : w.heap.size + 1 < w1.heap.size := hz1.1
  obtain ⟨_, q1, q10, q11, hR1⟩ := ht1
  have HR1 := Lib.hid hR1
  clear hR1 hx2 hz hb2 hsx hsz x0 x1
  by_cases hx0 : x = 0
  · subst hx0
    go_upto_region 3 with fail
    obtain ⟨x0, x1, x2, x3⟩ := id hx1
    refine wp_region_held_drew (S := fun _ => True) (by kernel_rfl) trivial (fun _ => ?_)
    refine wpAnyH_take (i := 0) (oi := { dst := some 9, op := Go.Op.fieldAddr 24 (Go.Operand.tmp 3) 0, type := 0, pos := "l7_sets.go:281", after := #[], guard := none }) (v := ?_) rfl (by kernel_rfl) (by kernel_rfl) (by kernel_rfl) (fun _ _ _ h => h) (Or.inl ⟨by rfl, ?_⟩) (by assumption) ?_
    rotate_left
    · (intro w _; first | (go_simp; done) | (go_simp; with_reducible rfl))
    try simp only [Act.put, List.setIfInBounds_toArray, List.set_cons_zero, List.set_cons_succ]
    refine wpAnyH_take (i := 2) (oi := { dst := some 11, op := Go.Op.move (Go.Operand.tmp 0), type := 33, pos := "l7_sets.go:281", after := #[], guard := none }) (v := ?_) rfl (by kernel_rfl) (by kernel_rfl) (by kernel_rfl) (fun _ _ _ h => h) (Or.inl ⟨by rfl, ?_⟩) (by assumption) ?_
    rotate_left
    · (intro w _; first | (go_simp; done) | (go_simp; with_reducible rfl))
    try simp only [Act.put, List.setIfInBounds_toArray, List.set_cons_zero, List.set_cons_succ]
    refine wpAnyH_ready (rs := [1, 3]) (by kernel_rfl) (by simp) ?_
    refine AllReadyH.cons (o := { dst := some 10, op := Go.Op.load 9 (Go.Operand.tmp 9), type := 9, pos := "l7_sets.go:281", after := #[{ on := 0, ground := Go.Ground.data }], guard := none }) rfl (fun K hK => ?_) (AllReadyH.cons (o := { dst := some 12, op := Go.Op.buildSlice 42 2 #[(0, Go.Operand.const (Go.Value.string { data := #[50] })), (1, Go.Operand.const (Go.Value.string { data := #[120] }))], type := 42, pos := "l7_sets.go:281", after := #[], guard := none }) rfl (fun K hK => ?_) AllReadyH.nil)
    ·
      go_simp
      refine hK.out _ _ trivial (fun _ => ?_)
      clear hK K
      try simp only [Act.put, List.setIfInBounds_toArray, List.set_cons_zero, List.set_cons_succ]
      refine wpAnyH_ready (rs := [3]) (by kernel_rfl) (by simp) ?_
      refine AllReadyH.cons (o := { dst := some 12, op := Go.Op.buildSlice 42 2 #[(0, Go.Operand.const (Go.Value.string { data := #[50] })), (1, Go.Operand.const (Go.Value.string { data := #[120] }))], type := 42, pos := "l7_sets.go:281", after := #[], guard := none }) rfl (fun K hK => ?_) AllReadyH.nil
      go_simp
      refine hK.out _ _ trivial (fun _ => ?_)
      clear hK K
      try simp only [Act.put, List.setIfInBounds_toArray, List.set_cons_zero, List.set_cons_succ]
      refine wpAnyH_ready (rs := [4]) (by kernel_rfl) (by simp) ?_
      refine AllReadyH.cons (o := { dst := some 13, op := Go.Op.call { callee := Go.Callee.value (Go.Operand.func 19), args := #[Go.Operand.tmp 11, Go.Operand.tmp 12], argTypes := #[33, 42] }, type := 9, pos := "l7_sets.go:281", after := #[{ on := 2, ground := Go.Ground.data }, { on := 3, ground := Go.Ground.data }], guard := none }) rfl (fun K hK => ?_) AllReadyH.nil
      go_simp
      (go_at_call 19; refine (of_t r w1.heap.size q1 [[50], [120]] _ (rd_on HR1.out (by go_grown)) (by omega) (by simp) (by simp) (by simp) (by have := rd_lt HR1.out; omega) (two_at (by simp [go_sem]; rfl) (by simp [go_sem]; rfl))).mono ?_; rintro e w5 ⟨y, rfl, hy, ht5'⟩; have ht5 : Turned r q1 1 w1 w5 := below_turned (by go_grown) ht5'; have hx5 := s2_turned hx1 ht5.1 (by omega); have hfz := hx5.2.2.2 0; have hc5 := hx5.2.1; have hl5 := hx5.1; have hz5 := s2_turned hz1 ht5.1 (by omega); have HT5 := Lib.hid (turned_two HT1.out HR1.out ht5 (by omega) (by omega)); have HY : y.length ≤ 1 := (by simp at hy; rcases hy with rfl | rfl <;> simp); have hsy := bs_size y; have hcat : ¬ 9223372036854775807 < h.length + y.length := (by omega); clear hy ht5 ht5')
      refine hK.out _ _ trivial (fun _ => ?_)
      clear hK K
      try simp only [Act.put, List.setIfInBounds_toArray, List.set_cons_zero, List.set_cons_succ]
      refine wpAnyH_take (i := 5) (oi := { dst := some 14, op := Go.Op.binOp Go.BinOp.add 9 (Go.Operand.tmp 10) (Go.Operand.tmp 13) 9, type := 9, pos := "l7_sets.go:281", after := #[{ on := 1, ground := Go.Ground.data }, { on := 4, ground := Go.Ground.data }], guard := none }) (v := ?_) rfl (by kernel_rfl) (by kernel_rfl) (by kernel_rfl) (fun _ _ _ h => h) (Or.inl ⟨by rfl, ?_⟩) (by assumption) ?_
      rotate_left
      · (intro w _; first | (go_simp; done) | (go_simp; with_reducible rfl))
      try simp only [Act.put, List.setIfInBounds_toArray, List.set_cons_zero, List.set_cons_succ]
      refine wpAnyH_take (i := 6) (oi := { dst := some 15, op := Go.Op.fieldAddr 24 (Go.Operand.tmp 3) 0, type := 0, pos := "l7_sets.go:281", after := #[{ on := 0, ground := Go.Ground.phase }, { on := 1, ground := Go.Ground.phase }, { on := 2, ground := Go.Ground.phase }, { on := 3, ground := Go.Ground.phase }, { on := 4, ground := Go.Ground.phase }, { on := 5, ground := Go.Ground.phase }], guard := none }) (v := ?_) rfl (by kernel_rfl) (by kernel_rfl) (by kernel_rfl) (fun _ _ _ h => h) (Or.inl ⟨by rfl, ?_⟩) (by assumption) ?_
      rotate_left
      · (intro w _; first | (go_simp; done) | (go_simp; with_reducible rfl))
      try simp only [Act.put, List.setIfInBounds_toArray, List.set_cons_zero, List.set_cons_succ]
      refine wpAnyH_ready (rs := [7]) (by kernel_rfl) (by simp) ?_
      refine AllReadyH.cons (o := { dst := none, op := Go.Op.store 9 (Go.Operand.tmp 15) (Go.Operand.tmp 14), type := 0, pos := "l7_sets.go:281", after := #[{ on := 6, ground := Go.Ground.data }, { on := 5, ground := Go.Ground.data }, { on := 4, ground := Go.Ground.chain }, { on := 0, ground := Go.Ground.phase }, { on := 1, ground := Go.Ground.phase }, { on := 2, ground := Go.Ground.phase }, { on := 3, ground := Go.Ground.phase }, { on := 4, ground := Go.Ground.phase }, { on := 5, ground := Go.Ground.phase }], guard := none }) rfl (fun K hK => ?_) AllReadyH.nil
      go_simp
      refine hK.out _ _ trivial (fun _ => ?_)
      clear hK K
      try simp only [Act.put, List.setIfInBounds_toArray, List.set_cons_zero, List.set_cons_succ]
      refine wpAnyH_done (by kernel_rfl) ?_ _
      go_upto_region 10 with fail
      generalize hW : World.setCell _ _ _ = W6
      obtain ⟨hx6, ho6⟩ := s2_put0 hW hx5
      have hz6 := ho6 _ _ _ (by omega) hz5
      have HT6 : Hid (Turned r p _ w W6) := Lib.hid (by subst hW; exact turned_put HT5.out hrw (Nat.le_refl _))
      clear hW ho6 hx5 hz5 hfz hc5 hl5 x0 x1 x2 x3
      obtain ⟨x0, x1, x2, x3⟩ := id hx6
      obtain ⟨z0, z1, z2, z3⟩ := id hz6
      go_wp2
      generalize hW9 : World.setCell _ _ _ = W9
      obtain ⟨⟨_, r1, r2, _⟩, _, _, _⟩ := s2_put hW9 _ _ hz6
      refine bodyPost_ret (v := .agg #[.string (bs (h ++ y)), .string (bs l)]) (by simp [results, Tryd.results21, go_sem, r1, r2]) rfl ⟨h ++ y, l, rfl, ⟨by rw [List.length_append]; omega, by omega⟩, ?_⟩
      subst hW9
      exact turned_more (turned_put (turned_put HT6.out hrw (Nat.le_succ _)) hrw (Nat.le_succ _)) (by omega)
    ·
      go_simp
      refine hK.out _ _ trivial (fun _ => ?_)
      clear hK K
      try simp only [Act.put, List.setIfInBounds_toArray, List.set_cons_zero, List.set_cons_succ]
      refine wpAnyH_ready (rs := [1, 4]) (by kernel_rfl) (by simp) ?_
      refine AllReadyH.cons (o := { dst := some 10, op := Go.Op.load 9 (Go.Operand.tmp 9), type := 9, pos := "l7_sets.go:281", after := #[{ on := 0, ground := Go.Ground.data }], guard := none }) rfl (fun K hK => ?_) (AllReadyH.cons (o := { dst := some 13, op := Go.Op.call { callee := Go.Callee.value (Go.Operand.func 19), args := #[Go.Operand.tmp 11, Go.Operand.tmp 12], argTypes := #[33, 42] }, type := 9, pos := "l7_sets.go:281", after := #[{ on := 2, ground := Go.Ground.data }, { on := 3, ground := Go.Ground.data }], guard := none }) rfl (fun K hK => ?_) AllReadyH.nil)
      ·
        go_simp
        refine hK.out _ _ trivial (fun _ => ?_)
        clear hK K
        try simp only [Act.put, List.setIfInBounds_toArray, List.set_cons_zero, List.set_cons_succ]
        refine wpAnyH_ready (rs := [4]) (by kernel_rfl) (by simp) ?_
        refine AllReadyH.cons (o := { dst := some 13, op := Go.Op.call { callee := Go.Callee.value (Go.Operand.func 19), args := #[Go.Operand.tmp 11, Go.Operand.tmp 12], argTypes := #[33, 42] }, type := 9, pos := "l7_sets.go:281", after := #[{ on := 2, ground := Go.Ground.data }, { on := 3, ground := Go.Ground.data }], guard := none }) rfl (fun K hK => ?_) AllReadyH.nil
        go_simp
        (go_at_call 19; refine (of_t r w1.heap.size q1 [[50], [120]] _ (rd_on HR1.out (by go_grown)) (by omega) (by simp) (by simp) (by simp) (by have := rd_lt HR1.out; omega) (two_at (by simp [go_sem]; rfl) (by simp [go_sem]; rfl))).mono ?_; rintro e w5 ⟨y, rfl, hy, ht5'⟩; have ht5 : Turned r q1 1 w1 w5 := below_turned (by go_grown) ht5'; have hx5 := s2_turned hx1 ht5.1 (by omega); have hfz := hx5.2.2.2 0; have hc5 := hx5.2.1; have hl5 := hx5.1; have hz5 := s2_turned hz1 ht5.1 (by omega); have HT5 := Lib.hid (turned_two HT1.out HR1.out ht5 (by omega) (by omega)); have HY : y.length ≤ 1 := (by simp at hy; rcases hy with rfl | rfl <;> simp); have hsy := bs_size y; have hcat : ¬ 9223372036854775807 < h.length + y.length := (by omega); clear hy ht5 ht5')
        refine hK.out _ _ trivial (fun _ => ?_)
        clear hK K
        try simp only [Act.put, List.setIfInBounds_toArray, List.set_cons_zero, List.set_cons_succ]
        refine wpAnyH_take (i := 5) (oi := { dst := some 14, op := Go.Op.binOp Go.BinOp.add 9 (Go.Operand.tmp 10) (Go.Operand.tmp 13) 9, type := 9, pos := "l7_sets.go:281", after := #[{ on := 1, ground := Go.Ground.data }, { on := 4, ground := Go.Ground.data }], guard := none }) (v := ?_) rfl (by kernel_rfl) (by kernel_rfl) (by kernel_rfl) (fun _ _ _ h => h) (Or.inl ⟨by rfl, ?_⟩) (by assumption) ?_
        rotate_left
        · (intro w _; first | (go_simp; done) | (go_simp; with_reducible rfl))
        try simp only [Act.put, List.setIfInBounds_toArray, List.set_cons_zero, List.set_cons_succ]
        refine wpAnyH_take (i := 6) (oi := { dst := some 15, op := Go.Op.fieldAddr 24 (Go.Operand.tmp 3) 0, type := 0, pos := "l7_sets.go:281", after := #[{ on := 0, ground := Go.Ground.phase }, { on := 1, ground := Go.Ground.phase }, { on := 2, ground := Go.Ground.phase }, { on := 3, ground := Go.Ground.phase }, { on := 4, ground := Go.Ground.phase }, { on := 5, ground := Go.Ground.phase }], guard := none }) (v := ?_) rfl (by kernel_rfl) (by kernel_rfl) (by kernel_rfl) (fun _ _ _ h => h) (Or.inl ⟨by rfl, ?_⟩) (by assumption) ?_
        rotate_left
        · (intro w _; first | (go_simp; done) | (go_simp; with_reducible rfl))
        try simp only [Act.put, List.setIfInBounds_toArray, List.set_cons_zero, List.set_cons_succ]
        refine wpAnyH_ready (rs := [7]) (by kernel_rfl) (by simp) ?_
        refine AllReadyH.cons (o := { dst := none, op := Go.Op.store 9 (Go.Operand.tmp 15) (Go.Operand.tmp 14), type := 0, pos := "l7_sets.go:281", after := #[{ on := 6, ground := Go.Ground.data }, { on := 5, ground := Go.Ground.data }, { on := 4, ground := Go.Ground.chain }, { on := 0, ground := Go.Ground.phase }, { on := 1, ground := Go.Ground.phase }, { on := 2, ground := Go.Ground.phase }, { on := 3, ground := Go.Ground.phase }, { on := 4, ground := Go.Ground.phase }, { on := 5, ground := Go.Ground.phase }], guard := none }) rfl (fun K hK => ?_) AllReadyH.nil
        go_simp
        refine hK.out _ _ trivial (fun _ => ?_)
        clear hK K
        try simp only [Act.put, List.setIfInBounds_toArray, List.set_cons_zero, List.set_cons_succ]
        refine wpAnyH_done (by kernel_rfl) ?_ _
        go_upto_region 10 with fail
        generalize hW : World.setCell _ _ _ = W6
        obtain ⟨hx6, ho6⟩ := s2_put0 hW hx5
        have hz6 := ho6 _ _ _ (by omega) hz5
        have HT6 : Hid (Turned r p _ w W6) := Lib.hid (by subst hW; exact turned_put HT5.out hrw (Nat.le_refl _))
        clear hW ho6 hx5 hz5 hfz hc5 hl5 x0 x1 x2 x3
        obtain ⟨x0, x1, x2, x3⟩ := id hx6
        obtain ⟨z0, z1, z2, z3⟩ := id hz6
        go_wp2
        generalize hW9 : World.setCell _ _ _ = W9
        obtain ⟨⟨_, r1, r2, _⟩, _, _, _⟩ := s2_put hW9 _ _ hz6
        refine bodyPost_ret (v := .agg #[.string (bs (h ++ y)), .string (bs l)]) (by simp [results, Tryd.results21, go_sem, r1, r2]) rfl ⟨h ++ y, l, rfl, ⟨by rw [List.length_append]; omega, by omega⟩, ?_⟩
        subst hW9
        exact turned_more (turned_put (turned_put HT6.out hrw (Nat.le_succ _)) hrw (Nat.le_succ _)) (by omega)
      ·
        go_simp
        (go_at_call 19; refine (of_t r w1.heap.size q1 [[50], [120]] _ (rd_on HR1.out (by go_grown)) (by omega) (by simp) (by simp) (by simp) (by have := rd_lt HR1.out; omega) (two_at (by simp [go_sem]; rfl) (by simp [go_sem]; rfl))).mono ?_; rintro e w5 ⟨y, rfl, hy, ht5'⟩; have ht5 : Turned r q1 1 w1 w5 := below_turned (by go_grown) ht5'; have hx5 := s2_turned hx1 ht5.1 (by omega); have hfz := hx5.2.2.2 0; have hc5 := hx5.2.1; have hl5 := hx5.1; have hz5 := s2_turned hz1 ht5.1 (by omega); have HT5 := Lib.hid (turned_two HT1.out HR1.out ht5 (by omega) (by omega)); have HY : y.length ≤ 1 := (by simp at hy; rcases hy with rfl | rfl <;> simp); have hsy := bs_size y; have hcat : ¬ 9223372036854775807 < h.length + y.length := (by omega); clear hy ht5 ht5')
        refine hK.out _ _ trivial (fun _ => ?_)
        clear hK K
        try simp only [Act.put, List.setIfInBounds_toArray, List.set_cons_zero, List.set_cons_succ]
        refine wpAnyH_ready (rs := [1]) (by kernel_rfl) (by simp) ?_
        refine AllReadyH.cons (o := { dst := some 10, op := Go.Op.load 9 (Go.Operand.tmp 9), type := 9, pos := "l7_sets.go:281", after := #[{ on := 0, ground := Go.Ground.data }], guard := none }) rfl (fun K hK => ?_) AllReadyH.nil
        go_simp
        refine hK.out _ _ trivial (fun _ => ?_)
        clear hK K
        try simp only [Act.put, List.setIfInBounds_toArray, List.set_cons_zero, List.set_cons_succ]
        refine wpAnyH_take (i := 5) (oi := { dst := some 14, op := Go.Op.binOp Go.BinOp.add 9 (Go.Operand.tmp 10) (Go.Operand.tmp 13) 9, type := 9, pos := "l7_sets.go:281", after := #[{ on := 1, ground := Go.Ground.data }, { on := 4, ground := Go.Ground.data }], guard := none }) (v := ?_) rfl (by kernel_rfl) (by kernel_rfl) (by kernel_rfl) (fun _ _ _ h => h) (Or.inl ⟨by rfl, ?_⟩) (by assumption) ?_
        rotate_left
        · (intro w _; first | (go_simp; done) | (go_simp; with_reducible rfl))
        try simp only [Act.put, List.setIfInBounds_toArray, List.set_cons_zero, List.set_cons_succ]
        refine wpAnyH_take (i := 6) (oi := { dst := some 15, op := Go.Op.fieldAddr 24 (Go.Operand.tmp 3) 0, type := 0, pos := "l7_sets.go:281", after := #[{ on := 0, ground := Go.Ground.phase }, { on := 1, ground := Go.Ground.phase }, { on := 2, ground := Go.Ground.phase }, { on := 3, ground := Go.Ground.phase }, { on := 4, ground := Go.Ground.phase }, { on := 5, ground := Go.Ground.phase }], guard := none }) (v := ?_) rfl (by kernel_rfl) (by kernel_rfl) (by kernel_rfl) (fun _ _ _ h => h) (Or.inl ⟨by rfl, ?_⟩) (by assumption) ?_
        rotate_left
        · (intro w _; first | (go_simp; done) | (go_simp; with_reducible rfl))
        try simp only [Act.put, List.setIfInBounds_toArray, List.set_cons_zero, List.set_cons_succ]
        refine wpAnyH_ready (rs := [7]) (by kernel_rfl) (by simp) ?_
        refine AllReadyH.cons (o := { dst := none, op := Go.Op.store 9 (Go.Operand.tmp 15) (Go.Operand.tmp 14), type := 0, pos := "l7_sets.go:281", after := #[{ on := 6, ground := Go.Ground.data }, { on := 5, ground := Go.Ground.data }, { on := 4, ground := Go.Ground.chain }, { on := 0, ground := Go.Ground.phase }, { on := 1, ground := Go.Ground.phase }, { on := 2, ground := Go.Ground.phase }, { on := 3, ground := Go.Ground.phase }, { on := 4, ground := Go.Ground.phase }, { on := 5, ground := Go.Ground.phase }], guard := none }) rfl (fun K hK => ?_) AllReadyH.nil
        go_simp
        refine hK.out _ _ trivial (fun _ => ?_)
        clear hK K
        try simp only [Act.put, List.setIfInBounds_toArray, List.set_cons_zero, List.set_cons_succ]
        refine wpAnyH_done (by kernel_rfl) ?_ _
        go_upto_region 10 with fail
        generalize hW : World.setCell _ _ _ = W6
        obtain ⟨hx6, ho6⟩ := s2_put0 hW hx5
        have hz6 := ho6 _ _ _ (by omega) hz5
        have HT6 : Hid (Turned r p _ w W6) := Lib.hid (by subst hW; exact turned_put HT5.out hrw (Nat.le_refl _))
        clear hW ho6 hx5 hz5 hfz hc5 hl5 x0 x1 x2 x3
        obtain ⟨x0, x1, x2, x3⟩ := id hx6
        obtain ⟨z0, z1, z2, z3⟩ := id hz6
        go_wp2
        generalize hW9 : World.setCell _ _ _ = W9
        obtain ⟨⟨_, r1, r2, _⟩, _, _, _⟩ := s2_put hW9 _ _ hz6
        refine bodyPost_ret (v := .agg #[.string (bs (h ++ y)), .string (bs l)]) (by simp [results, Tryd.results21, go_sem, r1, r2]) rfl ⟨h ++ y, l, rfl, ⟨by rw [List.length_append]; omega, by omega⟩, ?_⟩
        subst hW9
        exact turned_more (turned_put (turned_put HT6.out hrw (Nat.le_succ _)) hrw (Nat.le_succ _)) (by omega)
  · have hxe0 : (x == 0) = false := by simpa using hx0
    by_cases hx1' : x = 1
    · subst hx1'
      obtain ⟨x0, x1, x2, x3⟩ := id hx1
      go_upto_region 10 with fail
      generalize hW : World.setCell _ _ _ = W6
      obtain ⟨hx6, ho6⟩ := s2_put1 hW hx1
      have hz6 := ho6 _ _ _ (by omega) hz1
      have HT6 : Hid (Turned r p _ w W6) := Lib.hid (by subst hW; exact turned_put HT1.out hrw (Nat.le_refl _))
      clear hW ho6 hx1 hz1 x0 x1 x2 x3
      obtain ⟨x0, x1, x2, x3⟩ := id hx6
      obtain ⟨z0, z1, z2, z3⟩ := id hz6
      go_wp2
      generalize hW9 : World.setCell _ _ _ = W9
      obtain ⟨⟨_, r1, r2, _⟩, _, _, _⟩ := s2_put hW9 _ _ hz6
      refine bodyPost_ret (v := .agg #[.string (bs h), .string (bs ([]))]) (by simp [results, Tryd.results21, go_sem, r1, r2]; try rfl) rfl ⟨h, [], rfl, ⟨by omega, by simp⟩, ?_⟩
      subst hW9
      exact turned_more (turned_put (turned_put HT6.out hrw (Nat.le_succ _)) hrw (Nat.le_succ _)) (by omega)
    · have hxe1 : (x == 1) = false := by simpa using hx1'
      by_cases hx2' : x = 2
      · subst hx2'
        go_upto_region 7 with fail
        obtain ⟨x0, x1, x2, x3⟩ := id hx1
        refine wp_region_held_drew (S := fun _ => True) (by kernel_rfl) trivial (fun _ => ?_)
        refine wpAnyH_take (i := 0) (oi := { dst := some 21, op := Go.Op.move (Go.Operand.tmp 0), type := 33, pos := "l7_sets.go:285", after := #[], guard := none }) (v := ?_) rfl (by kernel_rfl) (by kernel_rfl) (by kernel_rfl) (fun _ _ _ h => h) (Or.inl ⟨by rfl, ?_⟩) (by assumption) ?_
        rotate_left
        · (intro w _; first | (go_simp; done) | (go_simp; with_reducible rfl))
        try simp only [Act.put, List.setIfInBounds_toArray, List.set_cons_zero, List.set_cons_succ]
        refine wpAnyH_take (i := 4) (oi := { dst := some 25, op := Go.Op.fieldAddr 24 (Go.Operand.tmp 3) 0, type := 0, pos := "l7_sets.go:285", after := #[], guard := none }) (v := ?_) rfl (by kernel_rfl) (by kernel_rfl) (by kernel_rfl) (fun _ _ _ h => h) (Or.inl ⟨by rfl, ?_⟩) (by assumption) ?_
        rotate_left
        · (intro w _; first | (go_simp; done) | (go_simp; with_reducible rfl))
        try simp only [Act.put, List.setIfInBounds_toArray, List.set_cons_zero, List.set_cons_succ]
        refine wpAnyH_ready (rs := [1, 5]) (by kernel_rfl) (by simp) ?_
        refine AllReadyH.cons (o := { dst := some 22, op := Go.Op.buildSlice 59 2 #[(0, Go.Operand.const (Go.Value.int Go.IntKind.i64 200)), (1, Go.Operand.const (Go.Value.int Go.IntKind.i64 201))], type := 59, pos := "l7_sets.go:285", after := #[], guard := none }) rfl (fun K hK => ?_) (AllReadyH.cons (o := { dst := some 26, op := Go.Op.load 9 (Go.Operand.tmp 25), type := 9, pos := "l7_sets.go:285", after := #[{ on := 4, ground := Go.Ground.data }], guard := none }) rfl (fun K hK => ?_) AllReadyH.nil)
        ·
          go_simp
          refine hK.out _ _ trivial (fun _ => ?_)
          clear hK K
          try simp only [Act.put, List.setIfInBounds_toArray, List.set_cons_zero, List.set_cons_succ]
          refine wpAnyH_ready (rs := [2, 5]) (by kernel_rfl) (by simp) ?_
          refine AllReadyH.cons (o := { dst := some 23, op := Go.Op.call { callee := Go.Callee.value (Go.Operand.func 35), args := #[Go.Operand.tmp 21, Go.Operand.tmp 22], argTypes := #[33, 59] }, type := 3, pos := "l7_sets.go:285", after := #[{ on := 0, ground := Go.Ground.data }, { on := 1, ground := Go.Ground.data }], guard := none }) rfl (fun K hK => ?_) (AllReadyH.cons (o := { dst := some 26, op := Go.Op.load 9 (Go.Operand.tmp 25), type := 9, pos := "l7_sets.go:285", after := #[{ on := 4, ground := Go.Ground.data }], guard := none }) rfl (fun K hK => ?_) AllReadyH.nil)
          ·
            go_simp
            (go_at_call 35; refine (num_t r w1.heap.size q1 [200, 201] _ (rd_on HR1.out (by go_grown)) (by omega) (by simp) (by simp) (by simp) (by have := rd_lt HR1.out; omega) (two_at_i (by simp [go_sem]) (by simp [go_sem]))).mono ?_; rintro e w5 ⟨y, rfl, hy, ht5'⟩; have ht5 : Turned r q1 1 w1 w5 := below_turned (by go_grown) ht5'; have hx5 := s2_turned hx1 ht5.1 (by omega); have hfz := hx5.2.2.2 0; have hc5 := hx5.2.1; have hl5 := hx5.1; have hz5 := s2_turned hz1 ht5.1 (by omega); have HT5 := Lib.hid (turned_two HT1.out HR1.out ht5 (by omega) (by omega)); obtain ⟨n, rfl⟩ : ∃ n : Nat, y = n := ⟨y.toNat, by simp at hy; omega⟩; have hn1 : n ≤ 201 := (by simp at hy; omega); clear hy ht5 ht5')
            refine hK.out _ _ trivial (fun _ => ?_)
            clear hK K
            try simp only [Act.put, List.setIfInBounds_toArray, List.set_cons_zero, List.set_cons_succ]
            refine wpAnyH_ready (rs := [3, 5]) (by kernel_rfl) (by simp) ?_
            refine AllReadyH.cons (o := { dst := some 24, op := Go.Op.call { callee := Go.Callee.value (Go.Operand.func 34), args := #[Go.Operand.const (Go.Value.string { data := #[48, 49] }), Go.Operand.tmp 23], argTypes := #[9, 3] }, type := 9, pos := "l7_sets.go:285", after := #[{ on := 2, ground := Go.Ground.data }, { on := 2, ground := Go.Ground.chain }], guard := none }) rfl (fun K hK => ?_) (AllReadyH.cons (o := { dst := some 26, op := Go.Op.load 9 (Go.Operand.tmp 25), type := 9, pos := "l7_sets.go:285", after := #[{ on := 4, ground := Go.Ground.data }], guard := none }) rfl (fun K hK => ?_) AllReadyH.nil)
            ·
              go_simp
              (go_at_call 34; refine (HM.out [48, 49] n _ (by simp) (by omega)).mono ?_; rintro e w' ⟨T, rfl, hT, rfl⟩; have hsT := bs_size T; have hcat : ¬ 9223372036854775807 < T.length + h.length := (by omega))
              refine hK.out _ _ trivial (fun _ => ?_)
              clear hK K
              try simp only [Act.put, List.setIfInBounds_toArray, List.set_cons_zero, List.set_cons_succ]
              refine wpAnyH_ready (rs := [5]) (by kernel_rfl) (by simp) ?_
              refine AllReadyH.cons (o := { dst := some 26, op := Go.Op.load 9 (Go.Operand.tmp 25), type := 9, pos := "l7_sets.go:285", after := #[{ on := 4, ground := Go.Ground.data }], guard := none }) rfl (fun K hK => ?_) AllReadyH.nil
              go_simp
              refine hK.out _ _ trivial (fun _ => ?_)
              clear hK K
              try simp only [Act.put, List.setIfInBounds_toArray, List.set_cons_zero, List.set_cons_succ]
              refine wpAnyH_take (i := 6) (oi := { dst := some 27, op := Go.Op.binOp Go.BinOp.add 9 (Go.Operand.tmp 24) (Go.Operand.tmp 26) 9, type := 9, pos := "l7_sets.go:285", after := #[{ on := 3, ground := Go.Ground.data }, { on := 5, ground := Go.Ground.data }], guard := none }) (v := ?_) rfl (by kernel_rfl) (by kernel_rfl) (by kernel_rfl) (fun _ _ _ h => h) (Or.inl ⟨by rfl, ?_⟩) (by assumption) ?_
              rotate_left
              · (intro w _; first | (go_simp; done) | (go_simp; with_reducible rfl))
              try simp only [Act.put, List.setIfInBounds_toArray, List.set_cons_zero, List.set_cons_succ]
              refine wpAnyH_take (i := 7) (oi := { dst := some 28, op := Go.Op.fieldAddr 24 (Go.Operand.tmp 3) 0, type := 0, pos := "l7_sets.go:285", after := #[{ on := 0, ground := Go.Ground.phase }, { on := 1, ground := Go.Ground.phase }, { on := 2, ground := Go.Ground.phase }, { on := 3, ground := Go.Ground.phase }, { on := 4, ground := Go.Ground.phase }, { on := 5, ground := Go.Ground.phase }, { on := 6, ground := Go.Ground.phase }], guard := none }) (v := ?_) rfl (by kernel_rfl) (by kernel_rfl) (by kernel_rfl) (fun _ _ _ h => h) (Or.inl ⟨by rfl, ?_⟩) (by assumption) ?_
              rotate_left
              · (intro w _; first | (go_simp; done) | (go_simp; with_reducible rfl))
              try simp only [Act.put, List.setIfInBounds_toArray, List.set_cons_zero, List.set_cons_succ]
              refine wpAnyH_ready (rs := [8]) (by kernel_rfl) (by simp) ?_
              refine AllReadyH.cons (o := { dst := none, op := Go.Op.store 9 (Go.Operand.tmp 28) (Go.Operand.tmp 27), type := 0, pos := "l7_sets.go:285", after := #[{ on := 7, ground := Go.Ground.data }, { on := 6, ground := Go.Ground.data }, { on := 3, ground := Go.Ground.chain }, { on := 0, ground := Go.Ground.phase }, { on := 1, ground := Go.Ground.phase }, { on := 2, ground := Go.Ground.phase }, { on := 3, ground := Go.Ground.phase }, { on := 4, ground := Go.Ground.phase }, { on := 5, ground := Go.Ground.phase }, { on := 6, ground := Go.Ground.phase }], guard := none }) rfl (fun K hK => ?_) AllReadyH.nil
              go_simp
              refine hK.out _ _ trivial (fun _ => ?_)
              clear hK K
              try simp only [Act.put, List.setIfInBounds_toArray, List.set_cons_zero, List.set_cons_succ]
              refine wpAnyH_done (by kernel_rfl) ?_ _
              go_upto_region 10 with fail
              generalize hW : World.setCell _ _ _ = W6
              obtain ⟨hx6, ho6⟩ := s2_put0 hW hx5
              have hz6 := ho6 _ _ _ (by omega) hz5
              have HT6 : Hid (Turned r p _ w W6) := Lib.hid (by subst hW; exact turned_put HT5.out hrw (Nat.le_refl _))
              clear hW ho6 hx5 hz5 hfz hc5 hl5 x0 x1 x2 x3
              obtain ⟨x0, x1, x2, x3⟩ := id hx6
              obtain ⟨z0, z1, z2, z3⟩ := id hz6
              go_wp2
              generalize hW9 : World.setCell _ _ _ = W9
              obtain ⟨⟨_, r1, r2, _⟩, _, _, _⟩ := s2_put hW9 _ _ hz6
              refine bodyPost_ret (v := .agg #[.string (bs (T ++ h)), .string (bs l)]) (by simp [results, Tryd.results21, go_sem, r1, r2]) rfl ⟨_, l, rfl, ⟨by rw [List.length_append]; omega, by omega⟩, ?_⟩
              subst hW9
              exact turned_more (turned_put (turned_put HT6.out hrw (Nat.le_succ _)) hrw (Nat.le_succ _)) (by omega)
            ·
              go_simp
              refine hK.out _ _ trivial (fun _ => ?_)
              clear hK K
              try simp only [Act.put, List.setIfInBounds_toArray, List.set_cons_zero, List.set_cons_succ]
              refine wpAnyH_ready (rs := [3]) (by kernel_rfl) (by simp) ?_
              refine AllReadyH.cons (o := { dst := some 24, op := Go.Op.call { callee := Go.Callee.value (Go.Operand.func 34), args := #[Go.Operand.const (Go.Value.string { data := #[48, 49] }), Go.Operand.tmp 23], argTypes := #[9, 3] }, type := 9, pos := "l7_sets.go:285", after := #[{ on := 2, ground := Go.Ground.data }, { on := 2, ground := Go.Ground.chain }], guard := none }) rfl (fun K hK => ?_) AllReadyH.nil
              go_simp
              (go_at_call 34; refine (HM.out [48, 49] n _ (by simp) (by omega)).mono ?_; rintro e w' ⟨T, rfl, hT, rfl⟩; have hsT := bs_size T; have hcat : ¬ 9223372036854775807 < T.length + h.length := (by omega))
              refine hK.out _ _ trivial (fun _ => ?_)
              clear hK K
              try simp only [Act.put, List.setIfInBounds_toArray, List.set_cons_zero, List.set_cons_succ]
              refine wpAnyH_take (i := 6) (oi := { dst := some 27, op := Go.Op.binOp Go.BinOp.add 9 (Go.Operand.tmp 24) (Go.Operand.tmp 26) 9, type := 9, pos := "l7_sets.go:285", after := #[{ on := 3, ground := Go.Ground.data }, { on := 5, ground := Go.Ground.data }], guard := none }) (v := ?_) rfl (by kernel_rfl) (by kernel_rfl) (by kernel_rfl) (fun _ _ _ h => h) (Or.inl ⟨by rfl, ?_⟩) (by assumption) ?_
              rotate_left
              · (intro w _; first | (go_simp; done) | (go_simp; with_reducible rfl))
              try simp only [Act.put, List.setIfInBounds_toArray, List.set_cons_zero, List.set_cons_succ]
              refine wpAnyH_take (i := 7) (oi := { dst := some 28, op := Go.Op.fieldAddr 24 (Go.Operand.tmp 3) 0, type := 0, pos := "l7_sets.go:285", after := #[{ on := 0, ground := Go.Ground.phase }, { on := 1, ground := Go.Ground.phase }, { on := 2, ground := Go.Ground.phase }, { on := 3, ground := Go.Ground.phase }, { on := 4, ground := Go.Ground.phase }, { on := 5, ground := Go.Ground.phase }, { on := 6, ground := Go.Ground.phase }], guard := none }) (v := ?_) rfl (by kernel_rfl) (by kernel_rfl) (by kernel_rfl) (fun _ _ _ h => h) (Or.inl ⟨by rfl, ?_⟩) (by assumption) ?_
              rotate_left
              · (intro w _; first | (go_simp; done) | (go_simp; with_reducible rfl))
              try simp only [Act.put, List.setIfInBounds_toArray, List.set_cons_zero, List.set_cons_succ]
              refine wpAnyH_ready (rs := [8]) (by kernel_rfl) (by simp) ?_
              refine AllReadyH.cons (o := { dst := none, op := Go.Op.store 9 (Go.Operand.tmp 28) (Go.Operand.tmp 27), type := 0, pos := "l7_sets.go:285", after := #[{ on := 7, ground := Go.Ground.data }, { on := 6, ground := Go.Ground.data }, { on := 3, ground := Go.Ground.chain }, { on := 0, ground := Go.Ground.phase }, { on := 1, ground := Go.Ground.phase }, { on := 2, ground := Go.Ground.phase }, { on := 3, ground := Go.Ground.phase }, { on := 4, ground := Go.Ground.phase }, { on := 5, ground := Go.Ground.phase }, { on := 6, ground := Go.Ground.phase }], guard := none }) rfl (fun K hK => ?_) AllReadyH.nil
              go_simp
              refine hK.out _ _ trivial (fun _ => ?_)
              clear hK K
              try simp only [Act.put, List.setIfInBounds_toArray, List.set_cons_zero, List.set_cons_succ]
              refine wpAnyH_done (by kernel_rfl) ?_ _
              go_upto_region 10 with fail
              generalize hW : World.setCell _ _ _ = W6
              obtain ⟨hx6, ho6⟩ := s2_put0 hW hx5
              have hz6 := ho6 _ _ _ (by omega) hz5
              have HT6 : Hid (Turned r p _ w W6) := Lib.hid (by subst hW; exact turned_put HT5.out hrw (Nat.le_refl _))
              clear hW ho6 hx5 hz5 hfz hc5 hl5 x0 x1 x2 x3
              obtain ⟨x0, x1, x2, x3⟩ := id hx6
              obtain ⟨z0, z1, z2, z3⟩ := id hz6
              go_wp2
              generalize hW9 : World.setCell _ _ _ = W9
              obtain ⟨⟨_, r1, r2, _⟩, _, _, _⟩ := s2_put hW9 _ _ hz6
              refine bodyPost_ret (v := .agg #[.string (bs (T ++ h)), .string (bs l)]) (by simp [results, Tryd.results21, go_sem, r1, r2]) rfl ⟨_, l, rfl, ⟨by rw [List.length_append]; omega, by omega⟩, ?_⟩
              subst hW9
              exact turned_more (turned_put (turned_put HT6.out hrw (Nat.le_succ _)) hrw (Nat.le_succ _)) (by omega)
          ·
            go_simp
            refine hK.out _ _ trivial (fun _ => ?_)
            clear hK K
            try simp only [Act.put, List.setIfInBounds_toArray, List.set_cons_zero, List.set_cons_succ]
            refine wpAnyH_ready (rs := [2]) (by kernel_rfl) (by simp) ?_
            refine AllReadyH.cons (o := { dst := some 23, op := Go.Op.call { callee := Go.Callee.value (Go.Operand.func 35), args := #[Go.Operand.tmp 21, Go.Operand.tmp 22], argTypes := #[33, 59] }, type := 3, pos := "l7_sets.go:285", after := #[{ on := 0, ground := Go.Ground.data }, { on := 1, ground := Go.Ground.data }], guard := none }) rfl (fun K hK => ?_) AllReadyH.nil
            go_simp
            (go_at_call 35; refine (num_t r w1.heap.size q1 [200, 201] _ (rd_on HR1.out (by go_grown)) (by omega) (by simp) (by simp) (by simp) (by have := rd_lt HR1.out; omega) (two_at_i (by simp [go_sem]) (by simp [go_sem]))).mono ?_; rintro e w5 ⟨y, rfl, hy, ht5'⟩; have ht5 : Turned r q1 1 w1 w5 := below_turned (by go_grown) ht5'; have hx5 := s2_turned hx1 ht5.1 (by omega); have hfz := hx5.2.2.2 0; have hc5 := hx5.2.1; have hl5 := hx5.1; have hz5 := s2_turned hz1 ht5.1 (by omega); have HT5 := Lib.hid (turned_two HT1.out HR1.out ht5 (by omega) (by omega)); obtain ⟨n, rfl⟩ : ∃ n : Nat, y = n := ⟨y.toNat, by simp at hy; omega⟩; have hn1 : n ≤ 201 := (by simp at hy; omega); clear hy ht5 ht5')
            refine hK.out _ _ trivial (fun _ => ?_)
            clear hK K
            try simp only [Act.put, List.setIfInBounds_toArray, List.set_cons_zero, List.set_cons_succ]
            refine wpAnyH_ready (rs := [3]) (by kernel_rfl) (by simp) ?_
            refine AllReadyH.cons (o := { dst := some 24, op := Go.Op.call { callee := Go.Callee.value (Go.Operand.func 34), args := #[Go.Operand.const (Go.Value.string { data := #[48, 49] }), Go.Operand.tmp 23], argTypes := #[9, 3] }, type := 9, pos := "l7_sets.go:285", after := #[{ on := 2, ground := Go.Ground.data }, { on := 2, ground := Go.Ground.chain }], guard := none }) rfl (fun K hK => ?_) AllReadyH.nil
            go_simp
            (go_at_call 34; refine (HM.out [48, 49] n _ (by simp) (by omega)).mono ?_; rintro e w' ⟨T, rfl, hT, rfl⟩; have hsT := bs_size T; have hcat : ¬ 9223372036854775807 < T.length + h.length := (by omega))
            refine hK.out _ _ trivial (fun _ => ?_)
            clear hK K
            try simp only [Act.put, List.setIfInBounds_toArray, List.set_cons_zero, List.set_cons_succ]
            refine wpAnyH_take (i := 6) (oi := { dst := some 27, op := Go.Op.binOp Go.BinOp.add 9 (Go.Operand.tmp 24) (Go.Operand.tmp 26) 9, type := 9, pos := "l7_sets.go:285", after := #[{ on := 3, ground := Go.Ground.data }, { on := 5, ground := Go.Ground.data }], guard := none }) (v := ?_) rfl (by kernel_rfl) (by kernel_rfl) (by kernel_rfl) (fun _ _ _ h => h) (Or.inl ⟨by rfl, ?_⟩) (by assumption) ?_
            rotate_left
            · (intro w _; first | (go_simp; done) | (go_simp; with_reducible rfl))
            try simp only [Act.put, List.setIfInBounds_toArray, List.set_cons_zero, List.set_cons_succ]
            refine wpAnyH_take (i := 7) (oi := { dst := some 28, op := Go.Op.fieldAddr 24 (Go.Operand.tmp 3) 0, type := 0, pos := "l7_sets.go:285", after := #[{ on := 0, ground := Go.Ground.phase }, { on := 1, ground := Go.Ground.phase }, { on := 2, ground := Go.Ground.phase }, { on := 3, ground := Go.Ground.phase }, { on := 4, ground := Go.Ground.phase }, { on := 5, ground := Go.Ground.phase }, { on := 6, ground := Go.Ground.phase }], guard := none }) (v := ?_) rfl (by kernel_rfl) (by kernel_rfl) (by kernel_rfl) (fun _ _ _ h => h) (Or.inl ⟨by rfl, ?_⟩) (by assumption) ?_
            rotate_left
            · (intro w _; first | (go_simp; done) | (go_simp; with_reducible rfl))
            try simp only [Act.put, List.setIfInBounds_toArray, List.set_cons_zero, List.set_cons_succ]
            refine wpAnyH_ready (rs := [8]) (by kernel_rfl) (by simp) ?_
            refine AllReadyH.cons (o := { dst := none, op := Go.Op.store 9 (Go.Operand.tmp 28) (Go.Operand.tmp 27), type := 0, pos := "l7_sets.go:285", after := #[{ on := 7, ground := Go.Ground.data }, { on := 6, ground := Go.Ground.data }, { on := 3, ground := Go.Ground.chain }, { on := 0, ground := Go.Ground.phase }, { on := 1, ground := Go.Ground.phase }, { on := 2, ground := Go.Ground.phase }, { on := 3, ground := Go.Ground.phase }, { on := 4, ground := Go.Ground.phase }, { on := 5, ground := Go.Ground.phase }, { on := 6, ground := Go.Ground.phase }], guard := none }) rfl (fun K hK => ?_) AllReadyH.nil
            go_simp
            refine hK.out _ _ trivial (fun _ => ?_)
            clear hK K
            try simp only [Act.put, List.setIfInBounds_toArray, List.set_cons_zero, List.set_cons_succ]
            refine wpAnyH_done (by kernel_rfl) ?_ _
            go_upto_region 10 with fail
            generalize hW : World.setCell _ _ _ = W6
            obtain ⟨hx6, ho6⟩ := s2_put0 hW hx5
            have hz6 := ho6 _ _ _ (by omega) hz5
            have HT6 : Hid (Turned r p _ w W6) := Lib.hid (by subst hW; exact turned_put HT5.out hrw (Nat.le_refl _))
            clear hW ho6 hx5 hz5 hfz hc5 hl5 x0 x1 x2 x3
            obtain ⟨x0, x1, x2, x3⟩ := id hx6
            obtain ⟨z0, z1, z2, z3⟩ := id hz6
            go_wp2
            generalize hW9 : World.setCell _ _ _ = W9
            obtain ⟨⟨_, r1, r2, _⟩, _, _, _⟩ := s2_put hW9 _ _ hz6
            refine bodyPost_ret (v := .agg #[.string (bs (T ++ h)), .string (bs l)]) (by simp [results, Tryd.results21, go_sem, r1, r2]) rfl ⟨_, l, rfl, ⟨by rw [List.length_append]; omega, by omega⟩, ?_⟩
            subst hW9
            exact turned_more (turned_put (turned_put HT6.out hrw (Nat.le_succ _)) hrw (Nat.le_succ _)) (by omega)
        ·
          go_simp
          refine hK.out _ _ trivial (fun _ => ?_)
          clear hK K
          try simp only [Act.put, List.setIfInBounds_toArray, List.set_cons_zero, List.set_cons_succ]
          refine wpAnyH_ready (rs := [1]) (by kernel_rfl) (by simp) ?_
          refine AllReadyH.cons (o := { dst := some 22, op := Go.Op.buildSlice 59 2 #[(0, Go.Operand.const (Go.Value.int Go.IntKind.i64 200)), (1, Go.Operand.const (Go.Value.int Go.IntKind.i64 201))], type := 59, pos := "l7_sets.go:285", after := #[], guard := none }) rfl (fun K hK => ?_) AllReadyH.nil
          go_simp
          refine hK.out _ _ trivial (fun _ => ?_)
          clear hK K
          try simp only [Act.put, List.setIfInBounds_toArray, List.set_cons_zero, List.set_cons_succ]
          refine wpAnyH_ready (rs := [2]) (by kernel_rfl) (by simp) ?_
          refine AllReadyH.cons (o := { dst := some 23, op := Go.Op.call { callee := Go.Callee.value (Go.Operand.func 35), args := #[Go.Operand.tmp 21, Go.Operand.tmp 22], argTypes := #[33, 59] }, type := 3, pos := "l7_sets.go:285", after := #[{ on := 0, ground := Go.Ground.data }, { on := 1, ground := Go.Ground.data }], guard := none }) rfl (fun K hK => ?_) AllReadyH.nil
          go_simp
          (go_at_call 35; refine (num_t r w1.heap.size q1 [200, 201] _ (rd_on HR1.out (by go_grown)) (by omega) (by simp) (by simp) (by simp) (by have := rd_lt HR1.out; omega) (two_at_i (by simp [go_sem]) (by simp [go_sem]))).mono ?_; rintro e w5 ⟨y, rfl, hy, ht5'⟩; have ht5 : Turned r q1 1 w1 w5 := below_turned (by go_grown) ht5'; have hx5 := s2_turned hx1 ht5.1 (by omega); have hfz := hx5.2.2.2 0; have hc5 := hx5.2.1; have hl5 := hx5.1; have hz5 := s2_turned hz1 ht5.1 (by omega); have HT5 := Lib.hid (turned_two HT1.out HR1.out ht5 (by omega) (by omega)); obtain ⟨n, rfl⟩ : ∃ n : Nat, y = n := ⟨y.toNat, by simp at hy; omega⟩; have hn1 : n ≤ 201 := (by simp at hy; omega); clear hy ht5 ht5')
          refine hK.out _ _ trivial (fun _ => ?_)
          clear hK K
          try simp only [Act.put, List.setIfInBounds_toArray, List.set_cons_zero, List.set_cons_succ]
          refine wpAnyH_ready (rs := [3]) (by kernel_rfl) (by simp) ?_
          refine AllReadyH.cons (o := { dst := some 24, op := Go.Op.call { callee := Go.Callee.value (Go.Operand.func 34), args := #[Go.Operand.const (Go.Value.string { data := #[48, 49] }), Go.Operand.tmp 23], argTypes := #[9, 3] }, type := 9, pos := "l7_sets.go:285", after := #[{ on := 2, ground := Go.Ground.data }, { on := 2, ground := Go.Ground.chain }], guard := none }) rfl (fun K hK => ?_) AllReadyH.nil
          go_simp
          (go_at_call 34; refine (HM.out [48, 49] n _ (by simp) (by omega)).mono ?_; rintro e w' ⟨T, rfl, hT, rfl⟩; have hsT := bs_size T; have hcat : ¬ 9223372036854775807 < T.length + h.length := (by omega))
          refine hK.out _ _ trivial (fun _ => ?_)
          clear hK K
          try simp only [Act.put, List.setIfInBounds_toArray, List.set_cons_zero, List.set_cons_succ]
          refine wpAnyH_take (i := 6) (oi := { dst := some 27, op := Go.Op.binOp Go.BinOp.add 9 (Go.Operand.tmp 24) (Go.Operand.tmp 26) 9, type := 9, pos := "l7_sets.go:285", after := #[{ on := 3, ground := Go.Ground.data }, { on := 5, ground := Go.Ground.data }], guard := none }) (v := ?_) rfl (by kernel_rfl) (by kernel_rfl) (by kernel_rfl) (fun _ _ _ h => h) (Or.inl ⟨by rfl, ?_⟩) (by assumption) ?_
          rotate_left
          · (intro w _; first | (go_simp; done) | (go_simp; with_reducible rfl))
          try simp only [Act.put, List.setIfInBounds_toArray, List.set_cons_zero, List.set_cons_succ]
          refine wpAnyH_take (i := 7) (oi := { dst := some 28, op := Go.Op.fieldAddr 24 (Go.Operand.tmp 3) 0, type := 0, pos := "l7_sets.go:285", after := #[{ on := 0, ground := Go.Ground.phase }, { on := 1, ground := Go.Ground.phase }, { on := 2, ground := Go.Ground.phase }, { on := 3, ground := Go.Ground.phase }, { on := 4, ground := Go.Ground.phase }, { on := 5, ground := Go.Ground.phase }, { on := 6, ground := Go.Ground.phase }], guard := none }) (v := ?_) rfl (by kernel_rfl) (by kernel_rfl) (by kernel_rfl) (fun _ _ _ h => h) (Or.inl ⟨by rfl, ?_⟩) (by assumption) ?_
          rotate_left
          · (intro w _; first | (go_simp; done) | (go_simp; with_reducible rfl))
          try simp only [Act.put, List.setIfInBounds_toArray, List.set_cons_zero, List.set_cons_succ]
          refine wpAnyH_ready (rs := [8]) (by kernel_rfl) (by simp) ?_
          refine AllReadyH.cons (o := { dst := none, op := Go.Op.store 9 (Go.Operand.tmp 28) (Go.Operand.tmp 27), type := 0, pos := "l7_sets.go:285", after := #[{ on := 7, ground := Go.Ground.data }, { on := 6, ground := Go.Ground.data }, { on := 3, ground := Go.Ground.chain }, { on := 0, ground := Go.Ground.phase }, { on := 1, ground := Go.Ground.phase }, { on := 2, ground := Go.Ground.phase }, { on := 3, ground := Go.Ground.phase }, { on := 4, ground := Go.Ground.phase }, { on := 5, ground := Go.Ground.phase }, { on := 6, ground := Go.Ground.phase }], guard := none }) rfl (fun K hK => ?_) AllReadyH.nil
          go_simp
          refine hK.out _ _ trivial (fun _ => ?_)
          clear hK K
          try simp only [Act.put, List.setIfInBounds_toArray, List.set_cons_zero, List.set_cons_succ]
          refine wpAnyH_done (by kernel_rfl) ?_ _
          go_upto_region 10 with fail
          generalize hW : World.setCell _ _ _ = W6
          obtain ⟨hx6, ho6⟩ := s2_put0 hW hx5
          have hz6 := ho6 _ _ _ (by omega) hz5
          have HT6 : Hid (Turned r p _ w W6) := Lib.hid (by subst hW; exact turned_put HT5.out hrw (Nat.le_refl _))
          clear hW ho6 hx5 hz5 hfz hc5 hl5 x0 x1 x2 x3
          obtain ⟨x0, x1, x2, x3⟩ := id hx6
          obtain ⟨z0, z1, z2, z3⟩ := id hz6
          go_wp2
          generalize hW9 : World.setCell _ _ _ = W9
          obtain ⟨⟨_, r1, r2, _⟩, _, _, _⟩ := s2_put hW9 _ _ hz6
          refine bodyPost_ret (v := .agg #[.string (bs (T ++ h)), .string (bs l)]) (by simp [results, Tryd.results21, go_sem, r1, r2]) rfl ⟨_, l, rfl, ⟨by rw [List.length_append]; omega, by omega⟩, ?_⟩
          subst hW9
          exact turned_more (turned_put (turned_put HT6.out hrw (Nat.le_succ _)) hrw (Nat.le_succ _)) (by omega)
      · have hxe2 : (x == 2) = false := by simpa using hx2'
        by_cases hx3' : x = 3
        · subst hx3'
          go_wp2_with fail
          refine (num_new r q1 [239, 240] 2 _ w1 HR1.out (by omega) rfl rfl (by simp) (by simp)).mono ?_
          rintro e w5 ⟨y, rfl, hy, ht5⟩
          have hx5 := s2_turned hx1 ht5.1 (by omega)
          have hz5 := s2_turned hz1 ht5.1 (by omega)
          have HT5 := Lib.hid (turned_two HT1.out HR1.out ht5 (by omega) (by omega))
          obtain ⟨n, rfl⟩ : ∃ n : Nat, y = n := ⟨y.toNat, by simp at hy; omega⟩
          have hn1 : n ≤ 240 := by simp at hy; omega
          clear hy ht5 hx1 hz1
          go_wp2_with fail
          refine (HM.out [48] n _ (by simp) (by omega)).mono ?_
          rintro e w' ⟨T, rfl, hT, rfl⟩
          have hsT := bs_size T
          have hs1' : (bs [49]).size = 1 := rfl
          have hcat : ¬ 9223372036854775807 < T.length + 1 := by omega
          obtain ⟨x0, x1, x2, x3⟩ := id hx5
          have hlit : ({ data := #[49] } : ByteArray) = bs [49] := rfl
          go_upto_region 10 with fail
          generalize hW : World.setCell _ _ _ = W6
          obtain ⟨hx6, ho6⟩ := s2_put1 hW hx5
          have hz6 := ho6 _ _ _ (by omega) hz5
          have HT6 : Hid (Turned r p _ w W6) := Lib.hid (by subst hW; exact turned_put HT5.out hrw (Nat.le_refl _))
          clear hW ho6 hx5 hz5 x0 x1 x2 x3
          obtain ⟨x0, x1, x2, x3⟩ := id hx6
          obtain ⟨z0, z1, z2, z3⟩ := id hz6
          go_wp2
          generalize hW9 : World.setCell _ _ _ = W9
          obtain ⟨⟨_, r1, r2, _⟩, _, _, _⟩ := s2_put hW9 _ _ hz6
          refine bodyPost_ret (v := .agg #[.string (bs h), .string (bs (T ++ [49]))]) (by simp [results, Tryd.results21, go_sem, r1, r2]) rfl ⟨h, _, rfl, ⟨by omega, by rw [List.length_append]; simp; omega⟩, ?_⟩
          subst hW9
          exact turned_more (turned_put (turned_put HT6.out hrw (Nat.le_succ _)) hrw (Nat.le_succ _)) (by omega)
        · have hxe3 : (x == 3) = false := by simpa using hx3'
          obtain ⟨x0, x1, x2, x3⟩ := id hx1
          obtain ⟨z0, z1, z2, z3⟩ := id hz1
          go_wp2
          generalize hW9 : World.setCell _ _ _ = W9
          obtain ⟨⟨_, r1, r2, _⟩, _, _, _⟩ := s2_put hW9 _ _ hz1
          refine bodyPost_ret (v := .agg #[.string (bs h), .string (bs l)]) (by simp [results, Tryd.results21, go_sem, r1, r2]) rfl ⟨h, l, rfl, ⟨by omega, by omega⟩, ?_⟩
          subst hW9
          exact turned_more (turned_put (turned_put HT1.out hrw (Nat.le_succ _)) hrw (Nat.le_succ _)) (by omega)

set_option maxHeartbeats 1000000 in
theorem l7Open_t (r : Nat) (p : Int) (w : World) (hr : Rd w r p) (hp : p ≤ 500000) :
    Calls Tryd.prog 11 #[.pointer (some ⟨r, 0, none⟩)] w (BadS r p 215 w) := by
  have H := Lib.hid hr
  have hrw := rd_lt hr
  clear hr
  go_enter Tryd.func11, Tryd.ntmps11
  go_wp2_with fail
  generalize hW : World.alloc w _ = W
  obtain ⟨hz, _, hbz⟩ := s2_new hW
  clear hW
  refine (l7Some_t r p W (rd_on H.out hbz) (by omega)).mono ?_
  rintro e w1 ⟨h, l, rfl, hv, ht1⟩
  have hz1 := s2_turned hz ht1.1 (by omega)
  have HT1 := Lib.hid (below_turned hbz ht1)
  obtain ⟨_, q1, q10, q11, hR1⟩ := ht1
  have HR1 := Lib.hid hR1
  obtain ⟨_, _, v3, _, v5, _⟩ := svS_parts hv
  clear hR1 hz hbz hv
  go_wp2_with fail
  refine (l7Bad_t r q1 h l w1 HR1.out (by omega) v3 v5).mono ?_
  rintro e w2 ⟨h', l', rfl, hs, ht2⟩
  have hz2 := s2_turned hz1 ht2.1 (by omega)
  have HT2 := Lib.hid (turned_two HT1.out HR1.out ht2 (by omega) (by omega))
  have HS := Lib.hid hs
  clear hz1 ht2 hs
  obtain ⟨z0, z1, z2, z3⟩ := id hz2
  go_wp2
  generalize hW9 : World.setCell _ _ _ = W9
  obtain ⟨⟨_, r1, r2, _⟩, _, _, _⟩ := s2_put hW9 _ _ hz2
  refine bodyPost_ret (v := .agg #[.string (bs h'), .string (bs l')]) (by simp [results, Tryd.results11, go_sem, r1, r2]) rfl ⟨h', l', rfl, HS.out, ?_⟩
  subst hW9
  exact turned_put (turned_put HT2.out hrw (Nat.le_refl _)) hrw (Nat.le_refl _)

end Go.Proofs.YtbfjppliploloaaDoor
