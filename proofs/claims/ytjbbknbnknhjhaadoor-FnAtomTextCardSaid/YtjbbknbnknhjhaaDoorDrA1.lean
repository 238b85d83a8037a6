/- What the model draws as an atom that is valid. -/
import Derived.Test.YtjbbknbnknhjhaaDoorDrA0
namespace Go.Proofs.YtjbbknbnknhjhaaDoor
open Go.RowKit

set_option maxRecDepth 10000 in
set_option maxHeartbeats 2000000 in
theorem l2Some_v (r : Nat) (p : Int) (w : World) (h : Rd w r p) (hp : p ≤ 700000) :
    Calls Tryd.prog 40 #[.pointer (some ⟨r, 0, none⟩)] w (AtomV r p 12 w) := by
  have hr := rd_lt h
  have H := Lib.hid h
  clear h
  go_enter Tryd.func40, Tryd.ntmps40
  go_wp2_with fail
  generalize hW : w.alloc (.cells #[.int .i64 0, .int .i64 0, .int .i64 0, .int .i64 0, .int .i64 0, .int .i64 0, .int .i64 0] 33) = W
  have hz : C7 W w.heap.size 0 0 0 0 0 0 0 := by subst hW; exact (by refine ⟨?_, ?_, ?_, ?_, ?_, ?_, ?_, ?_⟩ <;> first | (simp [go_sem]; done) | (simp; omega))
  have fz : Hid (∀ o, W.frozen? ⟨w.heap.size, o, none⟩ = false) := by intro o; subst hW; simp [go_sem]
  have hb0 : Below w.heap.size w W := by subst hW; go_grown
  have hR0 : Rd W r p := rd_on H.out hb0
  have hsz : w.heap.size + 1 = W.heap.size := by subst hW; simp
  rw [hsz]
  clear hW hsz
  refine (num_new r p [0, 0, 1, 2, 0, 3] 6 _ W hR0 (by omega) rfl rfl (by simp) (by simp)).mono ?_
  rintro e w1 ⟨k, rfl, hk, ht1⟩
  have HK := Lib.hid (show k = 0 ∨ k = 1 ∨ k = 2 ∨ k = 3 by simp at hk; omega)
  have HT := Lib.hid (below_turned hb0 ht1)
  have hz1 := c7_only hz ht1.1 (by omega)
  have fz1 := fz_only fz ht1.1 hz.1 (by omega)
  obtain ⟨_, q, q0, q1, hR1⟩ := ht1
  have HR := Lib.hid hR1
  clear hR1 hz fz hb0
  go_wp2_with fail
  refine (l1Some_v r q w1 HR.out (by omega)).mono ?_
  rintro e w2 ⟨a, b, c, d, n, rfl, htv, ht2⟩
  have HTV := Lib.hid htv
  clear htv
  have HT2 := Lib.hid (turned_two HT.out HR.out ht2 q0 q1)
  have hz2 := c7_only hz1 ht2.1 (by have := hz1.1; omega)
  have fz2 := fz_only fz1 ht2.1 hz1.1 (by omega)
  clear hz1 fz1
  go_upto_region 2 with fail
  generalize hW2 : World.alloc _ _ = W2
  have hl : L2 w r p 9 w2.heap.size w.heap.size k 0 a b c d n W2 := by
    have hb : Below w2.heap.size w2 W2 := by subst hW2; go_grown
    have hzs := hz2.1
    exact ⟨by subst hW2; exact (by refine ⟨?_, ?_, ?_, ?_, ?_, ?_, ?_, ?_⟩ <;> first | (simp [go_sem]; done) | (simp; omega)), by intro o; subst hW2; simp [go_sem], c7_on hz2 hb, fun o => ((bcell hb).2 _ o hz2.1).trans (fz2.out o), turned_more (turned_below HT2.out hb) (by omega), by omega, by omega, by omega, by omega, by omega, hr⟩
  have HL := Lib.hid hl
  obtain ⟨x0, x1, x2, x3, x4, x5, x6, x7⟩ := id hl.1
  clear hW2 hl hz2 fz2 ht2 HT HT2 HR
  by_cases hk2 : (2 : Int) ≤ k
  · obtain ⟨q2, p2, p3, hR2⟩ := l2_rd HL.out
    go_wp2_with fail
    refine (num_new r q2 [2, 3, 4, 6, 1, 5] 6 _ W2 hR2 (by omega) rfl rfl (by simp) (by simp)).mono ?_
    rintro e w3 ⟨m, rfl, hmm, ht3⟩
    have HAV := Lib.hid (show avB k m a b c d n = true from av_of HTV.out (Or.inr ⟨by have := HK.out; omega, by simp at hmm; omega⟩))
    clear hmm
    have hl3 := l2_turn HL.out ht3 hR2 p2 p3
    have HL3 := Lib.hid hl3
    clear x0 x1 x2 x3 x4 x5 x6 x7
    obtain ⟨⟨x0, x1, x2, x3, x4, x5, x6, x7⟩, fx, _⟩ := hl3
    have fx3 := fx.out
    clear ht3 hR2 fx
    go_upto_region 4 with fail
    generalize hW4 : World.setCell _ _ _ = W4
    have hl4 : L2 w r p 10 w2.heap.size w.heap.size k m a b c d n W4 := by
      obtain ⟨_, hf, hz, hfz, h1, e1, e2, e3, e4, e5, e6⟩ := HL3.out
      subst hW4
      refine ⟨⟨by simpa [World.setCell] using x0, by simp [go_sem, *], by simp [go_sem, *], by simp [go_sem, *], by simp [go_sem, *], by simp [go_sem, *], by simp [go_sem, *], by simp [go_sem, *]⟩, fun o => by simp [go_sem, hf.out o], ?_, fun o => by simp [go_sem, hfz.out o], turned_more (turned_put h1 e6 e4) (by omega), e1, e2, e3, e4, e5, e6⟩
      obtain ⟨g0, g1, g2, g3, g4, g5, g6, g7⟩ := hz
      exact ⟨by simpa [World.setCell] using g0, (cell_far e3).trans g1, (cell_far e3).trans g2, (cell_far e3).trans g3, (cell_far e3).trans g4, (cell_far e3).trans g5, (cell_far e3).trans g6, (cell_far e3).trans g7⟩
    have HL4 := Lib.hid hl4
    clear hW4 hl4 x0 x1 x2 x3 x4 x5 x6 x7 fx3
    obtain ⟨q4, p4, p5, hR4⟩ := l2_rd HL4.out
    go_wp2_with fail
    refine (pick_t r q4 4 _ hR4 (by omega)).mono ?_
    rintro e w5 ⟨v, rfl, v0, _, ht5⟩
    have HL5 := Lib.hid (l2_turn HL4.out ht5 hR4 p4 p5)
    clear ht5 hR4
    by_cases hv : v = 0
    · subst hv
      obtain ⟨q6, p6, p7, hR6⟩ := l2_rd HL5.out
      have HR6 := Lib.hid hR6
      have hxx := HL5.out.1
      have hro : r < w5.heap.size := rd_lt hR6
      have hxo : w2.heap.size < w5.heap.size := hxx.1
      have hzo : w.heap.size < w5.heap.size := HL5.out.2.2.1.1
      clear hR6
      go_wp2_with fail
      refine wp_region_held_drew (S := (fun w' => w'.cell? ⟨w2.heap.size, 0, none⟩ = some (.int .i64 k) ∧ w'.cell? ⟨w2.heap.size, 1, none⟩ = some (.int .i64 m) ∧ w'.cell? ⟨w2.heap.size, 2, none⟩ = some (.int .i64 a) ∧ w'.cell? ⟨w2.heap.size, 3, none⟩ = some (.int .i64 b) ∧ w'.cell? ⟨w2.heap.size, 4, none⟩ = some (.int .i64 c) ∧ w'.cell? ⟨w2.heap.size, 5, none⟩ = some (.int .i64 d) ∧ w'.cell? ⟨w2.heap.size, 6, none⟩ = some (.int .i64 n))) (by kernel_rfl) ?_ (fun hHeld => ?_)
      · try dsimp only
        first | (refine (c7_on hxx ?_).2; go_grown; done) | (refine keep7s (c7_on hxx ?_) (by omega); go_grown; done)
      refine wpAnyH_take (i := 0) (oi := { dst := some 23, op := Go.Op.load 33 (Go.Operand.tmp 3), type := 33, pos := "l2_atoms.go:289", after := #[], guard := none }) (v := ?_) rfl (by kernel_rfl) (by kernel_rfl) (by kernel_rfl) (fun _ _ _ h => h) (Or.inl ⟨by rfl, ?_⟩) (by assumption) ?_
      rotate_left
      · (intro w hSw; (try dsimp only at hSw); first | (go_simp; done) | (go_simp; with_reducible rfl))
      try simp only [Act.put, List.setIfInBounds_toArray, List.set_cons_zero, List.set_cons_succ]
      refine wpAnyH_take (i := 1) (oi := { dst := some 24, op := Go.Op.move (Go.Operand.tmp 0), type := 40, pos := "l2_atoms.go:289", after := #[], guard := none }) (v := ?_) rfl (by kernel_rfl) (by kernel_rfl) (by kernel_rfl) (fun _ _ _ h => h) (Or.inl ⟨by rfl, ?_⟩) (by assumption) ?_
      rotate_left
      · (intro w hSw; (try dsimp only at hSw); first | (go_simp; done) | (go_simp; with_reducible rfl))
      try simp only [Act.put, List.setIfInBounds_toArray, List.set_cons_zero, List.set_cons_succ]
      refine wpAnyH_ready (rs := [2, 8]) (by kernel_rfl) (by simp) ?_
      refine AllReadyH.cons (o := { dst := some 25, op := Go.Op.buildSlice 42 3 #[(0, Go.Operand.const (Go.Value.int Go.IntKind.i64 2)), (1, Go.Operand.const (Go.Value.int Go.IntKind.i64 3)), (2, Go.Operand.const (Go.Value.int Go.IntKind.i64 6))], type := 42, pos := "l2_atoms.go:289", after := #[], guard := none }) rfl (fun K hK => ?_) (AllReadyH.cons (o := { dst := some 4, op := Go.Op.alloc 33, type := 0, pos := "l2_atoms.go:289", after := #[], guard := none }) rfl (fun K hK => ?_) AllReadyH.nil)
      ·
        go_simp
        refine hK.out _ _ ?_ (fun hHeld => ?_)
        · try dsimp only
          first | (refine (c7_on hxx ?_).2; go_grown; done) | (refine keep7s (c7_on hxx ?_) (by omega); go_grown; done)
        clear hK K
        try simp only [Act.put, List.setIfInBounds_toArray, List.set_cons_zero, List.set_cons_succ]
        refine wpAnyH_ready (rs := [3, 8]) (by kernel_rfl) (by simp) ?_
        refine AllReadyH.cons (o := { dst := some 26, op := Go.Op.call { callee := Go.Callee.value (Go.Operand.func 46), args := #[Go.Operand.tmp 24, Go.Operand.tmp 25], argTypes := #[40, 42] }, type := 3, pos := "l2_atoms.go:289", after := #[{ on := 1, ground := Go.Ground.data }, { on := 2, ground := Go.Ground.data }], guard := none }) rfl (fun K hK => ?_) (AllReadyH.cons (o := { dst := some 4, op := Go.Op.alloc 33, type := 0, pos := "l2_atoms.go:289", after := #[], guard := none }) rfl (fun K hK => ?_) AllReadyH.nil)
        ·
          go_simp
          (go_at_call 46; refine (num_t r _ q6 [2, 3, 6] _ (rd_on HR6.out (by go_grown)) (by omega) (by simp) (by simp) (by first | (simp; done) | (simp; omega)) (by omega) (three_at (by simp [go_sem]) (by simp [go_sem]) (by simp [go_sem]))).mono ?_; rintro e w7 ⟨u, rfl, _, ht7⟩; have ht7' : Turned r q6 1 w5 w7 := below_turned (by go_grown) ht7; have HL7 := Lib.hid (l2_turn HL5.out ht7' HR6.out p6 p7); have hxx := HL7.out.1; have hs57 : w5.heap.size ≤ w7.heap.size := ht7'.1.size)
          (try go_wp2_with fail)
          refine hK.out _ _ ?_ (fun hHeld => ?_)
          · try dsimp only
            first | (refine (c7_on hxx ?_).2; go_grown; done) | (refine keep7s (c7_on hxx ?_) (by omega); go_grown; done)
          clear hK K
          try simp only [Act.put, List.setIfInBounds_toArray, List.set_cons_zero, List.set_cons_succ]
          refine wpAnyH_ready (rs := [4, 8]) (by kernel_rfl) (by simp) ?_
          refine AllReadyH.cons (o := { dst := some 27, op := Go.Op.call { callee := Go.Callee.value (Go.Operand.func 54), args := #[Go.Operand.tmp 23, Go.Operand.tmp 26], argTypes := #[33, 3] }, type := 37, pos := "l2_atoms.go:289", after := #[{ on := 0, ground := Go.Ground.data }, { on := 3, ground := Go.Ground.data }, { on := 3, ground := Go.Ground.chain }], guard := none }) rfl (fun K hK => ?_) (AllReadyH.cons (o := { dst := some 4, op := Go.Op.alloc 33, type := 0, pos := "l2_atoms.go:289", after := #[], guard := none }) rfl (fun K hK => ?_) AllReadyH.nil)
          ·
            go_simp
            (go_at_call 54; refine (specScale_v k m a b c d n u _).mono ?_; rintro e w8 ⟨k', m', a', b', c', d', n', ok, rfl, hok, hb8⟩; have HOK := Lib.hid hok; clear hok; have hb8' := below_on (w := w7) (by go_grown) hb8; have hxx := c7_on hxx hb8'; have HL8 := Lib.hid (l2_below HL7.out hb8'); have hs78 : w7.heap.size ≤ w8.heap.size := hb8'.size)
            (try go_wp2_with fail)
            refine hK.out _ _ ?_ (fun hHeld => ?_)
            · try dsimp only
              first | (refine (c7_on hxx ?_).2; go_grown; done) | (refine keep7s (c7_on hxx ?_) (by omega); go_grown; done)
            clear hK K
            try simp only [Act.put, List.setIfInBounds_toArray, List.set_cons_zero, List.set_cons_succ]
            refine wpAnyH_take (i := 5) (oi := { dst := some 22, op := Go.Op.move (Go.Operand.tmp 27), type := 37, pos := "l2_atoms.go:289", after := #[{ on := 4, ground := Go.Ground.data }], guard := none }) (v := ?_) rfl (by kernel_rfl) (by kernel_rfl) (by kernel_rfl) (fun _ _ _ h => h) (Or.inl ⟨by rfl, ?_⟩) (by assumption) ?_
            rotate_left
            · (intro w hSw; (try dsimp only at hSw); first | (go_simp; done) | (go_simp; with_reducible rfl))
            try simp only [Act.put, List.setIfInBounds_toArray, List.set_cons_zero, List.set_cons_succ]
            refine wpAnyH_take (i := 6) (oi := { dst := some 28, op := Go.Op.extract (Go.Operand.tmp 22) 0, type := 33, pos := "l2_atoms.go:289", after := #[{ on := 5, ground := Go.Ground.data }], guard := none }) (v := ?_) rfl (by kernel_rfl) (by kernel_rfl) (by kernel_rfl) (fun _ _ _ h => h) (Or.inl ⟨by rfl, ?_⟩) (by assumption) ?_
            rotate_left
            · (intro w hSw; (try dsimp only at hSw); first | (go_simp; done) | (go_simp; with_reducible rfl))
            try simp only [Act.put, List.setIfInBounds_toArray, List.set_cons_zero, List.set_cons_succ]
            refine wpAnyH_take (i := 7) (oi := { dst := some 29, op := Go.Op.extract (Go.Operand.tmp 22) 1, type := 4, pos := "l2_atoms.go:289", after := #[{ on := 5, ground := Go.Ground.data }, { on := 9, ground := Go.Ground.gcOnly Go.Departure.lateStores }], guard := none }) (v := ?_) rfl (by kernel_rfl) (by kernel_rfl) (by kernel_rfl) (fun _ _ _ h => h) (Or.inl ⟨by rfl, ?_⟩) (by assumption) ?_
            rotate_left
            · (intro w hSw; (try dsimp only at hSw); first | (go_simp; done) | (go_simp; with_reducible rfl))
            try simp only [Act.put, List.setIfInBounds_toArray, List.set_cons_zero, List.set_cons_succ]
            refine wpAnyH_ready (rs := [8]) (by kernel_rfl) (by simp) ?_
            refine AllReadyH.cons (o := { dst := some 4, op := Go.Op.alloc 33, type := 0, pos := "l2_atoms.go:289", after := #[], guard := none }) rfl (fun K hK => ?_) AllReadyH.nil
            go_simp
            refine hK.out _ _ ?_ (fun hHeld => ?_)
            · try dsimp only
              first | (refine (c7_on hxx ?_).2; go_grown; done) | (refine keep7s (c7_on hxx ?_) (by omega); go_grown; done)
            clear hK K
            try simp only [Act.put, List.setIfInBounds_toArray, List.set_cons_zero, List.set_cons_succ]
            refine wpAnyH_ready (rs := [9]) (by kernel_rfl) (by simp) ?_
            refine AllReadyH.cons (o := { dst := none, op := Go.Op.store 33 (Go.Operand.tmp 4) (Go.Operand.tmp 28), type := 0, pos := "l2_atoms.go:289", after := #[{ on := 8, ground := Go.Ground.data }, { on := 6, ground := Go.Ground.data }, { on := 4, ground := Go.Ground.chain }, { on := 0, ground := Go.Ground.phase }, { on := 1, ground := Go.Ground.phase }, { on := 2, ground := Go.Ground.phase }, { on := 3, ground := Go.Ground.phase }, { on := 4, ground := Go.Ground.phase }, { on := 5, ground := Go.Ground.phase }, { on := 6, ground := Go.Ground.phase }, { on := 7, ground := Go.Ground.textOnly Go.Departure.lateStores }, { on := 8, ground := Go.Ground.phase }], guard := none }) rfl (fun K hK => ?_) AllReadyH.nil
            go_simp
            refine hK.out _ _ ?_ (fun hHeld => ?_)
            · try dsimp only
              first | (refine (c7_on hxx ?_).2; go_grown; done) | (refine keep7s (c7_on hxx ?_) (by omega); go_grown; done)
            clear hK K
            try simp only [Act.put, List.setIfInBounds_toArray, List.set_cons_zero, List.set_cons_succ]
            refine wpAnyH_take (i := 10) (oi := { dst := some 5, op := Go.Op.assign (Go.Operand.tmp 29), type := 4, pos := "l2_atoms.go:289", after := #[{ on := 7, ground := Go.Ground.data }, { on := 9, ground := Go.Ground.chain }, { on := 0, ground := Go.Ground.phase }, { on := 1, ground := Go.Ground.phase }, { on := 2, ground := Go.Ground.phase }, { on := 3, ground := Go.Ground.phase }, { on := 4, ground := Go.Ground.phase }, { on := 5, ground := Go.Ground.phase }, { on := 6, ground := Go.Ground.phase }, { on := 7, ground := Go.Ground.phase }, { on := 8, ground := Go.Ground.phase }, { on := 9, ground := Go.Ground.phase }], guard := none }) (v := ?_) rfl (by kernel_rfl) (by kernel_rfl) (by kernel_rfl) (fun _ _ _ h => h) (Or.inl ⟨by rfl, ?_⟩) (by assumption) ?_
            rotate_left
            · (intro w hSw; (try dsimp only at hSw); first | (go_simp; done) | (go_simp; with_reducible rfl))
            try simp only [Act.put, List.setIfInBounds_toArray, List.set_cons_zero, List.set_cons_succ]
            refine wpAnyH_done (by kernel_rfl) ?_ _
            (generalize hW9 : World.alloc _ _ = W9; have hf9 := l2_below (W' := W9) HL8.out (by subst hW9; go_grown); obtain ⟨y0, y1, y2, y3, y4, y5, y6, y7⟩ : C7 W9 w8.heap.size k' m' a' b' c' d' n' := (by subst hW9; exact (by refine ⟨?_, ?_, ?_, ?_, ?_, ?_, ?_, ?_⟩ <;> first | (simp [go_sem]; done) | (simp; omega))))
            clear hW9 hxx
            obtain ⟨⟨x0, x1, x2, x3, x4, x5, x6, x7⟩, fx, ⟨z0, z1, z2, z3, z4, z5, z6, z7⟩, fz, ht, _, _, _, hxw, hzw, _⟩ := id hf9
            have HTT := Lib.hid ht
            have fz9 := fz.out
            clear ht fx fz
            cases ok with
            | true =>
              go_wp2
              refine bodyPost_ret (v := .agg #[.int .i64 k', .int .i64 m', .int .i64 a', .int .i64 b', .int .i64 c', .int .i64 d', .int .i64 n']) (by simp [results, Tryd.results40, go_sem, z1, z2, z3, z4, z5, z6, z7]) rfl ⟨k', m', a', b', c', d', n', rfl, HOK.out (by simp), ?_⟩
              repeat (first | (with_reducible refine turned_put ?_ hr (by omega)) | exact turned_more HTT.out (by omega))
            | false =>
              go_wp2
              refine bodyPost_ret (v := .agg #[.int .i64 k, .int .i64 m, .int .i64 a, .int .i64 b, .int .i64 c, .int .i64 d, .int .i64 n]) (by simp [results, Tryd.results40, go_sem, z1, z2, z3, z4, z5, z6, z7]) rfl ⟨k, m, a, b, c, d, n, rfl, HAV.out, ?_⟩
              repeat (first | (with_reducible refine turned_put ?_ hr (by omega)) | exact turned_more HTT.out (by omega))
          ·
            go_simp
            refine hK.out _ _ ?_ (fun hHeld => ?_)
            · try dsimp only
              first | (refine (c7_on hxx ?_).2; go_grown; done) | (refine keep7s (c7_on hxx ?_) (by omega); go_grown; done)
            clear hK K
            try simp only [Act.put, List.setIfInBounds_toArray, List.set_cons_zero, List.set_cons_succ]
            refine wpAnyH_ready (rs := [4]) (by kernel_rfl) (by simp) ?_
            refine AllReadyH.cons (o := { dst := some 27, op := Go.Op.call { callee := Go.Callee.value (Go.Operand.func 54), args := #[Go.Operand.tmp 23, Go.Operand.tmp 26], argTypes := #[33, 3] }, type := 37, pos := "l2_atoms.go:289", after := #[{ on := 0, ground := Go.Ground.data }, { on := 3, ground := Go.Ground.data }, { on := 3, ground := Go.Ground.chain }], guard := none }) rfl (fun K hK => ?_) AllReadyH.nil
            go_simp
            (go_at_call 54; refine (specScale_v k m a b c d n u _).mono ?_; rintro e w8 ⟨k', m', a', b', c', d', n', ok, rfl, hok, hb8⟩; have HOK := Lib.hid hok; clear hok; have hb8' := below_on (w := w7) (by go_grown) hb8; have hxx := c7_on hxx hb8'; have HL8 := Lib.hid (l2_below HL7.out hb8'); have hs78 : w7.heap.size ≤ w8.heap.size := hb8'.size; have hbx8 : Box7 w8 w7.heap.size := box7_below (show Box7 _ w7.heap.size from ⟨(by refine ⟨?_, ?_, ?_, ?_, ?_, ?_, ?_, ?_⟩ <;> first | (simp [go_sem]; done) | (simp; omega)), by intro o; simp [go_sem]⟩) hb8; obtain ⟨⟨b0, b1, b2, b3, b4, b5, b6, b7⟩, fb⟩ := id hbx8)
            (try go_wp2_with fail)
            refine hK.out _ _ ?_ (fun hHeld => ?_)
            · try dsimp only
              first | (refine (c7_on hxx ?_).2; go_grown; done) | (refine keep7s (c7_on hxx ?_) (by omega); go_grown; done)
            clear hK K
            try simp only [Act.put, List.setIfInBounds_toArray, List.set_cons_zero, List.set_cons_succ]
            refine wpAnyH_take (i := 5) (oi := { dst := some 22, op := Go.Op.move (Go.Operand.tmp 27), type := 37, pos := "l2_atoms.go:289", after := #[{ on := 4, ground := Go.Ground.data }], guard := none }) (v := ?_) rfl (by kernel_rfl) (by kernel_rfl) (by kernel_rfl) (fun _ _ _ h => h) (Or.inl ⟨by rfl, ?_⟩) (by assumption) ?_
            rotate_left
            · (intro w hSw; (try dsimp only at hSw); first | (go_simp; done) | (go_simp; with_reducible rfl))
            try simp only [Act.put, List.setIfInBounds_toArray, List.set_cons_zero, List.set_cons_succ]
            refine wpAnyH_take (i := 6) (oi := { dst := some 28, op := Go.Op.extract (Go.Operand.tmp 22) 0, type := 33, pos := "l2_atoms.go:289", after := #[{ on := 5, ground := Go.Ground.data }], guard := none }) (v := ?_) rfl (by kernel_rfl) (by kernel_rfl) (by kernel_rfl) (fun _ _ _ h => h) (Or.inl ⟨by rfl, ?_⟩) (by assumption) ?_
            rotate_left
            · (intro w hSw; (try dsimp only at hSw); first | (go_simp; done) | (go_simp; with_reducible rfl))
            try simp only [Act.put, List.setIfInBounds_toArray, List.set_cons_zero, List.set_cons_succ]
            refine wpAnyH_take (i := 7) (oi := { dst := some 29, op := Go.Op.extract (Go.Operand.tmp 22) 1, type := 4, pos := "l2_atoms.go:289", after := #[{ on := 5, ground := Go.Ground.data }, { on := 9, ground := Go.Ground.gcOnly Go.Departure.lateStores }], guard := none }) (v := ?_) rfl (by kernel_rfl) (by kernel_rfl) (by kernel_rfl) (fun _ _ _ h => h) (Or.inl ⟨by rfl, ?_⟩) (by assumption) ?_
            rotate_left
            · (intro w hSw; (try dsimp only at hSw); first | (go_simp; done) | (go_simp; with_reducible rfl))
            try simp only [Act.put, List.setIfInBounds_toArray, List.set_cons_zero, List.set_cons_succ]
            refine wpAnyH_ready (rs := [9]) (by kernel_rfl) (by simp) ?_
            refine AllReadyH.cons (o := { dst := none, op := Go.Op.store 33 (Go.Operand.tmp 4) (Go.Operand.tmp 28), type := 0, pos := "l2_atoms.go:289", after := #[{ on := 8, ground := Go.Ground.data }, { on := 6, ground := Go.Ground.data }, { on := 4, ground := Go.Ground.chain }, { on := 0, ground := Go.Ground.phase }, { on := 1, ground := Go.Ground.phase }, { on := 2, ground := Go.Ground.phase }, { on := 3, ground := Go.Ground.phase }, { on := 4, ground := Go.Ground.phase }, { on := 5, ground := Go.Ground.phase }, { on := 6, ground := Go.Ground.phase }, { on := 7, ground := Go.Ground.textOnly Go.Departure.lateStores }, { on := 8, ground := Go.Ground.phase }], guard := none }) rfl (fun K hK => ?_) AllReadyH.nil
            go_simp
            refine hK.out _ _ ?_ (fun hHeld => ?_)
            · try dsimp only
              first | (refine (c7_on hxx ?_).2; go_grown; done) | (refine keep7s (c7_on hxx ?_) (by omega); go_grown; done)
            clear hK K
            try simp only [Act.put, List.setIfInBounds_toArray, List.set_cons_zero, List.set_cons_succ]
            refine wpAnyH_take (i := 10) (oi := { dst := some 5, op := Go.Op.assign (Go.Operand.tmp 29), type := 4, pos := "l2_atoms.go:289", after := #[{ on := 7, ground := Go.Ground.data }, { on := 9, ground := Go.Ground.chain }, { on := 0, ground := Go.Ground.phase }, { on := 1, ground := Go.Ground.phase }, { on := 2, ground := Go.Ground.phase }, { on := 3, ground := Go.Ground.phase }, { on := 4, ground := Go.Ground.phase }, { on := 5, ground := Go.Ground.phase }, { on := 6, ground := Go.Ground.phase }, { on := 7, ground := Go.Ground.phase }, { on := 8, ground := Go.Ground.phase }, { on := 9, ground := Go.Ground.phase }], guard := none }) (v := ?_) rfl (by kernel_rfl) (by kernel_rfl) (by kernel_rfl) (fun _ _ _ h => h) (Or.inl ⟨by rfl, ?_⟩) (by assumption) ?_
            rotate_left
            · (intro w hSw; (try dsimp only at hSw); first | (go_simp; done) | (go_simp; with_reducible rfl))
            try simp only [Act.put, List.setIfInBounds_toArray, List.set_cons_zero, List.set_cons_succ]
            refine wpAnyH_done (by kernel_rfl) ?_ _
            (generalize hW9 : World.setCell _ _ _ = W9; obtain ⟨hf9, y0, y1, y2, y3, y4, y5, y6, y7⟩ := l2_box HL8.out hbx8 (by omega) (by omega) (by omega) hW9)
            clear hW9 hxx
            obtain ⟨⟨x0, x1, x2, x3, x4, x5, x6, x7⟩, fx, ⟨z0, z1, z2, z3, z4, z5, z6, z7⟩, fz, ht, _, _, _, hxw, hzw, _⟩ := id hf9
            have HTT := Lib.hid ht
            have fz9 := fz.out
            clear ht fx fz
            cases ok with
            | true =>
              go_wp2
              refine bodyPost_ret (v := .agg #[.int .i64 k', .int .i64 m', .int .i64 a', .int .i64 b', .int .i64 c', .int .i64 d', .int .i64 n']) (by simp [results, Tryd.results40, go_sem, z1, z2, z3, z4, z5, z6, z7]) rfl ⟨k', m', a', b', c', d', n', rfl, HOK.out (by simp), ?_⟩
              repeat (first | (with_reducible refine turned_put ?_ hr (by omega)) | exact turned_more HTT.out (by omega))
            | false =>
              go_wp2
              refine bodyPost_ret (v := .agg #[.int .i64 k, .int .i64 m, .int .i64 a, .int .i64 b, .int .i64 c, .int .i64 d, .int .i64 n]) (by simp [results, Tryd.results40, go_sem, z1, z2, z3, z4, z5, z6, z7]) rfl ⟨k, m, a, b, c, d, n, rfl, HAV.out, ?_⟩
              repeat (first | (with_reducible refine turned_put ?_ hr (by omega)) | exact turned_more HTT.out (by omega))
        ·
          go_simp
          refine hK.out _ _ ?_ (fun hHeld => ?_)
          · try dsimp only
            first | (refine (c7_on hxx ?_).2; go_grown; done) | (refine keep7s (c7_on hxx ?_) (by omega); go_grown; done)
          clear hK K
          try simp only [Act.put, List.setIfInBounds_toArray, List.set_cons_zero, List.set_cons_succ]
          refine wpAnyH_ready (rs := [3]) (by kernel_rfl) (by simp) ?_
          refine AllReadyH.cons (o := { dst := some 26, op := Go.Op.call { callee := Go.Callee.value (Go.Operand.func 46), args := #[Go.Operand.tmp 24, Go.Operand.tmp 25], argTypes := #[40, 42] }, type := 3, pos := "l2_atoms.go:289", after := #[{ on := 1, ground := Go.Ground.data }, { on := 2, ground := Go.Ground.data }], guard := none }) rfl (fun K hK => ?_) AllReadyH.nil
          go_simp
          (go_at_call 46; refine (num_t r _ q6 [2, 3, 6] _ (rd_on HR6.out (by go_grown)) (by omega) (by simp) (by simp) (by first | (simp; done) | (simp; omega)) (by omega) (three_at (by simp [go_sem]) (by simp [go_sem]) (by simp [go_sem]))).mono ?_; rintro e w7 ⟨u, rfl, _, ht7⟩; have ht7' : Turned r q6 1 w5 w7 := below_turned (by go_grown) ht7; have HL7 := Lib.hid (l2_turn HL5.out ht7' HR6.out p6 p7); have hxx := HL7.out.1; have hs57 : w5.heap.size ≤ w7.heap.size := ht7'.1.size; have hbx7 : Box7 w7 (w5.heap.size + 1) := box7_turn (show Box7 _ (w5.heap.size + 1) from ⟨(by refine ⟨?_, ?_, ?_, ?_, ?_, ?_, ?_, ?_⟩ <;> first | (simp [go_sem]; done) | (simp; omega)), by intro o; simp [go_sem]⟩) ht7 (by omega))
          (try go_wp2_with fail)
          refine hK.out _ _ ?_ (fun hHeld => ?_)
          · try dsimp only
            first | (refine (c7_on hxx ?_).2; go_grown; done) | (refine keep7s (c7_on hxx ?_) (by omega); go_grown; done)
          clear hK K
          try simp only [Act.put, List.setIfInBounds_toArray, List.set_cons_zero, List.set_cons_succ]
          refine wpAnyH_ready (rs := [4]) (by kernel_rfl) (by simp) ?_
          refine AllReadyH.cons (o := { dst := some 27, op := Go.Op.call { callee := Go.Callee.value (Go.Operand.func 54), args := #[Go.Operand.tmp 23, Go.Operand.tmp 26], argTypes := #[33, 3] }, type := 37, pos := "l2_atoms.go:289", after := #[{ on := 0, ground := Go.Ground.data }, { on := 3, ground := Go.Ground.data }, { on := 3, ground := Go.Ground.chain }], guard := none }) rfl (fun K hK => ?_) AllReadyH.nil
          go_simp
          (go_at_call 54; refine (specScale_v k m a b c d n u _).mono ?_; rintro e w8 ⟨k', m', a', b', c', d', n', ok, rfl, hok, hb8⟩; have HOK := Lib.hid hok; clear hok; have hb8' := below_on (w := w7) (by go_grown) hb8; have hxx := c7_on hxx hb8'; have HL8 := Lib.hid (l2_below HL7.out hb8'); have hs78 : w7.heap.size ≤ w8.heap.size := hb8'.size; have hbx8 := box7_below hbx7 hb8'; obtain ⟨⟨b0, b1, b2, b3, b4, b5, b6, b7⟩, fb⟩ := id hbx8)
          (try go_wp2_with fail)
          refine hK.out _ _ ?_ (fun hHeld => ?_)
          · try dsimp only
            first | (refine (c7_on hxx ?_).2; go_grown; done) | (refine keep7s (c7_on hxx ?_) (by omega); go_grown; done)
          clear hK K
          try simp only [Act.put, List.setIfInBounds_toArray, List.set_cons_zero, List.set_cons_succ]
          refine wpAnyH_take (i := 5) (oi := { dst := some 22, op := Go.Op.move (Go.Operand.tmp 27), type := 37, pos := "l2_atoms.go:289", after := #[{ on := 4, ground := Go.Ground.data }], guard := none }) (v := ?_) rfl (by kernel_rfl) (by kernel_rfl) (by kernel_rfl) (fun _ _ _ h => h) (Or.inl ⟨by rfl, ?_⟩) (by assumption) ?_
          rotate_left
          · (intro w hSw; (try dsimp only at hSw); first | (go_simp; done) | (go_simp; with_reducible rfl))
          try simp only [Act.put, List.setIfInBounds_toArray, List.set_cons_zero, List.set_cons_succ]
          refine wpAnyH_take (i := 6) (oi := { dst := some 28, op := Go.Op.extract (Go.Operand.tmp 22) 0, type := 33, pos := "l2_atoms.go:289", after := #[{ on := 5, ground := Go.Ground.data }], guard := none }) (v := ?_) rfl (by kernel_rfl) (by kernel_rfl) (by kernel_rfl) (fun _ _ _ h => h) (Or.inl ⟨by rfl, ?_⟩) (by assumption) ?_
          rotate_left
          · (intro w hSw; (try dsimp only at hSw); first | (go_simp; done) | (go_simp; with_reducible rfl))
          try simp only [Act.put, List.setIfInBounds_toArray, List.set_cons_zero, List.set_cons_succ]
          refine wpAnyH_take (i := 7) (oi := { dst := some 29, op := Go.Op.extract (Go.Operand.tmp 22) 1, type := 4, pos := "l2_atoms.go:289", after := #[{ on := 5, ground := Go.Ground.data }, { on := 9, ground := Go.Ground.gcOnly Go.Departure.lateStores }], guard := none }) (v := ?_) rfl (by kernel_rfl) (by kernel_rfl) (by kernel_rfl) (fun _ _ _ h => h) (Or.inl ⟨by rfl, ?_⟩) (by assumption) ?_
          rotate_left
          · (intro w hSw; (try dsimp only at hSw); first | (go_simp; done) | (go_simp; with_reducible rfl))
          try simp only [Act.put, List.setIfInBounds_toArray, List.set_cons_zero, List.set_cons_succ]
          refine wpAnyH_ready (rs := [9]) (by kernel_rfl) (by simp) ?_
          refine AllReadyH.cons (o := { dst := none, op := Go.Op.store 33 (Go.Operand.tmp 4) (Go.Operand.tmp 28), type := 0, pos := "l2_atoms.go:289", after := #[{ on := 8, ground := Go.Ground.data }, { on := 6, ground := Go.Ground.data }, { on := 4, ground := Go.Ground.chain }, { on := 0, ground := Go.Ground.phase }, { on := 1, ground := Go.Ground.phase }, { on := 2, ground := Go.Ground.phase }, { on := 3, ground := Go.Ground.phase }, { on := 4, ground := Go.Ground.phase }, { on := 5, ground := Go.Ground.phase }, { on := 6, ground := Go.Ground.phase }, { on := 7, ground := Go.Ground.textOnly Go.Departure.lateStores }, { on := 8, ground := Go.Ground.phase }], guard := none }) rfl (fun K hK => ?_) AllReadyH.nil
          go_simp
          refine hK.out _ _ ?_ (fun hHeld => ?_)
          · try dsimp only
            first | (refine (c7_on hxx ?_).2; go_grown; done) | (refine keep7s (c7_on hxx ?_) (by omega); go_grown; done)
          clear hK K
          try simp only [Act.put, List.setIfInBounds_toArray, List.set_cons_zero, List.set_cons_succ]
          refine wpAnyH_take (i := 10) (oi := { dst := some 5, op := Go.Op.assign (Go.Operand.tmp 29), type := 4, pos := "l2_atoms.go:289", after := #[{ on := 7, ground := Go.Ground.data }, { on := 9, ground := Go.Ground.chain }, { on := 0, ground := Go.Ground.phase }, { on := 1, ground := Go.Ground.phase }, { on := 2, ground := Go.Ground.phase }, { on := 3, ground := Go.Ground.phase }, { on := 4, ground := Go.Ground.phase }, { on := 5, ground := Go.Ground.phase }, { on := 6, ground := Go.Ground.phase }, { on := 7, ground := Go.Ground.phase }, { on := 8, ground := Go.Ground.phase }, { on := 9, ground := Go.Ground.phase }], guard := none }) (v := ?_) rfl (by kernel_rfl) (by kernel_rfl) (by kernel_rfl) (fun _ _ _ h => h) (Or.inl ⟨by rfl, ?_⟩) (by assumption) ?_
          rotate_left
          · (intro w hSw; (try dsimp only at hSw); first | (go_simp; done) | (go_simp; with_reducible rfl))
          try simp only [Act.put, List.setIfInBounds_toArray, List.set_cons_zero, List.set_cons_succ]
          refine wpAnyH_done (by kernel_rfl) ?_ _
          (generalize hW9 : World.setCell _ _ _ = W9; obtain ⟨hf9, y0, y1, y2, y3, y4, y5, y6, y7⟩ := l2_box HL8.out hbx8 (by omega) (by omega) (by omega) hW9)
          clear hW9 hxx
          obtain ⟨⟨x0, x1, x2, x3, x4, x5, x6, x7⟩, fx, ⟨z0, z1, z2, z3, z4, z5, z6, z7⟩, fz, ht, _, _, _, hxw, hzw, _⟩ := id hf9
          have HTT := Lib.hid ht
          have fz9 := fz.out
          clear ht fx fz
          cases ok with
          | true =>
            go_wp2
            refine bodyPost_ret (v := .agg #[.int .i64 k', .int .i64 m', .int .i64 a', .int .i64 b', .int .i64 c', .int .i64 d', .int .i64 n']) (by simp [results, Tryd.results40, go_sem, z1, z2, z3, z4, z5, z6, z7]) rfl ⟨k', m', a', b', c', d', n', rfl, HOK.out (by simp), ?_⟩
            repeat (first | (with_reducible refine turned_put ?_ hr (by omega)) | exact turned_more HTT.out (by omega))
          | false =>
            go_wp2
            refine bodyPost_ret (v := .agg #[.int .i64 k, .int .i64 m, .int .i64 a, .int .i64 b, .int .i64 c, .int .i64 d, .int .i64 n]) (by simp [results, Tryd.results40, go_sem, z1, z2, z3, z4, z5, z6, z7]) rfl ⟨k, m, a, b, c, d, n, rfl, HAV.out, ?_⟩
            repeat (first | (with_reducible refine turned_put ?_ hr (by omega)) | exact turned_more HTT.out (by omega))
      ·
        go_simp
        refine hK.out _ _ ?_ (fun hHeld => ?_)
        · try dsimp only
          first | (refine (c7_on hxx ?_).2; go_grown; done) | (refine keep7s (c7_on hxx ?_) (by omega); go_grown; done)
        clear hK K
        try simp only [Act.put, List.setIfInBounds_toArray, List.set_cons_zero, List.set_cons_succ]
        refine wpAnyH_ready (rs := [2]) (by kernel_rfl) (by simp) ?_
        refine AllReadyH.cons (o := { dst := some 25, op := Go.Op.buildSlice 42 3 #[(0, Go.Operand.const (Go.Value.int Go.IntKind.i64 2)), (1, Go.Operand.const (Go.Value.int Go.IntKind.i64 3)), (2, Go.Operand.const (Go.Value.int Go.IntKind.i64 6))], type := 42, pos := "l2_atoms.go:289", after := #[], guard := none }) rfl (fun K hK => ?_) AllReadyH.nil
        go_simp
        refine hK.out _ _ ?_ (fun hHeld => ?_)
        · try dsimp only
          first | (refine (c7_on hxx ?_).2; go_grown; done) | (refine keep7s (c7_on hxx ?_) (by omega); go_grown; done)
        clear hK K
        try simp only [Act.put, List.setIfInBounds_toArray, List.set_cons_zero, List.set_cons_succ]
        refine wpAnyH_ready (rs := [3]) (by kernel_rfl) (by simp) ?_
        refine AllReadyH.cons (o := { dst := some 26, op := Go.Op.call { callee := Go.Callee.value (Go.Operand.func 46), args := #[Go.Operand.tmp 24, Go.Operand.tmp 25], argTypes := #[40, 42] }, type := 3, pos := "l2_atoms.go:289", after := #[{ on := 1, ground := Go.Ground.data }, { on := 2, ground := Go.Ground.data }], guard := none }) rfl (fun K hK => ?_) AllReadyH.nil
        go_simp
        (go_at_call 46; refine (num_t r _ q6 [2, 3, 6] _ (rd_on HR6.out (by go_grown)) (by omega) (by simp) (by simp) (by first | (simp; done) | (simp; omega)) (by omega) (three_at (by simp [go_sem]) (by simp [go_sem]) (by simp [go_sem]))).mono ?_; rintro e w7 ⟨u, rfl, _, ht7⟩; have ht7' : Turned r q6 1 w5 w7 := below_turned (by go_grown) ht7; have HL7 := Lib.hid (l2_turn HL5.out ht7' HR6.out p6 p7); have hxx := HL7.out.1; have hs57 : w5.heap.size ≤ w7.heap.size := ht7'.1.size; have hbx7 : Box7 w7 (w5.heap.size) := box7_turn (show Box7 _ (w5.heap.size) from ⟨(by refine ⟨?_, ?_, ?_, ?_, ?_, ?_, ?_, ?_⟩ <;> first | (simp [go_sem]; done) | (simp; omega)), by intro o; simp [go_sem]⟩) ht7 (by omega))
        (try go_wp2_with fail)
        refine hK.out _ _ ?_ (fun hHeld => ?_)
        · try dsimp only
          first | (refine (c7_on hxx ?_).2; go_grown; done) | (refine keep7s (c7_on hxx ?_) (by omega); go_grown; done)
        clear hK K
        try simp only [Act.put, List.setIfInBounds_toArray, List.set_cons_zero, List.set_cons_succ]
        refine wpAnyH_ready (rs := [4]) (by kernel_rfl) (by simp) ?_
        refine AllReadyH.cons (o := { dst := some 27, op := Go.Op.call { callee := Go.Callee.value (Go.Operand.func 54), args := #[Go.Operand.tmp 23, Go.Operand.tmp 26], argTypes := #[33, 3] }, type := 37, pos := "l2_atoms.go:289", after := #[{ on := 0, ground := Go.Ground.data }, { on := 3, ground := Go.Ground.data }, { on := 3, ground := Go.Ground.chain }], guard := none }) rfl (fun K hK => ?_) AllReadyH.nil
        go_simp
        (go_at_call 54; refine (specScale_v k m a b c d n u _).mono ?_; rintro e w8 ⟨k', m', a', b', c', d', n', ok, rfl, hok, hb8⟩; have HOK := Lib.hid hok; clear hok; have hb8' := below_on (w := w7) (by go_grown) hb8; have hxx := c7_on hxx hb8'; have HL8 := Lib.hid (l2_below HL7.out hb8'); have hs78 : w7.heap.size ≤ w8.heap.size := hb8'.size; have hbx8 := box7_below hbx7 hb8'; obtain ⟨⟨b0, b1, b2, b3, b4, b5, b6, b7⟩, fb⟩ := id hbx8)
        (try go_wp2_with fail)
        refine hK.out _ _ ?_ (fun hHeld => ?_)
        · try dsimp only
          first | (refine (c7_on hxx ?_).2; go_grown; done) | (refine keep7s (c7_on hxx ?_) (by omega); go_grown; done)
        clear hK K
        try simp only [Act.put, List.setIfInBounds_toArray, List.set_cons_zero, List.set_cons_succ]
        refine wpAnyH_take (i := 5) (oi := { dst := some 22, op := Go.Op.move (Go.Operand.tmp 27), type := 37, pos := "l2_atoms.go:289", after := #[{ on := 4, ground := Go.Ground.data }], guard := none }) (v := ?_) rfl (by kernel_rfl) (by kernel_rfl) (by kernel_rfl) (fun _ _ _ h => h) (Or.inl ⟨by rfl, ?_⟩) (by assumption) ?_
        rotate_left
        · (intro w hSw; (try dsimp only at hSw); first | (go_simp; done) | (go_simp; with_reducible rfl))
        try simp only [Act.put, List.setIfInBounds_toArray, List.set_cons_zero, List.set_cons_succ]
        refine wpAnyH_take (i := 6) (oi := { dst := some 28, op := Go.Op.extract (Go.Operand.tmp 22) 0, type := 33, pos := "l2_atoms.go:289", after := #[{ on := 5, ground := Go.Ground.data }], guard := none }) (v := ?_) rfl (by kernel_rfl) (by kernel_rfl) (by kernel_rfl) (fun _ _ _ h => h) (Or.inl ⟨by rfl, ?_⟩) (by assumption) ?_
        rotate_left
        · (intro w hSw; (try dsimp only at hSw); first | (go_simp; done) | (go_simp; with_reducible rfl))
        try simp only [Act.put, List.setIfInBounds_toArray, List.set_cons_zero, List.set_cons_succ]
        refine wpAnyH_take (i := 7) (oi := { dst := some 29, op := Go.Op.extract (Go.Operand.tmp 22) 1, type := 4, pos := "l2_atoms.go:289", after := #[{ on := 5, ground := Go.Ground.data }, { on := 9, ground := Go.Ground.gcOnly Go.Departure.lateStores }], guard := none }) (v := ?_) rfl (by kernel_rfl) (by kernel_rfl) (by kernel_rfl) (fun _ _ _ h => h) (Or.inl ⟨by rfl, ?_⟩) (by assumption) ?_
        rotate_left
        · (intro w hSw; (try dsimp only at hSw); first | (go_simp; done) | (go_simp; with_reducible rfl))
        try simp only [Act.put, List.setIfInBounds_toArray, List.set_cons_zero, List.set_cons_succ]
        refine wpAnyH_ready (rs := [9]) (by kernel_rfl) (by simp) ?_
        refine AllReadyH.cons (o := { dst := none, op := Go.Op.store 33 (Go.Operand.tmp 4) (Go.Operand.tmp 28), type := 0, pos := "l2_atoms.go:289", after := #[{ on := 8, ground := Go.Ground.data }, { on := 6, ground := Go.Ground.data }, { on := 4, ground := Go.Ground.chain }, { on := 0, ground := Go.Ground.phase }, { on := 1, ground := Go.Ground.phase }, { on := 2, ground := Go.Ground.phase }, { on := 3, ground := Go.Ground.phase }, { on := 4, ground := Go.Ground.phase }, { on := 5, ground := Go.Ground.phase }, { on := 6, ground := Go.Ground.phase }, { on := 7, ground := Go.Ground.textOnly Go.Departure.lateStores }, { on := 8, ground := Go.Ground.phase }], guard := none }) rfl (fun K hK => ?_) AllReadyH.nil
        go_simp
        refine hK.out _ _ ?_ (fun hHeld => ?_)
        · try dsimp only
          first | (refine (c7_on hxx ?_).2; go_grown; done) | (refine keep7s (c7_on hxx ?_) (by omega); go_grown; done)
        clear hK K
        try simp only [Act.put, List.setIfInBounds_toArray, List.set_cons_zero, List.set_cons_succ]
        refine wpAnyH_take (i := 10) (oi := { dst := some 5, op := Go.Op.assign (Go.Operand.tmp 29), type := 4, pos := "l2_atoms.go:289", after := #[{ on := 7, ground := Go.Ground.data }, { on := 9, ground := Go.Ground.chain }, { on := 0, ground := Go.Ground.phase }, { on := 1, ground := Go.Ground.phase }, { on := 2, ground := Go.Ground.phase }, { on := 3, ground := Go.Ground.phase }, { on := 4, ground := Go.Ground.phase }, { on := 5, ground := Go.Ground.phase }, { on := 6, ground := Go.Ground.phase }, { on := 7, ground := Go.Ground.phase }, { on := 8, ground := Go.Ground.phase }, { on := 9, ground := Go.Ground.phase }], guard := none }) (v := ?_) rfl (by kernel_rfl) (by kernel_rfl) (by kernel_rfl) (fun _ _ _ h => h) (Or.inl ⟨by rfl, ?_⟩) (by assumption) ?_
        rotate_left
        · (intro w hSw; (try dsimp only at hSw); first | (go_simp; done) | (go_simp; with_reducible rfl))
        try simp only [Act.put, List.setIfInBounds_toArray, List.set_cons_zero, List.set_cons_succ]
        refine wpAnyH_done (by kernel_rfl) ?_ _
        (generalize hW9 : World.setCell _ _ _ = W9; obtain ⟨hf9, y0, y1, y2, y3, y4, y5, y6, y7⟩ := l2_box HL8.out hbx8 (by omega) (by omega) (by omega) hW9)
        clear hW9 hxx
        obtain ⟨⟨x0, x1, x2, x3, x4, x5, x6, x7⟩, fx, ⟨z0, z1, z2, z3, z4, z5, z6, z7⟩, fz, ht, _, _, _, hxw, hzw, _⟩ := id hf9
        have HTT := Lib.hid ht
        have fz9 := fz.out
        clear ht fx fz
        cases ok with
        | true =>
          go_wp2
          refine bodyPost_ret (v := .agg #[.int .i64 k', .int .i64 m', .int .i64 a', .int .i64 b', .int .i64 c', .int .i64 d', .int .i64 n']) (by simp [results, Tryd.results40, go_sem, z1, z2, z3, z4, z5, z6, z7]) rfl ⟨k', m', a', b', c', d', n', rfl, HOK.out (by simp), ?_⟩
          repeat (first | (with_reducible refine turned_put ?_ hr (by omega)) | exact turned_more HTT.out (by omega))
        | false =>
          go_wp2
          refine bodyPost_ret (v := .agg #[.int .i64 k, .int .i64 m, .int .i64 a, .int .i64 b, .int .i64 c, .int .i64 d, .int .i64 n]) (by simp [results, Tryd.results40, go_sem, z1, z2, z3, z4, z5, z6, z7]) rfl ⟨k, m, a, b, c, d, n, rfl, HAV.out, ?_⟩
          repeat (first | (with_reducible refine turned_put ?_ hr (by omega)) | exact turned_more HTT.out (by omega))
    · have e0 : (v == 0) = false := by simpa using hv
      obtain ⟨⟨x0, x1, x2, x3, x4, x5, x6, x7⟩, fx, ⟨z0, z1, z2, z3, z4, z5, z6, z7⟩, fz, ht, _, _, _, hxw, hzw, _⟩ := id HL5.out
      have HTT := Lib.hid ht
      have fz5 := fz.out
      clear ht fx fz
      go_wp2
      refine bodyPost_ret (v := .agg #[.int .i64 k, .int .i64 m, .int .i64 a, .int .i64 b, .int .i64 c, .int .i64 d, .int .i64 n]) (by simp [results, Tryd.results40, go_sem, z1, z2, z3, z4, z5, z6, z7]) rfl ⟨k, m, a, b, c, d, n, rfl, HAV.out, ?_⟩
      repeat (first | (with_reducible refine turned_put ?_ hr (by omega)) | exact turned_more HTT.out (by omega))
  · have hk2f : ¬ (2 : Int) ≤ k := hk2
    obtain ⟨m, hm⟩ : ∃ m : Int, m = 0 := ⟨0, rfl⟩
    have HAV := Lib.hid (show avB k m a b c d n = true from av_of HTV.out (Or.inl ⟨by have := HK.out; omega, hm⟩))
    have HL4 : Hid (L2 w r p 10 w2.heap.size w.heap.size k m a b c d n W2) := by
      subst hm
      obtain ⟨h7, hf, hz, hfz, h1, e⟩ := HL.out
      exact ⟨h7, hf, hz, hfz, turned_more h1 (by omega), e⟩
    clear hm
    obtain ⟨q4, p4, p5, hR4⟩ := l2_rd HL4.out
    go_wp2_with fail
    refine (pick_t r q4 4 _ hR4 (by omega)).mono ?_
    rintro e w5 ⟨v, rfl, v0, _, ht5⟩
    have HL5 := Lib.hid (l2_turn HL4.out ht5 hR4 p4 p5)
    clear ht5 hR4
    by_cases hv : v = 0
    · subst hv
      obtain ⟨q6, p6, p7, hR6⟩ := l2_rd HL5.out
      have HR6 := Lib.hid hR6
      have hxx := HL5.out.1
      have hro : r < w5.heap.size := rd_lt hR6
      have hxo : w2.heap.size < w5.heap.size := hxx.1
      have hzo : w.heap.size < w5.heap.size := HL5.out.2.2.1.1
      clear hR6
      go_wp2_with fail
      refine wp_region_held_drew (S := (fun w' => w'.cell? ⟨w2.heap.size, 0, none⟩ = some (.int .i64 k) ∧ w'.cell? ⟨w2.heap.size, 1, none⟩ = some (.int .i64 m) ∧ w'.cell? ⟨w2.heap.size, 2, none⟩ = some (.int .i64 a) ∧ w'.cell? ⟨w2.heap.size, 3, none⟩ = some (.int .i64 b) ∧ w'.cell? ⟨w2.heap.size, 4, none⟩ = some (.int .i64 c) ∧ w'.cell? ⟨w2.heap.size, 5, none⟩ = some (.int .i64 d) ∧ w'.cell? ⟨w2.heap.size, 6, none⟩ = some (.int .i64 n))) (by kernel_rfl) ?_ (fun hHeld => ?_)
      · try dsimp only
        first | (refine (c7_on hxx ?_).2; go_grown; done) | (refine keep7s (c7_on hxx ?_) (by omega); go_grown; done)
      refine wpAnyH_take (i := 0) (oi := { dst := some 23, op := Go.Op.load 33 (Go.Operand.tmp 3), type := 33, pos := "l2_atoms.go:289", after := #[], guard := none }) (v := ?_) rfl (by kernel_rfl) (by kernel_rfl) (by kernel_rfl) (fun _ _ _ h => h) (Or.inl ⟨by rfl, ?_⟩) (by assumption) ?_
      rotate_left
      · (intro w hSw; (try dsimp only at hSw); first | (go_simp; done) | (go_simp; with_reducible rfl))
      try simp only [Act.put, List.setIfInBounds_toArray, List.set_cons_zero, List.set_cons_succ]
      refine wpAnyH_take (i := 1) (oi := { dst := some 24, op := Go.Op.move (Go.Operand.tmp 0), type := 40, pos := "l2_atoms.go:289", after := #[], guard := none }) (v := ?_) rfl (by kernel_rfl) (by kernel_rfl) (by kernel_rfl) (fun _ _ _ h => h) (Or.inl ⟨by rfl, ?_⟩) (by assumption) ?_
      rotate_left
      · (intro w hSw; (try dsimp only at hSw); first | (go_simp; done) | (go_simp; with_reducible rfl))
      try simp only [Act.put, List.setIfInBounds_toArray, List.set_cons_zero, List.set_cons_succ]
      refine wpAnyH_ready (rs := [2, 8]) (by kernel_rfl) (by simp) ?_
      refine AllReadyH.cons (o := { dst := some 25, op := Go.Op.buildSlice 42 3 #[(0, Go.Operand.const (Go.Value.int Go.IntKind.i64 2)), (1, Go.Operand.const (Go.Value.int Go.IntKind.i64 3)), (2, Go.Operand.const (Go.Value.int Go.IntKind.i64 6))], type := 42, pos := "l2_atoms.go:289", after := #[], guard := none }) rfl (fun K hK => ?_) (AllReadyH.cons (o := { dst := some 4, op := Go.Op.alloc 33, type := 0, pos := "l2_atoms.go:289", after := #[], guard := none }) rfl (fun K hK => ?_) AllReadyH.nil)
      ·
        go_simp
        refine hK.out _ _ ?_ (fun hHeld => ?_)
        · try dsimp only
          first | (refine (c7_on hxx ?_).2; go_grown; done) | (refine keep7s (c7_on hxx ?_) (by omega); go_grown; done)
        clear hK K
        try simp only [Act.put, List.setIfInBounds_toArray, List.set_cons_zero, List.set_cons_succ]
        refine wpAnyH_ready (rs := [3, 8]) (by kernel_rfl) (by simp) ?_
        refine AllReadyH.cons (o := { dst := some 26, op := Go.Op.call { callee := Go.Callee.value (Go.Operand.func 46), args := #[Go.Operand.tmp 24, Go.Operand.tmp 25], argTypes := #[40, 42] }, type := 3, pos := "l2_atoms.go:289", after := #[{ on := 1, ground := Go.Ground.data }, { on := 2, ground := Go.Ground.data }], guard := none }) rfl (fun K hK => ?_) (AllReadyH.cons (o := { dst := some 4, op := Go.Op.alloc 33, type := 0, pos := "l2_atoms.go:289", after := #[], guard := none }) rfl (fun K hK => ?_) AllReadyH.nil)
        ·
          go_simp
          (go_at_call 46; refine (num_t r _ q6 [2, 3, 6] _ (rd_on HR6.out (by go_grown)) (by omega) (by simp) (by simp) (by first | (simp; done) | (simp; omega)) (by omega) (three_at (by simp [go_sem]) (by simp [go_sem]) (by simp [go_sem]))).mono ?_; rintro e w7 ⟨u, rfl, _, ht7⟩; have ht7' : Turned r q6 1 w5 w7 := below_turned (by go_grown) ht7; have HL7 := Lib.hid (l2_turn HL5.out ht7' HR6.out p6 p7); have hxx := HL7.out.1; have hs57 : w5.heap.size ≤ w7.heap.size := ht7'.1.size)
          (try go_wp2_with fail)
          refine hK.out _ _ ?_ (fun hHeld => ?_)
          · try dsimp only
            first | (refine (c7_on hxx ?_).2; go_grown; done) | (refine keep7s (c7_on hxx ?_) (by omega); go_grown; done)
          clear hK K
          try simp only [Act.put, List.setIfInBounds_toArray, List.set_cons_zero, List.set_cons_succ]
          refine wpAnyH_ready (rs := [4, 8]) (by kernel_rfl) (by simp) ?_
          refine AllReadyH.cons (o := { dst := some 27, op := Go.Op.call { callee := Go.Callee.value (Go.Operand.func 54), args := #[Go.Operand.tmp 23, Go.Operand.tmp 26], argTypes := #[33, 3] }, type := 37, pos := "l2_atoms.go:289", after := #[{ on := 0, ground := Go.Ground.data }, { on := 3, ground := Go.Ground.data }, { on := 3, ground := Go.Ground.chain }], guard := none }) rfl (fun K hK => ?_) (AllReadyH.cons (o := { dst := some 4, op := Go.Op.alloc 33, type := 0, pos := "l2_atoms.go:289", after := #[], guard := none }) rfl (fun K hK => ?_) AllReadyH.nil)
          ·
            go_simp
            (go_at_call 54; refine (specScale_v k m a b c d n u _).mono ?_; rintro e w8 ⟨k', m', a', b', c', d', n', ok, rfl, hok, hb8⟩; have HOK := Lib.hid hok; clear hok; have hb8' := below_on (w := w7) (by go_grown) hb8; have hxx := c7_on hxx hb8'; have HL8 := Lib.hid (l2_below HL7.out hb8'); have hs78 : w7.heap.size ≤ w8.heap.size := hb8'.size)
            (try go_wp2_with fail)
            refine hK.out _ _ ?_ (fun hHeld => ?_)
            · try dsimp only
              first | (refine (c7_on hxx ?_).2; go_grown; done) | (refine keep7s (c7_on hxx ?_) (by omega); go_grown; done)
            clear hK K
            try simp only [Act.put, List.setIfInBounds_toArray, List.set_cons_zero, List.set_cons_succ]
            refine wpAnyH_take (i := 5) (oi := { dst := some 22, op := Go.Op.move (Go.Operand.tmp 27), type := 37, pos := "l2_atoms.go:289", after := #[{ on := 4, ground := Go.Ground.data }], guard := none }) (v := ?_) rfl (by kernel_rfl) (by kernel_rfl) (by kernel_rfl) (fun _ _ _ h => h) (Or.inl ⟨by rfl, ?_⟩) (by assumption) ?_
            rotate_left
            · (intro w hSw; (try dsimp only at hSw); first | (go_simp; done) | (go_simp; with_reducible rfl))
            try simp only [Act.put, List.setIfInBounds_toArray, List.set_cons_zero, List.set_cons_succ]
            refine wpAnyH_take (i := 6) (oi := { dst := some 28, op := Go.Op.extract (Go.Operand.tmp 22) 0, type := 33, pos := "l2_atoms.go:289", after := #[{ on := 5, ground := Go.Ground.data }], guard := none }) (v := ?_) rfl (by kernel_rfl) (by kernel_rfl) (by kernel_rfl) (fun _ _ _ h => h) (Or.inl ⟨by rfl, ?_⟩) (by assumption) ?_
            rotate_left
            · (intro w hSw; (try dsimp only at hSw); first | (go_simp; done) | (go_simp; with_reducible rfl))
            try simp only [Act.put, List.setIfInBounds_toArray, List.set_cons_zero, List.set_cons_succ]
            refine wpAnyH_take (i := 7) (oi := { dst := some 29, op := Go.Op.extract (Go.Operand.tmp 22) 1, type := 4, pos := "l2_atoms.go:289", after := #[{ on := 5, ground := Go.Ground.data }, { on := 9, ground := Go.Ground.gcOnly Go.Departure.lateStores }], guard := none }) (v := ?_) rfl (by kernel_rfl) (by kernel_rfl) (by kernel_rfl) (fun _ _ _ h => h) (Or.inl ⟨by rfl, ?_⟩) (by assumption) ?_
            rotate_left
            · (intro w hSw; (try dsimp only at hSw); first | (go_simp; done) | (go_simp; with_reducible rfl))
            try simp only [Act.put, List.setIfInBounds_toArray, List.set_cons_zero, List.set_cons_succ]
            refine wpAnyH_ready (rs := [8]) (by kernel_rfl) (by simp) ?_
            refine AllReadyH.cons (o := { dst := some 4, op := Go.Op.alloc 33, type := 0, pos := "l2_atoms.go:289", after := #[], guard := none }) rfl (fun K hK => ?_) AllReadyH.nil
            go_simp
            refine hK.out _ _ ?_ (fun hHeld => ?_)
            · try dsimp only
              first | (refine (c7_on hxx ?_).2; go_grown; done) | (refine keep7s (c7_on hxx ?_) (by omega); go_grown; done)
            clear hK K
            try simp only [Act.put, List.setIfInBounds_toArray, List.set_cons_zero, List.set_cons_succ]
            refine wpAnyH_ready (rs := [9]) (by kernel_rfl) (by simp) ?_
            refine AllReadyH.cons (o := { dst := none, op := Go.Op.store 33 (Go.Operand.tmp 4) (Go.Operand.tmp 28), type := 0, pos := "l2_atoms.go:289", after := #[{ on := 8, ground := Go.Ground.data }, { on := 6, ground := Go.Ground.data }, { on := 4, ground := Go.Ground.chain }, { on := 0, ground := Go.Ground.phase }, { on := 1, ground := Go.Ground.phase }, { on := 2, ground := Go.Ground.phase }, { on := 3, ground := Go.Ground.phase }, { on := 4, ground := Go.Ground.phase }, { on := 5, ground := Go.Ground.phase }, { on := 6, ground := Go.Ground.phase }, { on := 7, ground := Go.Ground.textOnly Go.Departure.lateStores }, { on := 8, ground := Go.Ground.phase }], guard := none }) rfl (fun K hK => ?_) AllReadyH.nil
            go_simp
            refine hK.out _ _ ?_ (fun hHeld => ?_)
            · try dsimp only
              first | (refine (c7_on hxx ?_).2; go_grown; done) | (refine keep7s (c7_on hxx ?_) (by omega); go_grown; done)
            clear hK K
            try simp only [Act.put, List.setIfInBounds_toArray, List.set_cons_zero, List.set_cons_succ]
            refine wpAnyH_take (i := 10) (oi := { dst := some 5, op := Go.Op.assign (Go.Operand.tmp 29), type := 4, pos := "l2_atoms.go:289", after := #[{ on := 7, ground := Go.Ground.data }, { on := 9, ground := Go.Ground.chain }, { on := 0, ground := Go.Ground.phase }, { on := 1, ground := Go.Ground.phase }, { on := 2, ground := Go.Ground.phase }, { on := 3, ground := Go.Ground.phase }, { on := 4, ground := Go.Ground.phase }, { on := 5, ground := Go.Ground.phase }, { on := 6, ground := Go.Ground.phase }, { on := 7, ground := Go.Ground.phase }, { on := 8, ground := Go.Ground.phase }, { on := 9, ground := Go.Ground.phase }], guard := none }) (v := ?_) rfl (by kernel_rfl) (by kernel_rfl) (by kernel_rfl) (fun _ _ _ h => h) (Or.inl ⟨by rfl, ?_⟩) (by assumption) ?_
            rotate_left
            · (intro w hSw; (try dsimp only at hSw); first | (go_simp; done) | (go_simp; with_reducible rfl))
            try simp only [Act.put, List.setIfInBounds_toArray, List.set_cons_zero, List.set_cons_succ]
            refine wpAnyH_done (by kernel_rfl) ?_ _
            (generalize hW9 : World.alloc _ _ = W9; have hf9 := l2_below (W' := W9) HL8.out (by subst hW9; go_grown); obtain ⟨y0, y1, y2, y3, y4, y5, y6, y7⟩ : C7 W9 w8.heap.size k' m' a' b' c' d' n' := (by subst hW9; exact (by refine ⟨?_, ?_, ?_, ?_, ?_, ?_, ?_, ?_⟩ <;> first | (simp [go_sem]; done) | (simp; omega))))
            clear hW9 hxx
            obtain ⟨⟨x0, x1, x2, x3, x4, x5, x6, x7⟩, fx, ⟨z0, z1, z2, z3, z4, z5, z6, z7⟩, fz, ht, _, _, _, hxw, hzw, _⟩ := id hf9
            have HTT := Lib.hid ht
            have fz9 := fz.out
            clear ht fx fz
            cases ok with
            | true =>
              go_wp2
              refine bodyPost_ret (v := .agg #[.int .i64 k', .int .i64 m', .int .i64 a', .int .i64 b', .int .i64 c', .int .i64 d', .int .i64 n']) (by simp [results, Tryd.results40, go_sem, z1, z2, z3, z4, z5, z6, z7]) rfl ⟨k', m', a', b', c', d', n', rfl, HOK.out (by simp), ?_⟩
              repeat (first | (with_reducible refine turned_put ?_ hr (by omega)) | exact turned_more HTT.out (by omega))
            | false =>
              go_wp2
              refine bodyPost_ret (v := .agg #[.int .i64 k, .int .i64 m, .int .i64 a, .int .i64 b, .int .i64 c, .int .i64 d, .int .i64 n]) (by simp [results, Tryd.results40, go_sem, z1, z2, z3, z4, z5, z6, z7]) rfl ⟨k, m, a, b, c, d, n, rfl, HAV.out, ?_⟩
              repeat (first | (with_reducible refine turned_put ?_ hr (by omega)) | exact turned_more HTT.out (by omega))
          ·
            go_simp
            refine hK.out _ _ ?_ (fun hHeld => ?_)
            · try dsimp only
              first | (refine (c7_on hxx ?_).2; go_grown; done) | (refine keep7s (c7_on hxx ?_) (by omega); go_grown; done)
            clear hK K
            try simp only [Act.put, List.setIfInBounds_toArray, List.set_cons_zero, List.set_cons_succ]
            refine wpAnyH_ready (rs := [4]) (by kernel_rfl) (by simp) ?_
            refine AllReadyH.cons (o := { dst := some 27, op := Go.Op.call { callee := Go.Callee.value (Go.Operand.func 54), args := #[Go.Operand.tmp 23, Go.Operand.tmp 26], argTypes := #[33, 3] }, type := 37, pos := "l2_atoms.go:289", after := #[{ on := 0, ground := Go.Ground.data }, { on := 3, ground := Go.Ground.data }, { on := 3, ground := Go.Ground.chain }], guard := none }) rfl (fun K hK => ?_) AllReadyH.nil
            go_simp
            (go_at_call 54; refine (specScale_v k m a b c d n u _).mono ?_; rintro e w8 ⟨k', m', a', b', c', d', n', ok, rfl, hok, hb8⟩; have HOK := Lib.hid hok; clear hok; have hb8' := below_on (w := w7) (by go_grown) hb8; have hxx := c7_on hxx hb8'; have HL8 := Lib.hid (l2_below HL7.out hb8'); have hs78 : w7.heap.size ≤ w8.heap.size := hb8'.size; have hbx8 : Box7 w8 w7.heap.size := box7_below (show Box7 _ w7.heap.size from ⟨(by refine ⟨?_, ?_, ?_, ?_, ?_, ?_, ?_, ?_⟩ <;> first | (simp [go_sem]; done) | (simp; omega)), by intro o; simp [go_sem]⟩) hb8; obtain ⟨⟨b0, b1, b2, b3, b4, b5, b6, b7⟩, fb⟩ := id hbx8)
            (try go_wp2_with fail)
            refine hK.out _ _ ?_ (fun hHeld => ?_)
            · try dsimp only
              first | (refine (c7_on hxx ?_).2; go_grown; done) | (refine keep7s (c7_on hxx ?_) (by omega); go_grown; done)
            clear hK K
            try simp only [Act.put, List.setIfInBounds_toArray, List.set_cons_zero, List.set_cons_succ]
            refine wpAnyH_take (i := 5) (oi := { dst := some 22, op := Go.Op.move (Go.Operand.tmp 27), type := 37, pos := "l2_atoms.go:289", after := #[{ on := 4, ground := Go.Ground.data }], guard := none }) (v := ?_) rfl (by kernel_rfl) (by kernel_rfl) (by kernel_rfl) (fun _ _ _ h => h) (Or.inl ⟨by rfl, ?_⟩) (by assumption) ?_
            rotate_left
            · (intro w hSw; (try dsimp only at hSw); first | (go_simp; done) | (go_simp; with_reducible rfl))
            try simp only [Act.put, List.setIfInBounds_toArray, List.set_cons_zero, List.set_cons_succ]
            refine wpAnyH_take (i := 6) (oi := { dst := some 28, op := Go.Op.extract (Go.Operand.tmp 22) 0, type := 33, pos := "l2_atoms.go:289", after := #[{ on := 5, ground := Go.Ground.data }], guard := none }) (v := ?_) rfl (by kernel_rfl) (by kernel_rfl) (by kernel_rfl) (fun _ _ _ h => h) (Or.inl ⟨by rfl, ?_⟩) (by assumption) ?_
            rotate_left
            · (intro w hSw; (try dsimp only at hSw); first | (go_simp; done) | (go_simp; with_reducible rfl))
            try simp only [Act.put, List.setIfInBounds_toArray, List.set_cons_zero, List.set_cons_succ]
            refine wpAnyH_take (i := 7) (oi := { dst := some 29, op := Go.Op.extract (Go.Operand.tmp 22) 1, type := 4, pos := "l2_atoms.go:289", after := #[{ on := 5, ground := Go.Ground.data }, { on := 9, ground := Go.Ground.gcOnly Go.Departure.lateStores }], guard := none }) (v := ?_) rfl (by kernel_rfl) (by kernel_rfl) (by kernel_rfl) (fun _ _ _ h => h) (Or.inl ⟨by rfl, ?_⟩) (by assumption) ?_
            rotate_left
            · (intro w hSw; (try dsimp only at hSw); first | (go_simp; done) | (go_simp; with_reducible rfl))
            try simp only [Act.put, List.setIfInBounds_toArray, List.set_cons_zero, List.set_cons_succ]
            refine wpAnyH_ready (rs := [9]) (by kernel_rfl) (by simp) ?_
            refine AllReadyH.cons (o := { dst := none, op := Go.Op.store 33 (Go.Operand.tmp 4) (Go.Operand.tmp 28), type := 0, pos := "l2_atoms.go:289", after := #[{ on := 8, ground := Go.Ground.data }, { on := 6, ground := Go.Ground.data }, { on := 4, ground := Go.Ground.chain }, { on := 0, ground := Go.Ground.phase }, { on := 1, ground := Go.Ground.phase }, { on := 2, ground := Go.Ground.phase }, { on := 3, ground := Go.Ground.phase }, { on := 4, ground := Go.Ground.phase }, { on := 5, ground := Go.Ground.phase }, { on := 6, ground := Go.Ground.phase }, { on := 7, ground := Go.Ground.textOnly Go.Departure.lateStores }, { on := 8, ground := Go.Ground.phase }], guard := none }) rfl (fun K hK => ?_) AllReadyH.nil
            go_simp
            refine hK.out _ _ ?_ (fun hHeld => ?_)
            · try dsimp only
              first | (refine (c7_on hxx ?_).2; go_grown; done) | (refine keep7s (c7_on hxx ?_) (by omega); go_grown; done)
            clear hK K
            try simp only [Act.put, List.setIfInBounds_toArray, List.set_cons_zero, List.set_cons_succ]
            refine wpAnyH_take (i := 10) (oi := { dst := some 5, op := Go.Op.assign (Go.Operand.tmp 29), type := 4, pos := "l2_atoms.go:289", after := #[{ on := 7, ground := Go.Ground.data }, { on := 9, ground := Go.Ground.chain }, { on := 0, ground := Go.Ground.phase }, { on := 1, ground := Go.Ground.phase }, { on := 2, ground := Go.Ground.phase }, { on := 3, ground := Go.Ground.phase }, { on := 4, ground := Go.Ground.phase }, { on := 5, ground := Go.Ground.phase }, { on := 6, ground := Go.Ground.phase }, { on := 7, ground := Go.Ground.phase }, { on := 8, ground := Go.Ground.phase }, { on := 9, ground := Go.Ground.phase }], guard := none }) (v := ?_) rfl (by kernel_rfl) (by kernel_rfl) (by kernel_rfl) (fun _ _ _ h => h) (Or.inl ⟨by rfl, ?_⟩) (by assumption) ?_
            rotate_left
            · (intro w hSw; (try dsimp only at hSw); first | (go_simp; done) | (go_simp; with_reducible rfl))
            try simp only [Act.put, List.setIfInBounds_toArray, List.set_cons_zero, List.set_cons_succ]
            refine wpAnyH_done (by kernel_rfl) ?_ _
            (generalize hW9 : World.setCell _ _ _ = W9; obtain ⟨hf9, y0, y1, y2, y3, y4, y5, y6, y7⟩ := l2_box HL8.out hbx8 (by omega) (by omega) (by omega) hW9)
            clear hW9 hxx
            obtain ⟨⟨x0, x1, x2, x3, x4, x5, x6, x7⟩, fx, ⟨z0, z1, z2, z3, z4, z5, z6, z7⟩, fz, ht, _, _, _, hxw, hzw, _⟩ := id hf9
            have HTT := Lib.hid ht
            have fz9 := fz.out
            clear ht fx fz
            cases ok with
            | true =>
              go_wp2
              refine bodyPost_ret (v := .agg #[.int .i64 k', .int .i64 m', .int .i64 a', .int .i64 b', .int .i64 c', .int .i64 d', .int .i64 n']) (by simp [results, Tryd.results40, go_sem, z1, z2, z3, z4, z5, z6, z7]) rfl ⟨k', m', a', b', c', d', n', rfl, HOK.out (by simp), ?_⟩
              repeat (first | (with_reducible refine turned_put ?_ hr (by omega)) | exact turned_more HTT.out (by omega))
            | false =>
              go_wp2
              refine bodyPost_ret (v := .agg #[.int .i64 k, .int .i64 m, .int .i64 a, .int .i64 b, .int .i64 c, .int .i64 d, .int .i64 n]) (by simp [results, Tryd.results40, go_sem, z1, z2, z3, z4, z5, z6, z7]) rfl ⟨k, m, a, b, c, d, n, rfl, HAV.out, ?_⟩
              repeat (first | (with_reducible refine turned_put ?_ hr (by omega)) | exact turned_more HTT.out (by omega))
        ·
          go_simp
          refine hK.out _ _ ?_ (fun hHeld => ?_)
          · try dsimp only
            first | (refine (c7_on hxx ?_).2; go_grown; done) | (refine keep7s (c7_on hxx ?_) (by omega); go_grown; done)
          clear hK K
          try simp only [Act.put, List.setIfInBounds_toArray, List.set_cons_zero, List.set_cons_succ]
          refine wpAnyH_ready (rs := [3]) (by kernel_rfl) (by simp) ?_
          refine AllReadyH.cons (o := { dst := some 26, op := Go.Op.call { callee := Go.Callee.value (Go.Operand.func 46), args := #[Go.Operand.tmp 24, Go.Operand.tmp 25], argTypes := #[40, 42] }, type := 3, pos := "l2_atoms.go:289", after := #[{ on := 1, ground := Go.Ground.data }, { on := 2, ground := Go.Ground.data }], guard := none }) rfl (fun K hK => ?_) AllReadyH.nil
          go_simp
          (go_at_call 46; refine (num_t r _ q6 [2, 3, 6] _ (rd_on HR6.out (by go_grown)) (by omega) (by simp) (by simp) (by first | (simp; done) | (simp; omega)) (by omega) (three_at (by simp [go_sem]) (by simp [go_sem]) (by simp [go_sem]))).mono ?_; rintro e w7 ⟨u, rfl, _, ht7⟩; have ht7' : Turned r q6 1 w5 w7 := below_turned (by go_grown) ht7; have HL7 := Lib.hid (l2_turn HL5.out ht7' HR6.out p6 p7); have hxx := HL7.out.1; have hs57 : w5.heap.size ≤ w7.heap.size := ht7'.1.size; have hbx7 : Box7 w7 (w5.heap.size + 1) := box7_turn (show Box7 _ (w5.heap.size + 1) from ⟨(by refine ⟨?_, ?_, ?_, ?_, ?_, ?_, ?_, ?_⟩ <;> first | (simp [go_sem]; done) | (simp; omega)), by intro o; simp [go_sem]⟩) ht7 (by omega))
          (try go_wp2_with fail)
          refine hK.out _ _ ?_ (fun hHeld => ?_)
          · try dsimp only
            first | (refine (c7_on hxx ?_).2; go_grown; done) | (refine keep7s (c7_on hxx ?_) (by omega); go_grown; done)
          clear hK K
          try simp only [Act.put, List.setIfInBounds_toArray, List.set_cons_zero, List.set_cons_succ]
          refine wpAnyH_ready (rs := [4]) (by kernel_rfl) (by simp) ?_
          refine AllReadyH.cons (o := { dst := some 27, op := Go.Op.call { callee := Go.Callee.value (Go.Operand.func 54), args := #[Go.Operand.tmp 23, Go.Operand.tmp 26], argTypes := #[33, 3] }, type := 37, pos := "l2_atoms.go:289", after := #[{ on := 0, ground := Go.Ground.data }, { on := 3, ground := Go.Ground.data }, { on := 3, ground := Go.Ground.chain }], guard := none }) rfl (fun K hK => ?_) AllReadyH.nil
          go_simp
          (go_at_call 54; refine (specScale_v k m a b c d n u _).mono ?_; rintro e w8 ⟨k', m', a', b', c', d', n', ok, rfl, hok, hb8⟩; have HOK := Lib.hid hok; clear hok; have hb8' := below_on (w := w7) (by go_grown) hb8; have hxx := c7_on hxx hb8'; have HL8 := Lib.hid (l2_below HL7.out hb8'); have hs78 : w7.heap.size ≤ w8.heap.size := hb8'.size; have hbx8 := box7_below hbx7 hb8'; obtain ⟨⟨b0, b1, b2, b3, b4, b5, b6, b7⟩, fb⟩ := id hbx8)
          (try go_wp2_with fail)
          refine hK.out _ _ ?_ (fun hHeld => ?_)
          · try dsimp only
            first | (refine (c7_on hxx ?_).2; go_grown; done) | (refine keep7s (c7_on hxx ?_) (by omega); go_grown; done)
          clear hK K
          try simp only [Act.put, List.setIfInBounds_toArray, List.set_cons_zero, List.set_cons_succ]
          refine wpAnyH_take (i := 5) (oi := { dst := some 22, op := Go.Op.move (Go.Operand.tmp 27), type := 37, pos := "l2_atoms.go:289", after := #[{ on := 4, ground := Go.Ground.data }], guard := none }) (v := ?_) rfl (by kernel_rfl) (by kernel_rfl) (by kernel_rfl) (fun _ _ _ h => h) (Or.inl ⟨by rfl, ?_⟩) (by assumption) ?_
          rotate_left
          · (intro w hSw; (try dsimp only at hSw); first | (go_simp; done) | (go_simp; with_reducible rfl))
          try simp only [Act.put, List.setIfInBounds_toArray, List.set_cons_zero, List.set_cons_succ]
          refine wpAnyH_take (i := 6) (oi := { dst := some 28, op := Go.Op.extract (Go.Operand.tmp 22) 0, type := 33, pos := "l2_atoms.go:289", after := #[{ on := 5, ground := Go.Ground.data }], guard := none }) (v := ?_) rfl (by kernel_rfl) (by kernel_rfl) (by kernel_rfl) (fun _ _ _ h => h) (Or.inl ⟨by rfl, ?_⟩) (by assumption) ?_
          rotate_left
          · (intro w hSw; (try dsimp only at hSw); first | (go_simp; done) | (go_simp; with_reducible rfl))
          try simp only [Act.put, List.setIfInBounds_toArray, List.set_cons_zero, List.set_cons_succ]
          refine wpAnyH_take (i := 7) (oi := { dst := some 29, op := Go.Op.extract (Go.Operand.tmp 22) 1, type := 4, pos := "l2_atoms.go:289", after := #[{ on := 5, ground := Go.Ground.data }, { on := 9, ground := Go.Ground.gcOnly Go.Departure.lateStores }], guard := none }) (v := ?_) rfl (by kernel_rfl) (by kernel_rfl) (by kernel_rfl) (fun _ _ _ h => h) (Or.inl ⟨by rfl, ?_⟩) (by assumption) ?_
          rotate_left
          · (intro w hSw; (try dsimp only at hSw); first | (go_simp; done) | (go_simp; with_reducible rfl))
          try simp only [Act.put, List.setIfInBounds_toArray, List.set_cons_zero, List.set_cons_succ]
          refine wpAnyH_ready (rs := [9]) (by kernel_rfl) (by simp) ?_
          refine AllReadyH.cons (o := { dst := none, op := Go.Op.store 33 (Go.Operand.tmp 4) (Go.Operand.tmp 28), type := 0, pos := "l2_atoms.go:289", after := #[{ on := 8, ground := Go.Ground.data }, { on := 6, ground := Go.Ground.data }, { on := 4, ground := Go.Ground.chain }, { on := 0, ground := Go.Ground.phase }, { on := 1, ground := Go.Ground.phase }, { on := 2, ground := Go.Ground.phase }, { on := 3, ground := Go.Ground.phase }, { on := 4, ground := Go.Ground.phase }, { on := 5, ground := Go.Ground.phase }, { on := 6, ground := Go.Ground.phase }, { on := 7, ground := Go.Ground.textOnly Go.Departure.lateStores }, { on := 8, ground := Go.Ground.phase }], guard := none }) rfl (fun K hK => ?_) AllReadyH.nil
          go_simp
          refine hK.out _ _ ?_ (fun hHeld => ?_)
          · try dsimp only
            first | (refine (c7_on hxx ?_).2; go_grown; done) | (refine keep7s (c7_on hxx ?_) (by omega); go_grown; done)
          clear hK K
          try simp only [Act.put, List.setIfInBounds_toArray, List.set_cons_zero, List.set_cons_succ]
          refine wpAnyH_take (i := 10) (oi := { dst := some 5, op := Go.Op.assign (Go.Operand.tmp 29), type := 4, pos := "l2_atoms.go:289", after := #[{ on := 7, ground := Go.Ground.data }, { on := 9, ground := Go.Ground.chain }, { on := 0, ground := Go.Ground.phase }, { on := 1, ground := Go.Ground.phase }, { on := 2, ground := Go.Ground.phase }, { on := 3, ground := Go.Ground.phase }, { on := 4, ground := Go.Ground.phase }, { on := 5, ground := Go.Ground.phase }, { on := 6, ground := Go.Ground.phase }, { on := 7, ground := Go.Ground.phase }, { on := 8, ground := Go.Ground.phase }, { on := 9, ground := Go.Ground.phase }], guard := none }) (v := ?_) rfl (by kernel_rfl) (by kernel_rfl) (by kernel_rfl) (fun _ _ _ h => h) (Or.inl ⟨by rfl, ?_⟩) (by assumption) ?_
          rotate_left
          · (intro w hSw; (try dsimp only at hSw); first | (go_simp; done) | (go_simp; with_reducible rfl))
          try simp only [Act.put, List.setIfInBounds_toArray, List.set_cons_zero, List.set_cons_succ]
          refine wpAnyH_done (by kernel_rfl) ?_ _
          (generalize hW9 : World.setCell _ _ _ = W9; obtain ⟨hf9, y0, y1, y2, y3, y4, y5, y6, y7⟩ := l2_box HL8.out hbx8 (by omega) (by omega) (by omega) hW9)
          clear hW9 hxx
          obtain ⟨⟨x0, x1, x2, x3, x4, x5, x6, x7⟩, fx, ⟨z0, z1, z2, z3, z4, z5, z6, z7⟩, fz, ht, _, _, _, hxw, hzw, _⟩ := id hf9
          have HTT := Lib.hid ht
          have fz9 := fz.out
          clear ht fx fz
          cases ok with
          | true =>
            go_wp2
            refine bodyPost_ret (v := .agg #[.int .i64 k', .int .i64 m', .int .i64 a', .int .i64 b', .int .i64 c', .int .i64 d', .int .i64 n']) (by simp [results, Tryd.results40, go_sem, z1, z2, z3, z4, z5, z6, z7]) rfl ⟨k', m', a', b', c', d', n', rfl, HOK.out (by simp), ?_⟩
            repeat (first | (with_reducible refine turned_put ?_ hr (by omega)) | exact turned_more HTT.out (by omega))
          | false =>
            go_wp2
            refine bodyPost_ret (v := .agg #[.int .i64 k, .int .i64 m, .int .i64 a, .int .i64 b, .int .i64 c, .int .i64 d, .int .i64 n]) (by simp [results, Tryd.results40, go_sem, z1, z2, z3, z4, z5, z6, z7]) rfl ⟨k, m, a, b, c, d, n, rfl, HAV.out, ?_⟩
            repeat (first | (with_reducible refine turned_put ?_ hr (by omega)) | exact turned_more HTT.out (by omega))
      ·
        go_simp
        refine hK.out _ _ ?_ (fun hHeld => ?_)
        · try dsimp only
          first | (refine (c7_on hxx ?_).2; go_grown; done) | (refine keep7s (c7_on hxx ?_) (by omega); go_grown; done)
        clear hK K
        try simp only [Act.put, List.setIfInBounds_toArray, List.set_cons_zero, List.set_cons_succ]
        refine wpAnyH_ready (rs := [2]) (by kernel_rfl) (by simp) ?_
        refine AllReadyH.cons (o := { dst := some 25, op := Go.Op.buildSlice 42 3 #[(0, Go.Operand.const (Go.Value.int Go.IntKind.i64 2)), (1, Go.Operand.const (Go.Value.int Go.IntKind.i64 3)), (2, Go.Operand.const (Go.Value.int Go.IntKind.i64 6))], type := 42, pos := "l2_atoms.go:289", after := #[], guard := none }) rfl (fun K hK => ?_) AllReadyH.nil
        go_simp
        refine hK.out _ _ ?_ (fun hHeld => ?_)
        · try dsimp only
          first | (refine (c7_on hxx ?_).2; go_grown; done) | (refine keep7s (c7_on hxx ?_) (by omega); go_grown; done)
        clear hK K
        try simp only [Act.put, List.setIfInBounds_toArray, List.set_cons_zero, List.set_cons_succ]
        refine wpAnyH_ready (rs := [3]) (by kernel_rfl) (by simp) ?_
        refine AllReadyH.cons (o := { dst := some 26, op := Go.Op.call { callee := Go.Callee.value (Go.Operand.func 46), args := #[Go.Operand.tmp 24, Go.Operand.tmp 25], argTypes := #[40, 42] }, type := 3, pos := "l2_atoms.go:289", after := #[{ on := 1, ground := Go.Ground.data }, { on := 2, ground := Go.Ground.data }], guard := none }) rfl (fun K hK => ?_) AllReadyH.nil
        go_simp
        (go_at_call 46; refine (num_t r _ q6 [2, 3, 6] _ (rd_on HR6.out (by go_grown)) (by omega) (by simp) (by simp) (by first | (simp; done) | (simp; omega)) (by omega) (three_at (by simp [go_sem]) (by simp [go_sem]) (by simp [go_sem]))).mono ?_; rintro e w7 ⟨u, rfl, _, ht7⟩; have ht7' : Turned r q6 1 w5 w7 := below_turned (by go_grown) ht7; have HL7 := Lib.hid (l2_turn HL5.out ht7' HR6.out p6 p7); have hxx := HL7.out.1; have hs57 : w5.heap.size ≤ w7.heap.size := ht7'.1.size; have hbx7 : Box7 w7 (w5.heap.size) := box7_turn (show Box7 _ (w5.heap.size) from ⟨(by refine ⟨?_, ?_, ?_, ?_, ?_, ?_, ?_, ?_⟩ <;> first | (simp [go_sem]; done) | (simp; omega)), by intro o; simp [go_sem]⟩) ht7 (by omega))
        (try go_wp2_with fail)
        refine hK.out _ _ ?_ (fun hHeld => ?_)
        · try dsimp only
          first | (refine (c7_on hxx ?_).2; go_grown; done) | (refine keep7s (c7_on hxx ?_) (by omega); go_grown; done)
        clear hK K
        try simp only [Act.put, List.setIfInBounds_toArray, List.set_cons_zero, List.set_cons_succ]
        refine wpAnyH_ready (rs := [4]) (by kernel_rfl) (by simp) ?_
        refine AllReadyH.cons (o := { dst := some 27, op := Go.Op.call { callee := Go.Callee.value (Go.Operand.func 54), args := #[Go.Operand.tmp 23, Go.Operand.tmp 26], argTypes := #[33, 3] }, type := 37, pos := "l2_atoms.go:289", after := #[{ on := 0, ground := Go.Ground.data }, { on := 3, ground := Go.Ground.data }, { on := 3, ground := Go.Ground.chain }], guard := none }) rfl (fun K hK => ?_) AllReadyH.nil
        go_simp
        (go_at_call 54; refine (specScale_v k m a b c d n u _).mono ?_; rintro e w8 ⟨k', m', a', b', c', d', n', ok, rfl, hok, hb8⟩; have HOK := Lib.hid hok; clear hok; have hb8' := below_on (w := w7) (by go_grown) hb8; have hxx := c7_on hxx hb8'; have HL8 := Lib.hid (l2_below HL7.out hb8'); have hs78 : w7.heap.size ≤ w8.heap.size := hb8'.size; have hbx8 := box7_below hbx7 hb8'; obtain ⟨⟨b0, b1, b2, b3, b4, b5, b6, b7⟩, fb⟩ := id hbx8)
        (try go_wp2_with fail)
        refine hK.out _ _ ?_ (fun hHeld => ?_)
        · try dsimp only
          first | (refine (c7_on hxx ?_).2; go_grown; done) | (refine keep7s (c7_on hxx ?_) (by omega); go_grown; done)
        clear hK K
        try simp only [Act.put, List.setIfInBounds_toArray, List.set_cons_zero, List.set_cons_succ]
        refine wpAnyH_take (i := 5) (oi := { dst := some 22, op := Go.Op.move (Go.Operand.tmp 27), type := 37, pos := "l2_atoms.go:289", after := #[{ on := 4, ground := Go.Ground.data }], guard := none }) (v := ?_) rfl (by kernel_rfl) (by kernel_rfl) (by kernel_rfl) (fun _ _ _ h => h) (Or.inl ⟨by rfl, ?_⟩) (by assumption) ?_
        rotate_left
        · (intro w hSw; (try dsimp only at hSw); first | (go_simp; done) | (go_simp; with_reducible rfl))
        try simp only [Act.put, List.setIfInBounds_toArray, List.set_cons_zero, List.set_cons_succ]
        refine wpAnyH_take (i := 6) (oi := { dst := some 28, op := Go.Op.extract (Go.Operand.tmp 22) 0, type := 33, pos := "l2_atoms.go:289", after := #[{ on := 5, ground := Go.Ground.data }], guard := none }) (v := ?_) rfl (by kernel_rfl) (by kernel_rfl) (by kernel_rfl) (fun _ _ _ h => h) (Or.inl ⟨by rfl, ?_⟩) (by assumption) ?_
        rotate_left
        · (intro w hSw; (try dsimp only at hSw); first | (go_simp; done) | (go_simp; with_reducible rfl))
        try simp only [Act.put, List.setIfInBounds_toArray, List.set_cons_zero, List.set_cons_succ]
        refine wpAnyH_take (i := 7) (oi := { dst := some 29, op := Go.Op.extract (Go.Operand.tmp 22) 1, type := 4, pos := "l2_atoms.go:289", after := #[{ on := 5, ground := Go.Ground.data }, { on := 9, ground := Go.Ground.gcOnly Go.Departure.lateStores }], guard := none }) (v := ?_) rfl (by kernel_rfl) (by kernel_rfl) (by kernel_rfl) (fun _ _ _ h => h) (Or.inl ⟨by rfl, ?_⟩) (by assumption) ?_
        rotate_left
        · (intro w hSw; (try dsimp only at hSw); first | (go_simp; done) | (go_simp; with_reducible rfl))
        try simp only [Act.put, List.setIfInBounds_toArray, List.set_cons_zero, List.set_cons_succ]
        refine wpAnyH_ready (rs := [9]) (by kernel_rfl) (by simp) ?_
        refine AllReadyH.cons (o := { dst := none, op := Go.Op.store 33 (Go.Operand.tmp 4) (Go.Operand.tmp 28), type := 0, pos := "l2_atoms.go:289", after := #[{ on := 8, ground := Go.Ground.data }, { on := 6, ground := Go.Ground.data }, { on := 4, ground := Go.Ground.chain }, { on := 0, ground := Go.Ground.phase }, { on := 1, ground := Go.Ground.phase }, { on := 2, ground := Go.Ground.phase }, { on := 3, ground := Go.Ground.phase }, { on := 4, ground := Go.Ground.phase }, { on := 5, ground := Go.Ground.phase }, { on := 6, ground := Go.Ground.phase }, { on := 7, ground := Go.Ground.textOnly Go.Departure.lateStores }, { on := 8, ground := Go.Ground.phase }], guard := none }) rfl (fun K hK => ?_) AllReadyH.nil
        go_simp
        refine hK.out _ _ ?_ (fun hHeld => ?_)
        · try dsimp only
          first | (refine (c7_on hxx ?_).2; go_grown; done) | (refine keep7s (c7_on hxx ?_) (by omega); go_grown; done)
        clear hK K
        try simp only [Act.put, List.setIfInBounds_toArray, List.set_cons_zero, List.set_cons_succ]
        refine wpAnyH_take (i := 10) (oi := { dst := some 5, op := Go.Op.assign (Go.Operand.tmp 29), type := 4, pos := "l2_atoms.go:289", after := #[{ on := 7, ground := Go.Ground.data }, { on := 9, ground := Go.Ground.chain }, { on := 0, ground := Go.Ground.phase }, { on := 1, ground := Go.Ground.phase }, { on := 2, ground := Go.Ground.phase }, { on := 3, ground := Go.Ground.phase }, { on := 4, ground := Go.Ground.phase }, { on := 5, ground := Go.Ground.phase }, { on := 6, ground := Go.Ground.phase }, { on := 7, ground := Go.Ground.phase }, { on := 8, ground := Go.Ground.phase }, { on := 9, ground := Go.Ground.phase }], guard := none }) (v := ?_) rfl (by kernel_rfl) (by kernel_rfl) (by kernel_rfl) (fun _ _ _ h => h) (Or.inl ⟨by rfl, ?_⟩) (by assumption) ?_
        rotate_left
        · (intro w hSw; (try dsimp only at hSw); first | (go_simp; done) | (go_simp; with_reducible rfl))
        try simp only [Act.put, List.setIfInBounds_toArray, List.set_cons_zero, List.set_cons_succ]
        refine wpAnyH_done (by kernel_rfl) ?_ _
        (generalize hW9 : World.setCell _ _ _ = W9; obtain ⟨hf9, y0, y1, y2, y3, y4, y5, y6, y7⟩ := l2_box HL8.out hbx8 (by omega) (by omega) (by omega) hW9)
        clear hW9 hxx
        obtain ⟨⟨x0, x1, x2, x3, x4, x5, x6, x7⟩, fx, ⟨z0, z1, z2, z3, z4, z5, z6, z7⟩, fz, ht, _, _, _, hxw, hzw, _⟩ := id hf9
        have HTT := Lib.hid ht
        have fz9 := fz.out
        clear ht fx fz
        cases ok with
        | true =>
          go_wp2
          refine bodyPost_ret (v := .agg #[.int .i64 k', .int .i64 m', .int .i64 a', .int .i64 b', .int .i64 c', .int .i64 d', .int .i64 n']) (by simp [results, Tryd.results40, go_sem, z1, z2, z3, z4, z5, z6, z7]) rfl ⟨k', m', a', b', c', d', n', rfl, HOK.out (by simp), ?_⟩
          repeat (first | (with_reducible refine turned_put ?_ hr (by omega)) | exact turned_more HTT.out (by omega))
        | false =>
          go_wp2
          refine bodyPost_ret (v := .agg #[.int .i64 k, .int .i64 m, .int .i64 a, .int .i64 b, .int .i64 c, .int .i64 d, .int .i64 n]) (by simp [results, Tryd.results40, go_sem, z1, z2, z3, z4, z5, z6, z7]) rfl ⟨k, m, a, b, c, d, n, rfl, HAV.out, ?_⟩
          repeat (first | (with_reducible refine turned_put ?_ hr (by omega)) | exact turned_more HTT.out (by omega))
    · have e0 : (v == 0) = false := by simpa using hv
      obtain ⟨⟨x0, x1, x2, x3, x4, x5, x6, x7⟩, fx, ⟨z0, z1, z2, z3, z4, z5, z6, z7⟩, fz, ht, _, _, _, hxw, hzw, _⟩ := id HL5.out
      have HTT := Lib.hid ht
      have fz5 := fz.out
      clear ht fx fz
      go_wp2
      refine bodyPost_ret (v := .agg #[.int .i64 k, .int .i64 m, .int .i64 a, .int .i64 b, .int .i64 c, .int .i64 d, .int .i64 n]) (by simp [results, Tryd.results40, go_sem, z1, z2, z3, z4, z5, z6, z7]) rfl ⟨k, m, a, b, c, d, n, rfl, HAV.out, ?_⟩
      repeat (first | (with_reducible refine turned_put ?_ hr (by omega)) | exact turned_more HTT.out (by omega))


end Go.Proofs.YtjbbknbnknhjhaaDoor
