/- What the model draws as an atom that is sometimes not valid. -/
import Derived.Test.YtjbbknbnknhjhaaDoorDrA0
namespace Go.Proofs.YtjbbknbnknhjhaaDoor
open Go.RowKit

set_option maxRecDepth 10000 in
set_option maxHeartbeats 2000000 in
theorem l2Bad_t (r : Nat) (p k m a b c d n : Int) (w : World) (h : Rd w r p) (hp : p ≤ 800000) :
    Calls Tryd.prog 49 #[.pointer (some ⟨r, 0, none⟩), .agg #[.int .i64 k, .int .i64 m, .int .i64 a, .int .i64 b, .int .i64 c, .int .i64 d, .int .i64 n]] w (AtomT r p 3 w) := by
  have hr := rd_lt h
  have H := Lib.hid h
  clear h
  go_enter Tryd.func49, Tryd.ntmps49
  go_wp2_with fail
  generalize hW : (w.alloc (.cells #[.int .i64 k, .int .i64 m, .int .i64 a, .int .i64 b, .int .i64 c, .int .i64 d, .int .i64 n] 33)).alloc (.cells #[.int .i64 0, .int .i64 0, .int .i64 0, .int .i64 0, .int .i64 0, .int .i64 0, .int .i64 0] 33) = W
  have hx : C7 W w.heap.size k m a b c d n := by subst hW; exact (by refine ⟨?_, ?_, ?_, ?_, ?_, ?_, ?_, ?_⟩ <;> first | (simp [go_sem]; done) | (simp; omega))
  have hz : C7 W (w.heap.size + 1) 0 0 0 0 0 0 0 := by subst hW; exact (by refine ⟨?_, ?_, ?_, ?_, ?_, ?_, ?_, ?_⟩ <;> first | (simp [go_sem]; done) | (simp; omega))
  have fx : Hid (∀ o, W.frozen? ⟨w.heap.size, o, none⟩ = false) := by intro o; subst hW; simp [go_sem]
  have fz : Hid (∀ o, W.frozen? ⟨w.heap.size + 1, o, none⟩ = false) := by intro o; subst hW; simp [go_sem]
  have hb0 : Below w.heap.size w W := by subst hW; go_grown
  clear hW
  refine (pick_t r p 40 W (rd_on H.out hb0) (by omega)).mono ?_
  rintro e w1 ⟨y, rfl, y0, y1, ht1⟩
  have HL : Hid (L2 w r p 1 w.heap.size (w.heap.size + 1) k m a b c d n w1) := ⟨c7_only hx ht1.1 (by omega), fz_only fx ht1.1 hx.1 (by omega), c7_only hz ht1.1 (by omega), fz_only fz ht1.1 hz.1 (by omega), below_turned hb0 ht1, by omega, by omega, by omega, by omega, by omega, hr⟩
  obtain ⟨q, q0, q1, hR1⟩ := l2_rd HL.out
  have HR := Lib.hid hR1
  clear hR1 y1 hx hz fx fz ht1 hb0
  by_cases h0 : y = 0
  · subst h0
    obtain ⟨⟨x0, x1, x2, x3, x4, x5, x6, x7⟩, _, _⟩ := id HL.out
    go_wp2_with fail
    clear x0 x1 x2 x3 x4 x5 x6 x7
    refine (num_new r q [-1, 4, 2, 0] 4 _ w1 HR.out (by omega) rfl rfl (by simp) (by simp)).mono ?_
    rintro e w2 ⟨v, rfl, _, ht2⟩
    have HL2 := Lib.hid (l2_turn HL.out ht2 HR.out q0 q1)
    clear ht2 HR
    obtain ⟨⟨x0, x1, x2, x3, x4, x5, x6, x7⟩, fx, _⟩ := id HL2.out
    have fx2 := fx.out
    clear fx
    go_upto_region 10 with fail
    generalize hW4 : World.setCell _ _ _ = W4
    have HF := Lib.hid (l2_more (l2_put0 HL2.out hW4) (show (1 : Int) + 1 ≤ 3 by omega))
    clear hW4 x0 x1 x2 x3 x4 x5 x6 x7 fx2
    obtain ⟨⟨x0, x1, x2, x3, x4, x5, x6, x7⟩, fx, ⟨z0, z1, z2, z3, z4, z5, z6, z7⟩, fz, ht, _, _, _, hxw, hzw, _⟩ := id HF.out
    have HTT := Lib.hid ht
    have fz9 := fz.out
    clear ht fx fz
    go_wp2
    refine bodyPost_ret (v := .agg #[.int .i64 v, .int .i64 m, .int .i64 a, .int .i64 b, .int .i64 c, .int .i64 d, .int .i64 n]) (by simp [results, Tryd.results49, go_sem, z1, z2, z3, z4, z5, z6, z7]) rfl ⟨v, m, a, b, c, d, n, rfl, ?_⟩
    repeat (first | (with_reducible refine turned_put ?_ hr (by omega)) | exact turned_more HTT.out (by omega))
  · have e0 : (y == 0) = false := by simpa using h0
    by_cases h1 : y = 1
    · subst h1
      obtain ⟨⟨x0, x1, x2, x3, x4, x5, x6, x7⟩, _, _⟩ := id HL.out
      go_wp2_with fail
      clear x0 x1 x2 x3 x4 x5 x6 x7
      refine (num_new r q [-1, 0, 100, 101] 4 _ w1 HR.out (by omega) rfl rfl (by simp) (by simp)).mono ?_
      rintro e w2 ⟨v, rfl, _, ht2⟩
      have HL2 := Lib.hid (l2_turn HL.out ht2 HR.out q0 q1)
      clear ht2 HR
      obtain ⟨⟨x0, x1, x2, x3, x4, x5, x6, x7⟩, fx, _⟩ := id HL2.out
      have fx2 := fx.out
      clear fx
      go_upto_region 10 with fail
      generalize hW4 : World.setCell _ _ _ = W4
      have HF := Lib.hid (l2_more (l2_put1 HL2.out hW4) (show (1 : Int) + 1 ≤ 3 by omega))
      clear hW4 x0 x1 x2 x3 x4 x5 x6 x7 fx2
      obtain ⟨⟨x0, x1, x2, x3, x4, x5, x6, x7⟩, fx, ⟨z0, z1, z2, z3, z4, z5, z6, z7⟩, fz, ht, _, _, _, hxw, hzw, _⟩ := id HF.out
      have HTT := Lib.hid ht
      have fz9 := fz.out
      clear ht fx fz
      go_wp2
      refine bodyPost_ret (v := .agg #[.int .i64 k, .int .i64 v, .int .i64 a, .int .i64 b, .int .i64 c, .int .i64 d, .int .i64 n]) (by simp [results, Tryd.results49, go_sem, z1, z2, z3, z4, z5, z6, z7]) rfl ⟨k, v, a, b, c, d, n, rfl, ?_⟩
      repeat (first | (with_reducible refine turned_put ?_ hr (by omega)) | exact turned_more HTT.out (by omega))
    · have e1 : (y == 1) = false := by simpa using h1
      by_cases h2 : y = 2
      · subst h2
        obtain ⟨⟨x0, x1, x2, x3, x4, x5, x6, x7⟩, _, _⟩ := id HL.out
        go_wp2_with fail
        clear x0 x1 x2 x3 x4 x5 x6 x7
        refine (l1Bad_t r q a b c d n w1 HR.out (by omega)).mono ?_
        rintro e w2 ⟨a', b', c', d', n', rfl, ht2⟩
        have HL2 := Lib.hid (l2_turn HL.out ht2 HR.out q0 q1)
        clear ht2 HR
        obtain ⟨⟨x0, x1, x2, x3, x4, x5, x6, x7⟩, fx, _⟩ := id HL2.out
        have fx2 := fx.out
        clear fx
        go_upto_region 10 with fail
        generalize hW4 : World.setCell _ _ _ = W4
        have HF := Lib.hid (l2_more (l2_put5 HL2.out hW4) (show (1 : Int) + 2 ≤ 3 by omega))
        clear hW4 x0 x1 x2 x3 x4 x5 x6 x7 fx2
        obtain ⟨⟨x0, x1, x2, x3, x4, x5, x6, x7⟩, fx, ⟨z0, z1, z2, z3, z4, z5, z6, z7⟩, fz, ht, _, _, _, hxw, hzw, _⟩ := id HF.out
        have HTT := Lib.hid ht
        have fz9 := fz.out
        clear ht fx fz
        go_wp2
        refine bodyPost_ret (v := .agg #[.int .i64 k, .int .i64 m, .int .i64 a', .int .i64 b', .int .i64 c', .int .i64 d', .int .i64 n']) (by simp [results, Tryd.results49, go_sem, z1, z2, z3, z4, z5, z6, z7]) rfl ⟨k, m, a', b', c', d', n', rfl, ?_⟩
        repeat (first | (with_reducible refine turned_put ?_ hr (by omega)) | exact turned_more HTT.out (by omega))
      · have e2 : (y == 2) = false := by simpa using h2
        by_cases h3 : y = 3
        · subst h3
          obtain ⟨⟨x0, x1, x2, x3, x4, x5, x6, x7⟩, _, _⟩ := id HL.out
          go_wp2_with fail
          clear x0 x1 x2 x3 x4 x5 x6 x7
          refine (num_new r q [10000, -10000, 9999, -9999] 4 _ w1 HR.out (by omega) rfl rfl (by simp) (by simp)).mono ?_
          rintro e w2 ⟨v, rfl, _, ht2⟩
          have HL2 := Lib.hid (l2_turn HL.out ht2 HR.out q0 q1)
          clear ht2 HR
          obtain ⟨⟨x0, x1, x2, x3, x4, x5, x6, x7⟩, fx, _⟩ := id HL2.out
          have fx2 := fx.out
          clear fx
          go_upto_region 10 with fail
          generalize hW4 : World.setCell _ _ _ = W4
          have HF := Lib.hid (l2_more (l2_put6 HL2.out hW4) (show (1 : Int) + 1 ≤ 3 by omega))
          clear hW4 x0 x1 x2 x3 x4 x5 x6 x7 fx2
          obtain ⟨⟨x0, x1, x2, x3, x4, x5, x6, x7⟩, fx, ⟨z0, z1, z2, z3, z4, z5, z6, z7⟩, fz, ht, _, _, _, hxw, hzw, _⟩ := id HF.out
          have HTT := Lib.hid ht
          have fz9 := fz.out
          clear ht fx fz
          go_wp2
          refine bodyPost_ret (v := .agg #[.int .i64 k, .int .i64 m, .int .i64 a, .int .i64 b, .int .i64 c, .int .i64 d, .int .i64 v]) (by simp [results, Tryd.results49, go_sem, z1, z2, z3, z4, z5, z6, z7]) rfl ⟨k, m, a, b, c, d, v, rfl, ?_⟩
          repeat (first | (with_reducible refine turned_put ?_ hr (by omega)) | exact turned_more HTT.out (by omega))
        · have e3 : (y == 3) = false := by simpa using h3
          have HF := Lib.hid (l2_more HL.out (show (1 : Int) ≤ 3 by omega))
          clear h0 h1 h2 h3
          obtain ⟨⟨x0, x1, x2, x3, x4, x5, x6, x7⟩, fx, ⟨z0, z1, z2, z3, z4, z5, z6, z7⟩, fz, ht, _, _, _, hxw, hzw, _⟩ := id HF.out
          have HTT := Lib.hid ht
          have fz9 := fz.out
          clear ht fx fz
          go_wp2
          refine bodyPost_ret (v := .agg #[.int .i64 k, .int .i64 m, .int .i64 a, .int .i64 b, .int .i64 c, .int .i64 d, .int .i64 n]) (by simp [results, Tryd.results49, go_sem, z1, z2, z3, z4, z5, z6, z7]) rfl ⟨k, m, a, b, c, d, n, rfl, ?_⟩
          repeat (first | (with_reducible refine turned_put ?_ hr (by omega)) | exact turned_more HTT.out (by omega))

end Go.Proofs.YtjbbknbnknhjhaaDoor
