/- What the model draws as a term: l1Bad, l1Some, l1Open. -/
import Derived.Test.YtjbbknbnknhjhaaDoorDr1
namespace Go.Proofs.YtjbbknbnknhjhaaDoor
open Go.RowKit

theorem fz_only {w w' : World} {r b : Nat} (hf : Hid (∀ o, w.frozen? ⟨b, o, none⟩ = false)) (h : w.grownBy w' (some r)) (hb : b < w.heap.size) (hne : b ≠ r) : Hid (∀ o, w'.frozen? ⟨b, o, none⟩ = false) :=
  fun o => (frozen_only h hb hne).trans (hf.out o)

set_option maxHeartbeats 1000000 in
theorem l1Bad_t (r : Nat) (p a b c d n : Int) (w : World) (h : Rd w r p) (hp : p ≤ 900000) :
    Calls Tryd.prog 42 #[.pointer (some ⟨r, 0, none⟩), .agg #[.int .i64 a, .int .i64 b, .int .i64 c, .int .i64 d, .int .i64 n]] w (TermT r p 2 w) := by
  have hr := rd_lt h
  have H := Lib.hid h
  clear h
  go_enter Tryd.func42, Tryd.ntmps42
  go_wp2_with fail
  generalize hW : (w.alloc (.cells #[.int .i64 a, .int .i64 b, .int .i64 c, .int .i64 d, .int .i64 n] 24)).alloc (.cells #[.int .i64 0, .int .i64 0, .int .i64 0, .int .i64 0, .int .i64 0] 24) = W
  have hx : C5 W w.heap.size a b c d n := by subst hW; exact (by refine ⟨?_, ?_, ?_, ?_, ?_, ?_⟩ <;> first | (simp [go_sem]; done) | (simp; omega))
  have hz : C5 W (w.heap.size + 1) 0 0 0 0 0 := by subst hW; exact (by refine ⟨?_, ?_, ?_, ?_, ?_, ?_⟩ <;> first | (simp [go_sem]; done) | (simp; omega))
  have fx : Hid (∀ o, W.frozen? ⟨w.heap.size, o, none⟩ = false) := by intro o; subst hW; simp [go_sem]
  have fz : Hid (∀ o, W.frozen? ⟨w.heap.size + 1, o, none⟩ = false) := by intro o; subst hW; simp [go_sem]
  have hb0 : Below w.heap.size w W := by subst hW; go_grown
  clear hW
  refine (pick_t r p 40 W (rd_on H.out hb0) (by omega)).mono ?_
  rintro e w1 ⟨x, rfl, x0, x1, ht1⟩
  have HT := Lib.hid (below_turned hb0 ht1)
  have hx1 := c5_only hx ht1.1 (by omega)
  have hz1 := c5_only hz ht1.1 (by omega)
  have fx1 := fz_only fx ht1.1 hx.1 (by omega)
  have fz1 := fz_only fz ht1.1 hz.1 (by omega)
  obtain ⟨_, q, q0, q1, hR1⟩ := ht1
  have HR := Lib.hid hR1
  clear hR1 x1 hx hz fx fz
  by_cases hx0 : x = 0
  · subst hx0
    go_wp2_with fail
    refine (num_new r q [100, 101, -100, -101, 9223372036854775807] 5 _ w1 HR.out (by omega) rfl rfl (by simp) (by simp)).mono ?_
    rintro e w2 ⟨y, rfl, _, ht2⟩
    have HT2 := Lib.hid (turned_two HT.out HR.out ht2 q0 q1)
    obtain ⟨x0, x1, x2, x3, x4, x5⟩ := c5_only hx1 ht2.1 (by omega)
    obtain ⟨z0, z1, z2, z3, z4, z5⟩ := c5_only hz1 ht2.1 (by omega)
    have fx2 := (fz_only fx1 ht2.1 hx1.1 (by omega)).out
    have fz2 := (fz_only fz1 ht2.1 hz1.1 (by omega)).out
    clear ht2
    go_wp2
    refine bodyPost_ret (v := .agg #[.int .i64 y, .int .i64 b, .int .i64 c, .int .i64 d, .int .i64 n]) (by simp [results, Tryd.results42, go_sem, z1, z2, z3, z4, z5]) rfl ⟨y, b, c, d, n, rfl, ?_⟩
    repeat (first | (with_reducible refine turned_put ?_ hr (by omega)) | exact turned_more HT2.out (by omega))
  · by_cases hx2 : x = 1
    · subst hx2
      go_wp2_with fail
      refine (num_new r q [10000, 10001, -10000, -10001, -9223372036854775808] 5 _ w1 HR.out (by omega) rfl rfl (by simp) (by simp)).mono ?_
      rintro e w2 ⟨y, rfl, _, ht2⟩
      have HT2 := Lib.hid (turned_two HT.out HR.out ht2 q0 q1)
      obtain ⟨x0, x1, x2, x3, x4, x5⟩ := c5_only hx1 ht2.1 (by omega)
      obtain ⟨z0, z1, z2, z3, z4, z5⟩ := c5_only hz1 ht2.1 (by omega)
      have fx2 := (fz_only fx1 ht2.1 hx1.1 (by omega)).out
      have fz2 := (fz_only fz1 ht2.1 hz1.1 (by omega)).out
      clear ht2
      go_wp2
      refine bodyPost_ret (v := .agg #[.int .i64 a, .int .i64 b, .int .i64 c, .int .i64 d, .int .i64 y]) (by simp [results, Tryd.results42, go_sem, z1, z2, z3, z4, z5]) rfl ⟨a, b, c, d, y, rfl, ?_⟩
      repeat (first | (with_reducible refine turned_put ?_ hr (by omega)) | exact turned_more HT2.out (by omega))
    · have e0 : (x == 0) = false := by simpa using hx0
      have e1 : (x == 1) = false := by simpa using hx2
      obtain ⟨x0, x1, x2, x3, x4, x5⟩ := hx1
      obtain ⟨z0, z1, z2, z3, z4, z5⟩ := hz1
      have fz2 := fz1.out
      go_wp2
      refine bodyPost_ret (v := .agg #[.int .i64 a, .int .i64 b, .int .i64 c, .int .i64 d, .int .i64 n]) (by simp [results, Tryd.results42, go_sem, z1, z2, z3, z4, z5]) rfl ⟨a, b, c, d, n, rfl, ?_⟩
      repeat (first | (with_reducible refine turned_put ?_ hr (by omega)) | exact turned_more HT.out (by omega))

/-- A list of five numbers that the model's l1Some fills: any numbers. -/
def Some5 (w0 : World) (r : Nat) (p K : Int) (bl : Nat) (W : World) : Prop := (∃ a b c d n : Int, C5 W bl a b c d n) ∧ Hid (∀ o, W.frozen? ⟨bl, o, none⟩ = false) ∧ Turned r p K w0 W

theorem c5_store {W : World} {bl o : Nat} {v : Int} (h : ∃ a b c d n : Int, C5 W bl a b c d n) : ∃ a b c d n : Int, C5 (W.setCell ⟨bl, o, none⟩ (.int .i64 v)) bl a b c d n := by
  obtain ⟨a, b, c, d, n, h0, h1, h2, h3, h4, h5⟩ := h
  have hs : bl < (W.setCell ⟨bl, o, none⟩ (.int .i64 v)).heap.size := by simpa [World.setCell] using h0
  by_cases e0 : o = 0
  · subst e0; exact ⟨v, b, c, d, n, hs, by simp [go_sem, *], by simp [go_sem, *], by simp [go_sem, *], by simp [go_sem, *], by simp [go_sem, *]⟩
  · by_cases e1 : o = 1
    · subst e1; exact ⟨a, v, c, d, n, hs, by simp [go_sem, *], by simp [go_sem, *], by simp [go_sem, *], by simp [go_sem, *], by simp [go_sem, *]⟩
    · by_cases e2 : o = 2
      · subst e2; exact ⟨a, b, v, d, n, hs, by simp [go_sem, *], by simp [go_sem, *], by simp [go_sem, *], by simp [go_sem, *], by simp [go_sem, *]⟩
      · by_cases e3 : o = 3
        · subst e3; exact ⟨a, b, c, v, n, hs, by simp [go_sem, *], by simp [go_sem, *], by simp [go_sem, *], by simp [go_sem, *], by simp [go_sem, *]⟩
        · by_cases e4 : o = 4
          · subst e4; exact ⟨a, b, c, d, v, hs, by simp [go_sem, *], by simp [go_sem, *], by simp [go_sem, *], by simp [go_sem, *], by simp [go_sem, *]⟩
          · exact ⟨a, b, c, d, n, hs, by simp [go_sem, *], by simp [go_sem, *], by simp [go_sem, *], by simp [go_sem, *], by simp [go_sem, *]⟩

end Go.Proofs.YtjbbknbnknhjhaaDoor
