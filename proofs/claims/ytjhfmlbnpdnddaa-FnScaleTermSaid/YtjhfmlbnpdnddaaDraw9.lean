/- What the model draws for the law on multiples of a term. -/
import Derived.Test.YtjhfmlbnpdnddaaDraw8
namespace Go.Proofs.Ytjhfmlbnpdnddaa
open Go.RowKit

/-- num over a list of numbers that was made just now, behind a draw of an order. -/
theorem num_newd (r : Nat) (p : Int) (L : List Int) (N : Nat) (C : Array Value) (w : World) (h : Rd w r p) (hp : p ≤ 1000000) (hN : N = L.length) (hC : C = (L.map (Value.int .i64)).toArray) (hL : 1 ≤ L.length) (hM : L.length ≤ 1000) :
    Calls Try.prog 60 #[.pointer (some ⟨r, 0, none⟩), .slice (some ⟨w.heap.size, 0, none⟩) N N] (w.alloc (.cells C 3)).drew (NumN r p L w) := by
  subst hN hC
  have hb : Below w.heap.size w (w.alloc (.cells (L.map (Value.int .i64)).toArray 3)) := by go_grown
  have hr : r < w.heap.size := by obtain ⟨_, _, _, _, _, _, hr, _⟩ := h; exact hr
  exact (num_t r w.heap.size p L _ (rd_drew (rd_on h hb)) hp hL hM (by simp) (by omega) (row_cell w _ L)).mono fun _ _ ⟨x, he, hx, ht⟩ => ⟨x, he, hx, below_turned hb (turned_drew ht)⟩
theorem num_newn (r k : Nat) (p : Int) (L : List Int) (N : Nat) (C : Array Value) (w : World) (h : Rd w r p) (hp : p ≤ 1000000) (hN : N = L.length) (hC : C = (L.map (Value.int .i64)).toArray) (hL : 1 ≤ L.length) (hM : L.length ≤ 1000) :
    Calls Try.prog 60 #[.pointer (some ⟨r, 0, none⟩), .slice (some ⟨w.heap.size, 0, none⟩) N N] ((w.alloc (.cells C 3)).drewN k) (NumN r p L w) := by
  subst hN hC
  have hb : Below w.heap.size w (w.alloc (.cells (L.map (Value.int .i64)).toArray 3)) := by go_grown
  have hr : r < w.heap.size := by obtain ⟨_, _, _, _, _, _, hr, _⟩ := h; exact hr
  exact (num_t r w.heap.size p L _ (rd_drewN (rd_on h hb)) hp hL hM (by simp) (by omega) (row_cell w _ L)).mono fun _ _ ⟨x, he, hx, ht⟩ => ⟨x, he, hx, below_turned hb (turned_drewN ht)⟩

set_option maxHeartbeats 1000000 in
theorem DrawScaleTerm_t (sp : Option Addr) (n cap : Nat) (w : World) (h : Code w sp n cap) :
    Calls Try.prog 15 #[.slice sp n cap] w (TermInt w) := by
  have H := Lib.hid h
  clear h
  go_enter Try.func15, Try.ntmps15
  go_wp2_with fail
  generalize hW : w.alloc (.cells #[.int .i64 0, .int .i64 0, .int .i64 0, .int .i64 0, .int .i64 0] 24) = W
  have hz : C5 W w.heap.size 0 0 0 0 0 := by subst hW; exact (by refine ⟨?_, ?_, ?_, ?_, ?_, ?_⟩ <;> first | (simp [go_sem]; done) | (simp; omega))
  have fz : Hid (∀ o, W.frozen? ⟨w.heap.size, o, none⟩ = false) := by intro o; subst hW; simp [go_sem]
  have hb0 : Below w.heap.size w W := by subst hW; go_grown
  have hsz : w.heap.size + 1 = W.heap.size := by subst hW; simp
  clear hW
  refine (l17Open_t sp n cap W (code_on H.out hb0)).mono ?_
  rintro e w1 ⟨r, rfl, hr, hR, hb1⟩
  have HR := Lib.hid hR
  clear hR
  go_wp2_with fail
  refine (l1Open_t r 0 w1 HR.out (by omega)).mono ?_
  rintro e w2 ⟨a, b, c, d, m, rfl, ht⟩
  obtain ⟨hg, q, q0, q1, hR2⟩ := ht
  have HR2 := Lib.hid hR2
  have hb2 : Below W.heap.size W w2 := hb1.trans (below_only hg hb1.size hr)
  have hs2 := hb2.size
  have hrl := rd_lt hR2
  clear hg hR2
  go_wp2_with fail
  generalize hW3 : w2.alloc (.cells #[.int .i64 a, .int .i64 b, .int .i64 c, .int .i64 d, .int .i64 m] 24) = W3
  have hx : C5 W3 w2.heap.size a b c d m := by subst hW3; exact (by refine ⟨?_, ?_, ?_, ?_, ?_, ?_⟩ <;> first | (simp [go_sem]; done) | (simp; omega))
  have hb23 : Below w2.heap.size w2 W3 := by subst hW3; go_grown
  have hs23 : w2.heap.size < W3.heap.size := by subst hW3; simp
  clear hW3
  have HR3 := Lib.hid (rd_on HR2.out hb23)
  have hb3 := below_on hb2 hb23
  refine (pick_t r q 12 W3 HR3.out (by omega)).mono ?_
  rintro e W5 ⟨v, rfl, v0, v1, ht⟩
  have hx := c5_only hx ht.1 (by omega)
  have hb3 : Below W.heap.size W W5 := hb3.trans (below_only ht.1 (by omega) hr)
  have hs23 : w2.heap.size < W5.heap.size := Nat.lt_of_lt_of_le hs23 ht.1.size
  obtain ⟨_, q', q2, q3, hR3⟩ := ht
  have HR3 := Lib.hid hR3
  clear hR3
  have hz3 := c5_on hz hb3
  have fz3 : Hid (∀ o, W5.frozen? ⟨w.heap.size, o, none⟩ = false) := fz_on hz fz hb3
  by_cases hv0 : v = 0
  · subst hv0
    obtain ⟨x0, x1, x2, x3, x4, x5⟩ := id hx
    go_wp2_with fail
    go_region_with (go_at_call 60; (first | (refine (num_newd r q' [10000, 10001, -10001, 100, 9223372036854775807] 5 _ W5 HR3.out (by omega) rfl rfl (by simp) (by simp)).mono ?_) | (refine (num_newn r _ q' [10000, 10001, -10001, 100, 9223372036854775807] 5 _ W5 HR3.out (by omega) rfl rfl (by simp) (by simp)).mono ?_) | (refine (num_new r q' [10000, 10001, -10001, 100, 9223372036854775807] 5 _ W5 HR3.out (by omega) rfl rfl (by simp) (by simp)).mono ?_)); rintro e w4 ⟨u, rfl, _, ht4⟩; have ht4 : Turned r q' 1 W5 w4 := (by first | exact ht4 | exact turned_drew ht4 | exact turned_drewN ht4); obtain ⟨x0, x1, x2, x3, x4, x5⟩ := c5_only hx ht4.1 (by omega); obtain ⟨z0, z1, z2, z3, z4, z5⟩ := c5_only hz3 ht4.1 (by omega); have fz4 := (fz_only fz3 ht4.1 hz3.1 (by omega)).out; have hb4 := Lib.hid (hb3.trans (below_only ht4.1 (by omega) hr)); clear ht4)
    all_goals
      go_wp2
      refine bodyPost_ret (v := .tuple #[.agg #[.int .i64 a, .int .i64 b, .int .i64 c, .int .i64 d, .int .i64 m], .int .i64 u]) (by simp [results, Try.results15, go_sem, z1, z2, z3, z4, z5]) rfl ⟨a, b, c, d, m, u, rfl, ?_⟩
      have hbb := below_on hb0 hb4.out
      go_grown
  · have e0 : (v == 0) = false := by simpa using hv0
    obtain ⟨x0, x1, x2, x3, x4, x5⟩ := id hx
    go_wp2_with fail
    go_region_with (go_at_call 59; refine (pick_t r q' 13 _ (by first | exact HR3.out | exact rd_drew HR3.out | exact rd_drewN HR3.out) (by omega)).mono ?_; rintro e w4 ⟨u, rfl, u0, u1, ht4⟩; have ht4 : Turned r q' 1 W5 w4 := (by first | exact ht4 | exact turned_drew ht4 | exact turned_drewN ht4); obtain ⟨x0, x1, x2, x3, x4, x5⟩ := c5_only hx ht4.1 (by omega); obtain ⟨z0, z1, z2, z3, z4, z5⟩ := c5_only hz3 ht4.1 (by omega); have fz4 := (fz_only fz3 ht4.1 hz3.1 (by omega)).out; have hb4 := Lib.hid (hb3.trans (below_only ht4.1 (by omega) hr)); clear ht4)
    all_goals
      go_wp2
      refine bodyPost_ret (v := .tuple #[.agg #[.int .i64 a, .int .i64 b, .int .i64 c, .int .i64 d, .int .i64 m], .int .i64 _]) (by simp [results, Try.results15, go_sem, z1, z2, z3, z4, z5]; try rfl) rfl ⟨a, b, c, d, m, _, rfl, ?_⟩
      have hbb := below_on hb0 hb4.out
      go_grown

end Go.Proofs.Ytjhfmlbnpdnddaa
