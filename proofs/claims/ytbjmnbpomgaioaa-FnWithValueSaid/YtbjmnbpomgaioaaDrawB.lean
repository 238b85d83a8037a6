/- What the model draws for the laws on a point: DrawEvalTerm, DrawWithValue. -/
import Derived.Test.YtbjmnbpomgaioaaDrawA
namespace Go.Proofs.Ytbjmnbpomgaioaa
open Go.RowKit

def TermPoint (w : World) (e : Ending) (w' : World) : Prop := ∃ a b c d n x y z u : Int, e = .returned (.tuple #[.agg #[.int .i64 a, .int .i64 b, .int .i64 c, .int .i64 d, .int .i64 n], .agg #[.int .i64 x, .int .i64 y, .int .i64 z, .int .i64 u]]) ∧ Below w.heap.size w w'
def PointIntInt (w : World) (e : Ending) (w' : World) : Prop := ∃ x y z u v n : Int, e = .returned (.tuple #[.agg #[.int .i64 x, .int .i64 y, .int .i64 z, .int .i64 u], .int .i64 v, .int .i64 n]) ∧ Below w.heap.size w w'

set_option maxHeartbeats 4000000 in
theorem DrawWithValue_t (sp : Option Addr) (n cap : Nat) (w : World) (h : Code w sp n cap) :
    Calls Try.prog 14 #[.slice sp n cap] w (PointIntInt w) := by
  have H := Lib.hid h
  clear h
  go_enter Try.func14, Try.ntmps14
  go_wp2_with fail
  generalize hW : w.alloc (.cells #[.int .i64 0, .int .i64 0, .int .i64 0, .int .i64 0] 24) = W
  have hz : C4 W w.heap.size 0 0 0 0 := by subst hW; exact (by refine ⟨?_, ?_, ?_, ?_, ?_⟩ <;> first | (simp [go_sem]; done) | (simp; omega))
  have fz : Hid (∀ o, W.frozen? ⟨w.heap.size, o, none⟩ = false) := by intro o; subst hW; simp [go_sem]
  have hb0 : Below w.heap.size w W := by subst hW; go_grown
  have hsz : w.heap.size + 1 = W.heap.size := by subst hW; simp
  clear hW
  refine (l17Open_t sp n cap W (code_on H.out hb0)).mono ?_
  rintro e w1 ⟨r, rfl, hr, hR, hb1⟩
  have HR := Lib.hid hR
  clear hR
  go_wp2_with fail
  refine (l1Spot_t r 0 w1 HR.out (by omega)).mono ?_
  rintro e w2 ⟨sx, sy, sz, su, rfl, ht⟩
  have HT1 := Lib.hid ht
  obtain ⟨_, q, q0, q1, hR2⟩ := ht
  have HR2 := Lib.hid hR2
  clear hR2
  go_wp2_with fail
  refine (l1BadSpot_t r q sx sy sz su w2 HR2.out (by omega)).mono ?_
  rintro e w3 ⟨x, y, z, u, rfl, ht⟩
  have ht2 := turned_two HT1.out HR2.out ht q0 q1
  obtain ⟨hg, q', q2, q3, hR3⟩ := ht2
  have HR3 := Lib.hid hR3
  have hb3 : Below W.heap.size W w3 := hb1.trans (below_only hg hb1.size hr)
  have hs3 := hb3.size
  have hrl := rd_lt hR3
  clear hg hR3 ht
  go_wp2_with fail
  generalize hW4 : w3.alloc (.cells #[.int .i64 x, .int .i64 y, .int .i64 z, .int .i64 u] 24) = W4
  have hx : C4 W4 w3.heap.size x y z u := by subst hW4; exact (by refine ⟨?_, ?_, ?_, ?_, ?_⟩ <;> first | (simp [go_sem]; done) | (simp; omega))
  have hb34 : Below w3.heap.size w3 W4 := by subst hW4; go_grown
  have hs34 : w3.heap.size < W4.heap.size := by subst hW4; simp
  clear hW4
  have HR4 := Lib.hid (rd_on HR3.out hb34)
  have hb4 := below_on hb3 hb34
  refine (l1Which_t r q' W4 HR4.out (by omega)).mono ?_
  rintro e W5 ⟨v, rfl, ht⟩
  have hx5 := c4_only hx ht.1 (by omega)
  have hb5 : Below W.heap.size W W5 := hb4.trans (below_only ht.1 (by omega) hr)
  have hs5 : w3.heap.size < W5.heap.size := Nat.lt_of_lt_of_le hs34 ht.1.size
  obtain ⟨_, q5, a5, b5, hR5⟩ := ht
  have HR5 := Lib.hid hR5
  clear hR5
  go_wp2_with fail
  refine (pick_t r q5 12 W5 HR5.out (by omega)).mono ?_
  rintro e W6 ⟨t, rfl, t0, t1, ht⟩
  have hx6 := c4_only hx5 ht.1 (by omega)
  have hb6 : Below W.heap.size W W6 := hb5.trans (below_only ht.1 (by omega) hr)
  have hs6 : w3.heap.size < W6.heap.size := Nat.lt_of_lt_of_le hs5 ht.1.size
  obtain ⟨_, q6, a6, b6, hR6⟩ := ht
  have HR6 := Lib.hid hR6
  clear hR6
  have hz6 := c4_on hz hb6
  have fz6 : Hid (∀ o, W6.frozen? ⟨w.heap.size, o, none⟩ = false) := fun o => ((bcell hb6).2 _ o hz.1).trans (fz.out o)
  have hq6 : q6 ≤ 1000000 := by omega
  by_cases hv0 : t = 0
  · subst hv0
    obtain ⟨x0, x1, x2, x3, x4⟩ := id hx6
    go_wp2_with fail
    go_region_with (go_at_call 60; (first | (refine (num_newd r q6 [-1, 1000, 1001, -9223372036854775808] 4 _ W6 HR6.out (by omega) rfl rfl (by simp) (by simp)).mono ?_) | (refine (num_newn r _ q6 [-1, 1000, 1001, -9223372036854775808] 4 _ W6 HR6.out (by omega) rfl rfl (by simp) (by simp)).mono ?_) | (refine (num_new r q6 [-1, 1000, 1001, -9223372036854775808] 4 _ W6 HR6.out (by omega) rfl rfl (by simp) (by simp)).mono ?_)); rintro e w7 ⟨k, rfl, _, ht4⟩; have ht5 : Turned r q6 1 W6 w7 := (by first | exact ht4 | exact turned_drew ht4 | exact turned_drewN ht4); obtain ⟨x0, x1, x2, x3, x4⟩ := c4_only hx6 ht5.1 (by omega); obtain ⟨z0, z1, z2, z3, z4⟩ := c4_only hz6 ht5.1 (by omega); have fz7 := (fz_only fz6 ht5.1 hz6.1 (by omega)).out; have hb7 := Lib.hid (hb6.trans (below_only ht5.1 (by omega) hr)); clear ht4 ht5)
    all_goals
      go_wp2
      refine bodyPost_ret (v := .tuple #[.agg #[.int .i64 x, .int .i64 y, .int .i64 z, .int .i64 u], .int .i64 v, .int .i64 k]) (by simp [results, Try.results14, go_sem, z1, z2, z3, z4]) rfl ⟨x, y, z, u, v, k, rfl, ?_⟩
      have hbb := below_on hb0 hb7.out
      go_grown
  · have e0 : (t == 0) = false := by simpa using hv0
    clear hv0
    obtain ⟨x0, x1, x2, x3, x4⟩ := id hx6
    go_wp2_with fail
    go_region_with (go_at_call 59; refine (pick_t r q6 50 _ (by first | exact HR6.out | exact rd_drew HR6.out | exact rd_drewN HR6.out) (by omega)).mono ?_; rintro e w7 ⟨k, rfl, k0, k1, ht4⟩; have ht5 : Turned r q6 1 W6 w7 := (by first | exact ht4 | exact turned_drew ht4 | exact turned_drewN ht4); obtain ⟨x0, x1, x2, x3, x4⟩ := c4_only hx6 ht5.1 (by omega); obtain ⟨z0, z1, z2, z3, z4⟩ := c4_only hz6 ht5.1 (by omega); have fz7 := (fz_only fz6 ht5.1 hz6.1 (by omega)).out; have hb7 := Lib.hid (hb6.trans (below_only ht5.1 (by omega) hr)); clear ht4 ht5)
    all_goals
      go_wp2
      refine bodyPost_ret (v := .tuple #[.agg #[.int .i64 x, .int .i64 y, .int .i64 z, .int .i64 u], .int .i64 v, .int .i64 k]) (by simp [results, Try.results14, go_sem, z1, z2, z3, z4]) rfl ⟨x, y, z, u, v, k, rfl, ?_⟩
      have hbb := below_on hb0 hb7.out
      go_grown

end Go.Proofs.Ytbjmnbpomgaioaa
