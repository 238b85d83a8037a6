/- What the model draws for the laws on one term, from the bytes of the law's argument: some term; nothing old turns. -/
import Derived.Test.YtjbbknbnknhjhaaDoorCode
import Derived.Test.YtjbbknbnknhjhaaDoorDraw5
namespace Go.Proofs.YtjbbknbnknhjhaaDoor
open Go.RowKit

set_option maxHeartbeats 400000 in
theorem l1Open_t (r : Nat) (p : Int) (w : World) (h : Rd w r p) (hp : p ≤ 700000) :
    Calls Tryd.prog 19 #[.pointer (some ⟨r, 0, none⟩)] w (TermT r p 10 w) := by
  have hr := rd_lt h
  have H := Lib.hid h
  clear h
  go_enter Tryd.func19, Tryd.ntmps19
  go_wp2_with fail
  generalize hW : w.alloc (.cells #[.int .i64 0, .int .i64 0, .int .i64 0, .int .i64 0, .int .i64 0] 24) = W
  have hz : C5 W w.heap.size 0 0 0 0 0 := by subst hW; exact (by refine ⟨?_, ?_, ?_, ?_, ?_, ?_⟩ <;> first | (simp [go_sem]; done) | (simp; omega))
  have fz : Hid (∀ o, W.frozen? ⟨w.heap.size, o, none⟩ = false) := by intro o; subst hW; simp [go_sem]
  have hb0 : Below w.heap.size w W := by subst hW; go_grown
  clear hW
  refine (l1Some_t r p W (rd_on H.out hb0) (by omega)).mono ?_
  rintro e w1 ⟨a, b, c, d, n, rfl, ht1⟩
  have HT := Lib.hid (below_turned hb0 ht1)
  have hz1 := c5_only hz ht1.1 (by omega)
  have fz1 := fz_only fz ht1.1 hz.1 (by omega)
  obtain ⟨_, q, q0, q1, hR1⟩ := ht1
  have HR := Lib.hid hR1
  clear hR1
  go_wp2_with fail
  refine (l1Bad_t r q a b c d n w1 HR.out (by omega)).mono ?_
  rintro e w2 ⟨a', b', c', d', n', rfl, ht2⟩
  have HT2 := Lib.hid (turned_two HT.out HR.out ht2 q0 q1)
  obtain ⟨z0, z1, z2, z3, z4, z5⟩ := c5_only hz1 ht2.1 (by omega)
  have fz2 := (fz_only fz1 ht2.1 hz1.1 (by omega)).out
  clear ht2
  go_wp2
  refine bodyPost_ret (v := .agg #[.int .i64 a', .int .i64 b', .int .i64 c', .int .i64 d', .int .i64 n']) (by simp [results, Tryd.results19, go_sem, z1, z2, z3, z4, z5]) rfl ⟨a', b', c', d', n', rfl, ?_⟩
  repeat (first | (with_reducible refine turned_put ?_ hr (by omega)) | exact turned_more HT2.out (by omega))

def SomeTerm (w : World) (e : Ending) (w' : World) : Prop := ∃ a b c d n : Int, e = .returned (.agg #[.int .i64 a, .int .i64 b, .int .i64 c, .int .i64 d, .int .i64 n]) ∧ Below w.heap.size w w'

end Go.Proofs.YtjbbknbnknhjhaaDoor
