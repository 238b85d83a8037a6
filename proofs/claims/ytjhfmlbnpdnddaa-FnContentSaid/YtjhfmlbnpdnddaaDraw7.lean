/- What the model draws for the laws on one term. -/
import Derived.Test.YtjhfmlbnpdnddaaDraw6
namespace Go.Proofs.Ytjhfmlbnpdnddaa
open Go.RowKit

set_option maxHeartbeats 400000 in
theorem DrawContentOf_t (sp : Option Addr) (n cap : Nat) (w : World) (h : Code w sp n cap) :
    Calls Try.prog 21 #[.slice sp n cap] w (SomeTerm w) := by
  have H := Lib.hid h
  clear h
  go_enter Try.func21, Try.ntmps21
  go_wp2_with fail
  generalize hW : w.alloc (.cells #[.int .i64 0, .int .i64 0, .int .i64 0, .int .i64 0, .int .i64 0] 24) = W
  have hz : C5 W w.heap.size 0 0 0 0 0 := by subst hW; exact (by refine ⟨?_, ?_, ?_, ?_, ?_, ?_⟩ <;> first | (simp [go_sem]; done) | (simp; omega))
  have fz : Hid (∀ o, W.frozen? ⟨w.heap.size, o, none⟩ = false) := by intro o; subst hW; simp [go_sem]
  have hb0 : Below w.heap.size w W := by subst hW; go_grown
  clear hW
  refine (l17Open_t sp n cap W (code_on H.out hb0)).mono ?_
  rintro e w1 ⟨r, rfl, hr, hR, hb1⟩
  have HR := Lib.hid hR
  clear hR
  go_wp2_with fail
  refine (l1Open_t r 0 w1 HR.out (by omega)).mono ?_
  rintro e w2 ⟨a, b, c, d, m, rfl, ht⟩
  have hb2 : Below W.heap.size W w2 := hb1.trans (below_only ht.1 hb1.size hr)
  obtain ⟨z0, z1, z2, z3, z4, z5⟩ := c5_on hz hb2
  have fz2 := fz_on hz fz hb2
  clear ht
  go_wp2
  refine bodyPost_ret (v := .agg #[.int .i64 a, .int .i64 b, .int .i64 c, .int .i64 d, .int .i64 m]) (by simp [results, Try.results21, go_sem, z1, z2, z3, z4, z5]) rfl ⟨a, b, c, d, m, rfl, ?_⟩
  have hbb := below_on hb0 hb2
  go_grown


end Go.Proofs.Ytjhfmlbnpdnddaa
