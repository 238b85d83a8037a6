/- Contracts of the model's l1Plus. -/
import Derived.Test.YtjbbknbnknhjhaaDoorSpecC
namespace Go.Proofs.YtjbbknbnknhjhaaDoor
open Go.RowKit

set_option maxHeartbeats 2000000 in
theorem l1Plus_raw (a b c d n k a' b' c' d' n' : Int) (w : World) :
    Calls Tryd.prog 64 #[.agg #[.int .i64 a, .int .i64 b, .int .i64 c, .int .i64 d, .int .i64 n], .int .i64 k, .agg #[.int .i64 a', .int .i64 b', .int .i64 c', .int .i64 d', .int .i64 n']] w fun e w' => e = .returned (.agg #[.int .i64 (wrap64 (a + wrap64 (k * a'))), .int .i64 (wrap64 (b + wrap64 (k * b'))), .int .i64 (wrap64 (c + wrap64 (k * c'))), .int .i64 (wrap64 (d + wrap64 (k * d'))), .int .i64 (wrap64 (n + wrap64 (k * n')))]) ∧ Below w.heap.size w w' := by
  go_enter Tryd.func64, Tryd.ntmps64
  go_wp2_with (go_at_call 23; refine (l1List_any _ _ _ _ _ _).mono ?_; rintro e w' ⟨rfl, rfl⟩)
  refine wp_loop_rounds 6 ?_
  rw [rounds_succ]
  go_wp2
  go_region
  go_wp2
  rw [rounds_succ]
  go_wp2
  go_region
  go_wp2
  rw [rounds_succ]
  go_wp2
  go_region
  go_wp2
  rw [rounds_succ]
  go_wp2
  go_region
  go_wp2
  rw [rounds_succ]
  go_wp2
  go_region
  go_wp2
  rw [rounds_succ]
  go_wp2_with (go_at_call 35; refine (l1Term_any (wrap64 (a + wrap64 (k * a'))) (wrap64 (b + wrap64 (k * b'))) (wrap64 (c + wrap64 (k * c'))) (wrap64 (d + wrap64 (k * d'))) (wrap64 (n + wrap64 (k * n'))) _ _ (by refine ⟨?_, ?_, ?_, ?_, ?_, ?_⟩ <;> first | (simp [go_sem]; done) | (simp; omega))).mono ?_; rintro e w' ⟨rfl, hb⟩; obtain ⟨hc, hf⟩ := bcell hb; have hz := hb.size; simp at hz; have hbb := below_step (B := w.heap.size) (w := w) (by go_grown) hb (by simp; omega))
  refine bodyPost_ret (v := .agg #[.int .i64 (wrap64 (a + wrap64 (k * a'))), .int .i64 (wrap64 (b + wrap64 (k * b'))), .int .i64 (wrap64 (c + wrap64 (k * c'))), .int .i64 (wrap64 (d + wrap64 (k * d'))), .int .i64 (wrap64 (n + wrap64 (k * n')))]) (by simp [results, Tryd.results64, go_sem, hc]) rfl ⟨rfl, ?_⟩
  go_grown

theorem wrap_in {x y : Int} (hy : -1000000000 ≤ y ∧ y ≤ 1000000000) (hx : -1000000000 ≤ x ∧ x ≤ 1000000000) : wrap64 (x + wrap64 y) = x + y := by
  rw [IntWalk.wrap64_in y ⟨by omega, by omega⟩, IntWalk.wrap64_in _ ⟨by omega, by omega⟩]

theorem l1Plus_any (a b c d n k a' b' c' d' n' : Int) (w : World)
    (ma : -1000000000 ≤ k * a' ∧ k * a' ≤ 1000000000) (mb : -1000000000 ≤ k * b' ∧ k * b' ≤ 1000000000) (mc : -1000000000 ≤ k * c' ∧ k * c' ≤ 1000000000) (md : -1000000000 ≤ k * d' ∧ k * d' ≤ 1000000000) (mn : -1000000000 ≤ k * n' ∧ k * n' ≤ 1000000000)
    (ba : -1000000000 ≤ a ∧ a ≤ 1000000000) (bb : -1000000000 ≤ b ∧ b ≤ 1000000000) (bc : -1000000000 ≤ c ∧ c ≤ 1000000000) (bd : -1000000000 ≤ d ∧ d ≤ 1000000000) (bn : -1000000000 ≤ n ∧ n ≤ 1000000000) :
    Calls Tryd.prog 64 #[.agg #[.int .i64 a, .int .i64 b, .int .i64 c, .int .i64 d, .int .i64 n], .int .i64 k, .agg #[.int .i64 a', .int .i64 b', .int .i64 c', .int .i64 d', .int .i64 n']] w fun e w' => e = .returned (.agg #[.int .i64 (a + k * a'), .int .i64 (b + k * b'), .int .i64 (c + k * c'), .int .i64 (d + k * d'), .int .i64 (n + k * n')]) ∧ Below w.heap.size w w' := by
  have h := l1Plus_raw a b c d n k a' b' c' d' n' w
  rw [wrap_in ma ba, wrap_in mb bb, wrap_in mc bc, wrap_in md bd, wrap_in mn bn] at h
  exact h

end Go.Proofs.YtjbbknbnknhjhaaDoor
