/- Contracts of the model's EvalTerm, AddTerms, ScaleTerm, SubstTerm and SwapVars. -/
import Derived.Test.YtmnppdkoehdplaaSpecB
import Derived.Deep.RegionWith
namespace Go.Proofs.Ytmnppdkoehdplaa
open Go.RowKit

set_option maxHeartbeats 1000000 in
theorem l1Eval_any (a b c d n x y z u : Int) (w : World) (h : (tvB a b c d n && pvB x y z u) = true) :
    Calls Try.prog 23 #[.agg #[.int .i64 a, .int .i64 b, .int .i64 c, .int .i64 d, .int .i64 n], .agg #[.int .i64 x, .int .i64 y, .int .i64 z, .int .i64 u]] w fun e w' => e = .returned (.int .i64 (ev a b c d n x y z u)) ∧ Below w.heap.size w w' := by
  have h1 : tvB a b c d n = true := by simp at h; exact h.1
  have h2 : pvB x y z u = true := by simp at h; exact h.2
  simp only [tvB, wlB, Bool.and_eq_true, decide_eq_true_eq] at h1
  simp only [pvB, inB, Bool.and_eq_true, decide_eq_true_eq] at h2
  obtain ⟨⟨⟨⟨⟨a0, a1⟩, b0, b1⟩, c0, c1⟩, d0, d1⟩, n0, n1⟩ := h1
  obtain ⟨⟨⟨⟨x0, x1⟩, y0, y1⟩, z0, z1⟩, u0, u1⟩ := h2
  obtain ⟨ax0, ax1⟩ := mul_bd a0 a1 x0 x1 (by omega)
  obtain ⟨by0, by1⟩ := mul_bd b0 b1 y0 y1 (by omega)
  obtain ⟨cz0, cz1⟩ := mul_bd c0 c1 z0 z1 (by omega)
  obtain ⟨du0, du1⟩ := mul_bd d0 d1 u0 u1 (by omega)
  have hev : a * x + b * y + c * z + d * u + n = ev a b c d n x y z u := by unfold ev; omega
  have He := Lib.hid hev
  clear h hev
  go_enter Try.func23, Try.ntmps23
  go_wp2
  go_ret
  exact ⟨ret_int He.out, by go_grown⟩

end Go.Proofs.Ytmnppdkoehdplaa
