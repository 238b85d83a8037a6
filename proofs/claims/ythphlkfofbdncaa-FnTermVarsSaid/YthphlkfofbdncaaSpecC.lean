/- Contracts of the model's EvalTerm, AddTerms, ScaleTerm, SubstTerm and SwapVars. -/
import Derived.Test.YthphlkfofbdncaaSpecB
import Derived.Deep.RegionWith
namespace Go.Proofs.Ythphlkfofbdncaa
open Go.RowKit

set_option maxHeartbeats 1000000 in
theorem l1Eval_any (a b c d n x y z u : Int) (w : World) (h : (tvB a b c d n && pvB x y z u) = true) :
    Calls Try.prog 97 #[.agg #[.int .i64 a, .int .i64 b, .int .i64 c, .int .i64 d, .int .i64 n], .agg #[.int .i64 x, .int .i64 y, .int .i64 z, .int .i64 u]] w fun e w' => e = .returned (.int .i64 (ev a b c d n x y z u)) ∧ Below w.heap.size w w' := by
  have h1 : tvB a b c d n = true := by simp at h; exact h.1
  have h2 : pvB x y z u = true := by simp at h; exact h.2
  simp only [tvB, wlB, Bool.and_eq_true, decide_eq_true_eq] at h1
  simp only [pvB, inB, Bool.and_eq_true, decide_eq_true_eq] at h2
  obtain ⟨⟨⟨⟨⟨a0, a1⟩, b0, b1⟩, c0, c1⟩, d0, d1⟩, n0, n1⟩ := h1
  obtain ⟨⟨⟨⟨x0, x1⟩, y0, y1⟩, z0, z1⟩, u0, u1⟩ := h2
  obtain ⟨ax0, ax1⟩ := mul_bd a0 a1 x0 x1 (by omega)
  obtain ⟨by0, by1⟩ := mul_bd b0 b1 y0 y1 (by omega)
  obtain ⟨cz0, cz1⟩ := mul_bd c0 c1 z0 z1 (by omega)
  obtain ⟨du0, du1⟩ := mul_bd d0 d1 u0 u1 (by omega)
  have hev : a * x + b * y + c * z + d * u + n = ev a b c d n x y z u := by unfold ev; omega
  have He := Lib.hid hev
  clear h hev
  go_enter Try.func97, Try.ntmps97
  go_wp2
  go_ret
  exact ⟨ret_int He.out, by go_grown⟩

set_option maxHeartbeats 400000 in
theorem specEvalTerm_ok (a b c d n x y z u : Int) (w : World) (h : (tvB a b c d n && pvB x y z u) = true) :
    Calls Try.prog 50 #[.agg #[.int .i64 a, .int .i64 b, .int .i64 c, .int .i64 d, .int .i64 n], .agg #[.int .i64 x, .int .i64 y, .int .i64 z, .int .i64 u]] w fun e w' => e = .returned (.tuple #[.int .i64 (ev a b c d n x y z u), .bool true]) ∧ Below w.heap.size w w' := by
  have h1 : tvB a b c d n = true := by simp at h; exact h.1
  have h2 : pvB x y z u = true := by simp at h; exact h.2
  have H1 := Lib.hid h1
  have H2 := Lib.hid h2
  have HH := Lib.hid h
  clear h h1 h2
  go_enter Try.func50, Try.ntmps50
  go_wp2_with (first | (go_at_call 71; refine (specTermValid_is a b c d n true _ H1.out).mono ?_; rintro e w' ⟨rfl, rfl⟩) | (go_at_call 93; refine (specPointValid_is _ _ _ _ true _ H2.out).mono ?_; rintro e w' ⟨rfl, rfl⟩) | (go_at_call 97; refine (l1Eval_any _ _ _ _ _ _ _ _ _ _ HH.out).mono ?_; rintro e w' ⟨rfl, hb⟩; obtain ⟨hc, hf⟩ := bcell hb; have hz := hb.size; simp at hz; have hbb := below_step (B := w.heap.size) (w := w) (by go_grown) hb (by simp; omega)))
  go_returns
  exact ⟨rfl, by go_grown⟩

set_option maxHeartbeats 400000 in
theorem specEvalTerm_bad (a b c d n x y z u : Int) (w : World) (h : (tvB a b c d n && pvB x y z u) = false) :
    Calls Try.prog 50 #[.agg #[.int .i64 a, .int .i64 b, .int .i64 c, .int .i64 d, .int .i64 n], .agg #[.int .i64 x, .int .i64 y, .int .i64 z, .int .i64 u]] w fun e w' => e = .returned (.tuple #[.int .i64 0, .bool false]) ∧ Below w.heap.size w w' := by
  by_cases h1 : tvB a b c d n = true
  · have h2 : pvB x y z u = false := by simpa [h1] using h
    have H1 := Lib.hid h1
    have H2 := Lib.hid h2
    clear h h1 h2
    go_enter Try.func50, Try.ntmps50
    go_wp2_with (first | (go_at_call 71; refine (specTermValid_is a b c d n true _ H1.out).mono ?_; rintro e w' ⟨rfl, rfl⟩) | (go_at_call 93; refine (specPointValid_is _ _ _ _ false _ H2.out).mono ?_; rintro e w' ⟨rfl, rfl⟩))
    go_returns
    exact ⟨rfl, by go_grown⟩
  · have h2 : tvB a b c d n = false := by simpa using h1
    have H2 := Lib.hid h2
    clear h h1 h2
    go_enter Try.func50, Try.ntmps50
    go_wp2_with (first | (go_at_call 71; refine (specTermValid_is a b c d n false _ H2.out).mono ?_; rintro e w' ⟨rfl, rfl⟩))
    go_returns
    exact ⟨rfl, by go_grown⟩

end Go.Proofs.Ythphlkfofbdncaa
