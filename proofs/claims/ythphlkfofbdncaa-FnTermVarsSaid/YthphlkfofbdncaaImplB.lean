/- Contracts of EvalTerm of the program. -/
import Derived.Test.YthphlkfofbdncaaImplA
namespace Go.Proofs.Ythphlkfofbdncaa
open Go.RowKit

set_option maxHeartbeats 400000 in
theorem CoefOf_in (a b c d n v : Int) (w : World) (h0 : 0 ≤ v) (h1 : v < 4) :
    Calls Try.prog 52 #[.agg #[.int .i64 a, .int .i64 b, .int .i64 c, .int .i64 d, .int .i64 n], .int .i64 v] w fun e w' => e = .returned (.int .i64 (sel a b c d v 0)) ∧ ((w.alloc (.cells #[.int .i64 a, .int .i64 b, .int .i64 c, .int .i64 d, .int .i64 n] 27)).alloc (.cells #[.int .i64 a, .int .i64 b, .int .i64 c, .int .i64 d, .int .i64 n] 27)).alloc (.cells #[.int .i64 a, .int .i64 b, .int .i64 c, .int .i64 d, .int .i64 n] 3) = w' := by
  have h' : v = 0 ∨ v = 1 ∨ v = 2 ∨ v = 3 := by omega
  clear h0 h1
  rcases h' with rfl | rfl | rfl | rfl
  all_goals
    go_enter Try.func52, Try.ntmps52
    go_wp2_with (first | (go_at_call 91; refine (isVar_yes _ _ (by omega) (by omega)).mono ?_; rintro e w' ⟨rfl, rfl⟩) | (go_at_call 75; refine (multiples_any _ _ _ _ _ _).mono ?_; rintro e w' ⟨rfl, rfl⟩))
    go_ret
    exact ⟨rfl, rfl⟩


set_option maxHeartbeats 1000000 in
theorem EvalTerm_bad (a b c d n x y z u : Int) (w : World) (h : (tvB a b c d n && pvB x y z u) = false) :
    Calls Try.prog 49 #[.agg #[.int .i64 a, .int .i64 b, .int .i64 c, .int .i64 d, .int .i64 n], .agg #[.int .i64 x, .int .i64 y, .int .i64 z, .int .i64 u]] w fun e w' => e = .returned (.tuple #[.int .i64 0, .bool false]) ∧ Below w.heap.size w w' := by
  by_cases h1 : tvB a b c d n = true
  · have h2 : pvB x y z u = false := by simpa [h1] using h
    have H1 := Lib.hid h1
    have H2 := Lib.hid h2
    clear h h1 h2
    go_enter Try.func49, Try.ntmps49
    go_wp2_with (first | (go_at_call 51; refine (TermValid_is a b c d n true _ H1.out).mono ?_; rintro e w' ⟨rfl, rfl⟩) | (go_at_call 47; refine (PointValid_is _ _ _ _ false _ H2.out).mono ?_; rintro e w' ⟨rfl, rfl⟩))
    go_returns
    exact ⟨rfl, by go_grown⟩
  · have h2 : tvB a b c d n = false := by simpa using h1
    have H2 := Lib.hid h2
    clear h h1 h2
    go_enter Try.func49, Try.ntmps49
    go_wp2_with (first | (go_at_call 51; refine (TermValid_is a b c d n false _ H2.out).mono ?_; rintro e w' ⟨rfl, rfl⟩))
    go_returns
    exact ⟨rfl, by go_grown⟩

set_option maxHeartbeats 2000000 in
theorem EvalTerm_ok (a b c d n x y z u : Int) (w : World) (h : (tvB a b c d n && pvB x y z u) = true) :
    Calls Try.prog 49 #[.agg #[.int .i64 a, .int .i64 b, .int .i64 c, .int .i64 d, .int .i64 n], .agg #[.int .i64 x, .int .i64 y, .int .i64 z, .int .i64 u]] w fun e w' => e = .returned (.tuple #[.int .i64 (ev a b c d n x y z u), .bool true]) ∧ Below w.heap.size w w' := by
  have h1 : tvB a b c d n = true := by simp at h; exact h.1
  have h2 : pvB x y z u = true := by simp at h; exact h.2
  have H1 := Lib.hid h1
  have H2 := Lib.hid h2
  simp only [tvB, wlB, Bool.and_eq_true, decide_eq_true_eq] at h1
  simp only [pvB, inB, Bool.and_eq_true, decide_eq_true_eq] at h2
  obtain ⟨⟨⟨⟨⟨a0, a1⟩, b0, b1⟩, c0, c1⟩, d0, d1⟩, n0, n1⟩ := h1
  obtain ⟨⟨⟨⟨x0, x1⟩, y0, y1⟩, z0, z1⟩, u0, u1⟩ := h2
  obtain ⟨ax0, ax1⟩ := mul_bd a0 a1 x0 x1 (by omega)
  obtain ⟨by0, by1⟩ := mul_bd b0 b1 y0 y1 (by omega)
  obtain ⟨cz0, cz1⟩ := mul_bd c0 c1 z0 z1 (by omega)
  obtain ⟨du0, du1⟩ := mul_bd d0 d1 u0 u1 (by omega)
  clear h
  have s0 : sel a b c d 0 0 = a := rfl
  have s1 : sel a b c d 1 0 = b := rfl
  have s2 : sel a b c d 2 0 = c := rfl
  have s3 : sel a b c d 3 0 = d := rfl
  go_enter Try.func49, Try.ntmps49
  go_wp2_with (first | (go_at_call 51; refine (TermValid_is a b c d n true _ H1.out).mono ?_; rintro e w' ⟨rfl, rfl⟩) | (go_at_call 47; refine (PointValid_is _ _ _ _ true _ H2.out).mono ?_; rintro e w' ⟨rfl, rfl⟩) | (go_at_call 92; refine (values_any _ _ _ _ _).mono ?_; rintro e w' ⟨rfl, rfl⟩))
  refine wp_loop_rounds 5 ?_
  repeat any_goals (rw [rounds_succ]; go_wp2_with (go_at_call 52; refine (CoefOf_in _ _ _ _ _ _ _ (by omega) (by omega)).mono ?_; rintro e w' ⟨rfl, rfl⟩))
  go_returns
  exact ⟨rfl, by go_grown⟩

end Go.Proofs.Ythphlkfofbdncaa
