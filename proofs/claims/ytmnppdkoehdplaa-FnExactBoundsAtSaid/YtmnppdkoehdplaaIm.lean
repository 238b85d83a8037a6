/- Several texts in one: ImplA ImplB ImplE SpecE SpecI Held2 AtI. -/
import Derived.Test.YtmnppdkoehdplaaBas
import Derived.Test.YtmnppdkoehdplaaHeld
import Derived.Test.YtmnppdkoehdplaaSpecC
import Derived.Test.YtmnppdkoehdplaaSpecD
import Derived.Test.YtmnppdkoehdplaaAtC
import Derived.Deep.DeepCutAuto

/- Contracts of PointValid, ValueOf, WithValue and EvalTerm of the program. -/
namespace Go.Proofs.Ytmnppdkoehdplaa
open Go.RowKit

set_option maxHeartbeats 400000 in
theorem PointValid_any (a b c d : Int) (w : World) :
    Calls Try.prog 42 #[.agg #[.int .i64 a, .int .i64 b, .int .i64 c, .int .i64 d]] w fun e w' => e = .returned (.bool (pvB a b c d)) ∧
      ((w.alloc (.cells #[.int .i64 a, .int .i64 b, .int .i64 c, .int .i64 d] 33)).alloc (.cells #[.int .i64 a, .int .i64 b, .int .i64 c, .int .i64 d] 33)).alloc (.cells #[.int .i64 a, .int .i64 b, .int .i64 c, .int .i64 d] 3) = w' := by
  go_enter Try.func42, Try.ntmps42
  go_wp2_with (go_at_call 43; refine (values_any _ _ _ _ _).mono ?_; rintro e w' ⟨rfl, rfl⟩)
  go_rounds 5
  all_goals (go_ret; exact ⟨ret_bool (by go_light; simp [pvB, inB] at *; omega), rfl⟩)

theorem PointValid_is (a b c d : Int) (t : Bool) (w : World) (h : pvB a b c d = t) :
    Calls Try.prog 42 #[.agg #[.int .i64 a, .int .i64 b, .int .i64 c, .int .i64 d]] w fun e w' => e = .returned (.bool t) ∧
      ((w.alloc (.cells #[.int .i64 a, .int .i64 b, .int .i64 c, .int .i64 d] 33)).alloc (.cells #[.int .i64 a, .int .i64 b, .int .i64 c, .int .i64 d] 33)).alloc (.cells #[.int .i64 a, .int .i64 b, .int .i64 c, .int .i64 d] 3) = w' :=
  (PointValid_any a b c d w).mono fun _ _ ⟨he, hw⟩ => ⟨he.trans (ret_bool h), hw⟩

def put (a i v n : Int) : Int := if v = i then n else a

set_option maxHeartbeats 1000000 in
theorem WithValue_bad (a b c d v n : Int) (w : World) (h : wvB a b c d v n = false) :
    Calls Try.prog 26 #[.agg #[.int .i64 a, .int .i64 b, .int .i64 c, .int .i64 d], .int .i64 v, .int .i64 n] w fun e w' => e = .returned (.tuple #[.agg #[.int .i64 0, .int .i64 0, .int .i64 0, .int .i64 0], .bool false]) ∧ Below w.heap.size w w' := by
  by_cases h1 : pvB a b c d = true
  · by_cases h2 : 0 ≤ v ∧ v < 4
    · have h' : v = 0 ∨ v = 1 ∨ v = 2 ∨ v = 3 := by omega
      clear h2
      have h3 : inB n 0 1000 = false := by
        simp [wvB, h1, varB] at h
        exact h (by omega) (by omega)
      clear h
      have H1 := Lib.hid h1
      clear h1
      rcases h' with rfl | rfl | rfl | rfl
      · have H3 : pvB n b c d = false := by simp [pvB, h3]
        have H3 := Lib.hid H3
        clear h3
        go_enter Try.func26, Try.ntmps26
        go_wp2_with (first | (go_at_call 42; refine (PointValid_is a b c d true _ H1.out).mono ?_; rintro e w' ⟨rfl, rfl⟩) | (go_at_call 31; refine (isVar_yes _ _ (by omega) (by omega)).mono ?_; rintro e w' ⟨rfl, rfl⟩) | (go_at_call 43; refine (values_any _ _ _ _ _).mono ?_; rintro e w' ⟨rfl, rfl⟩))
        go_region
        go_wp2_with (go_at_call 42; refine (PointValid_is _ _ _ _ false _ H3.out).mono ?_; rintro e w' ⟨rfl, rfl⟩)
        go_returns
        exact ⟨rfl, by go_grown⟩
      · have H3 : pvB a n c d = false := by simp [pvB, h3]
        have H3 := Lib.hid H3
        clear h3
        go_enter Try.func26, Try.ntmps26
        go_wp2_with (first | (go_at_call 42; refine (PointValid_is a b c d true _ H1.out).mono ?_; rintro e w' ⟨rfl, rfl⟩) | (go_at_call 31; refine (isVar_yes _ _ (by omega) (by omega)).mono ?_; rintro e w' ⟨rfl, rfl⟩) | (go_at_call 43; refine (values_any _ _ _ _ _).mono ?_; rintro e w' ⟨rfl, rfl⟩))
        go_region
        go_wp2_with (go_at_call 42; refine (PointValid_is _ _ _ _ false _ H3.out).mono ?_; rintro e w' ⟨rfl, rfl⟩)
        go_returns
        exact ⟨rfl, by go_grown⟩
      · have H3 : pvB a b n d = false := by simp [pvB, h3]
        have H3 := Lib.hid H3
        clear h3
        go_enter Try.func26, Try.ntmps26
        go_wp2_with (first | (go_at_call 42; refine (PointValid_is a b c d true _ H1.out).mono ?_; rintro e w' ⟨rfl, rfl⟩) | (go_at_call 31; refine (isVar_yes _ _ (by omega) (by omega)).mono ?_; rintro e w' ⟨rfl, rfl⟩) | (go_at_call 43; refine (values_any _ _ _ _ _).mono ?_; rintro e w' ⟨rfl, rfl⟩))
        go_region
        go_wp2_with (go_at_call 42; refine (PointValid_is _ _ _ _ false _ H3.out).mono ?_; rintro e w' ⟨rfl, rfl⟩)
        go_returns
        exact ⟨rfl, by go_grown⟩
      · have H3 : pvB a b c n = false := by simp [pvB, h3]
        have H3 := Lib.hid H3
        clear h3
        go_enter Try.func26, Try.ntmps26
        go_wp2_with (first | (go_at_call 42; refine (PointValid_is a b c d true _ H1.out).mono ?_; rintro e w' ⟨rfl, rfl⟩) | (go_at_call 31; refine (isVar_yes _ _ (by omega) (by omega)).mono ?_; rintro e w' ⟨rfl, rfl⟩) | (go_at_call 43; refine (values_any _ _ _ _ _).mono ?_; rintro e w' ⟨rfl, rfl⟩))
        go_region
        go_wp2_with (go_at_call 42; refine (PointValid_is _ _ _ _ false _ H3.out).mono ?_; rintro e w' ⟨rfl, rfl⟩)
        go_returns
        exact ⟨rfl, by go_grown⟩
    · clear h
      have H1 := Lib.hid h1
      clear h1
      go_enter Try.func26, Try.ntmps26
      go_wp2_with (first | (go_at_call 42; refine (PointValid_is a b c d true _ H1.out).mono ?_; rintro e w' ⟨rfl, rfl⟩) | (go_at_call 31; refine (isVar_no _ _ (by omega)).mono ?_; rintro e w' ⟨rfl, rfl⟩))
      go_returns
      exact ⟨rfl, by go_grown⟩
  · have h1' : pvB a b c d = false := by simpa using h1
    clear h h1
    have H1 := Lib.hid h1'
    clear h1'
    go_enter Try.func26, Try.ntmps26
    go_wp2_with (first | (go_at_call 42; refine (PointValid_is a b c d false _ H1.out).mono ?_; rintro e w' ⟨rfl, rfl⟩))
    go_returns
    exact ⟨rfl, by go_grown⟩

set_option maxHeartbeats 1000000 in
theorem WithValue_ok (a b c d v n : Int) (w : World) (h : wvB a b c d v n = true) :
    Calls Try.prog 26 #[.agg #[.int .i64 a, .int .i64 b, .int .i64 c, .int .i64 d], .int .i64 v, .int .i64 n] w fun e w' => e = .returned (.tuple #[.agg #[.int .i64 (if v = 0 then n else a), .int .i64 (if v = 1 then n else b), .int .i64 (if v = 2 then n else c), .int .i64 (if v = 3 then n else d)], .bool true]) ∧ Below w.heap.size w w' := by
  have h1 : pvB a b c d = true := by simp [wvB] at h; exact h.1.1
  have h2 : 0 ≤ v ∧ v < 4 := by simp [wvB, varB] at h; exact h.1.2
  have h3 : inB n 0 1000 = true := by simp [wvB] at h; exact h.2
  have h' : v = 0 ∨ v = 1 ∨ v = 2 ∨ v = 3 := by omega
  have hp := h1
  simp only [pvB, Bool.and_eq_true] at hp
  obtain ⟨⟨⟨p0, p1⟩, p2⟩, p3⟩ := hp
  have H1 := Lib.hid h1
  clear h h1 h2
  rcases h' with rfl | rfl | rfl | rfl
  · have H3 : pvB n b c d = true := by simp [pvB, *]
    have H3 := Lib.hid H3
    clear h3 p0 p1 p2 p3
    go_enter Try.func26, Try.ntmps26
    go_wp2_with (first | (go_at_call 42; refine (PointValid_is a b c d true _ H1.out).mono ?_; rintro e w' ⟨rfl, rfl⟩) | (go_at_call 31; refine (isVar_yes _ _ (by omega) (by omega)).mono ?_; rintro e w' ⟨rfl, rfl⟩) | (go_at_call 43; refine (values_any _ _ _ _ _).mono ?_; rintro e w' ⟨rfl, rfl⟩))
    go_region
    go_wp2_with (go_at_call 42; refine (PointValid_is _ _ _ _ true _ H3.out).mono ?_; rintro e w' ⟨rfl, rfl⟩)
    go_returns
    exact ⟨rfl, by go_grown⟩
  · have H3 : pvB a n c d = true := by simp [pvB, *]
    have H3 := Lib.hid H3
    clear h3 p0 p1 p2 p3
    go_enter Try.func26, Try.ntmps26
    go_wp2_with (first | (go_at_call 42; refine (PointValid_is a b c d true _ H1.out).mono ?_; rintro e w' ⟨rfl, rfl⟩) | (go_at_call 31; refine (isVar_yes _ _ (by omega) (by omega)).mono ?_; rintro e w' ⟨rfl, rfl⟩) | (go_at_call 43; refine (values_any _ _ _ _ _).mono ?_; rintro e w' ⟨rfl, rfl⟩))
    go_region
    go_wp2_with (go_at_call 42; refine (PointValid_is _ _ _ _ true _ H3.out).mono ?_; rintro e w' ⟨rfl, rfl⟩)
    go_returns
    exact ⟨rfl, by go_grown⟩
  · have H3 : pvB a b n d = true := by simp [pvB, *]
    have H3 := Lib.hid H3
    clear h3 p0 p1 p2 p3
    go_enter Try.func26, Try.ntmps26
    go_wp2_with (first | (go_at_call 42; refine (PointValid_is a b c d true _ H1.out).mono ?_; rintro e w' ⟨rfl, rfl⟩) | (go_at_call 31; refine (isVar_yes _ _ (by omega) (by omega)).mono ?_; rintro e w' ⟨rfl, rfl⟩) | (go_at_call 43; refine (values_any _ _ _ _ _).mono ?_; rintro e w' ⟨rfl, rfl⟩))
    go_region
    go_wp2_with (go_at_call 42; refine (PointValid_is _ _ _ _ true _ H3.out).mono ?_; rintro e w' ⟨rfl, rfl⟩)
    go_returns
    exact ⟨rfl, by go_grown⟩
  · have H3 : pvB a b c n = true := by simp [pvB, *]
    have H3 := Lib.hid H3
    clear h3 p0 p1 p2 p3
    go_enter Try.func26, Try.ntmps26
    go_wp2_with (first | (go_at_call 42; refine (PointValid_is a b c d true _ H1.out).mono ?_; rintro e w' ⟨rfl, rfl⟩) | (go_at_call 31; refine (isVar_yes _ _ (by omega) (by omega)).mono ?_; rintro e w' ⟨rfl, rfl⟩) | (go_at_call 43; refine (values_any _ _ _ _ _).mono ?_; rintro e w' ⟨rfl, rfl⟩))
    go_region
    go_wp2_with (go_at_call 42; refine (PointValid_is _ _ _ _ true _ H3.out).mono ?_; rintro e w' ⟨rfl, rfl⟩)
    go_returns
    exact ⟨rfl, by go_grown⟩

end Go.Proofs.Ytmnppdkoehdplaa

/- Contracts of EvalTerm of the program. -/
namespace Go.Proofs.Ytmnppdkoehdplaa
open Go.RowKit

set_option maxHeartbeats 400000 in
theorem CoefOf_in (a b c d n v : Int) (w : World) (h0 : 0 ≤ v) (h1 : v < 4) :
    Calls Try.prog 29 #[.agg #[.int .i64 a, .int .i64 b, .int .i64 c, .int .i64 d, .int .i64 n], .int .i64 v] w fun e w' => e = .returned (.int .i64 (sel a b c d v 0)) ∧ ((w.alloc (.cells #[.int .i64 a, .int .i64 b, .int .i64 c, .int .i64 d, .int .i64 n] 40)).alloc (.cells #[.int .i64 a, .int .i64 b, .int .i64 c, .int .i64 d, .int .i64 n] 40)).alloc (.cells #[.int .i64 a, .int .i64 b, .int .i64 c, .int .i64 d, .int .i64 n] 3) = w' := by
  have h' : v = 0 ∨ v = 1 ∨ v = 2 ∨ v = 3 := by omega
  clear h0 h1
  rcases h' with rfl | rfl | rfl | rfl
  all_goals
    go_enter Try.func29, Try.ntmps29
    go_wp2_with (first | (go_at_call 31; refine (isVar_yes _ _ (by omega) (by omega)).mono ?_; rintro e w' ⟨rfl, rfl⟩) | (go_at_call 46; refine (multiples_any _ _ _ _ _ _).mono ?_; rintro e w' ⟨rfl, rfl⟩))
    go_ret
    exact ⟨rfl, rfl⟩


set_option maxHeartbeats 1000000 in
theorem EvalTerm_bad (a b c d n x y z u : Int) (w : World) (h : (tvB a b c d n && pvB x y z u) = false) :
    Calls Try.prog 28 #[.agg #[.int .i64 a, .int .i64 b, .int .i64 c, .int .i64 d, .int .i64 n], .agg #[.int .i64 x, .int .i64 y, .int .i64 z, .int .i64 u]] w fun e w' => e = .returned (.tuple #[.int .i64 0, .bool false]) ∧ Below w.heap.size w w' := by
  by_cases h1 : tvB a b c d n = true
  · have h2 : pvB x y z u = false := by simpa [h1] using h
    have H1 := Lib.hid h1
    have H2 := Lib.hid h2
    clear h h1 h2
    go_enter Try.func28, Try.ntmps28
    go_wp2_with (first | (go_at_call 35; refine (TermValid_is a b c d n true _ H1.out).mono ?_; rintro e w' ⟨rfl, rfl⟩) | (go_at_call 42; refine (PointValid_is _ _ _ _ false _ H2.out).mono ?_; rintro e w' ⟨rfl, rfl⟩))
    go_returns
    exact ⟨rfl, by go_grown⟩
  · have h2 : tvB a b c d n = false := by simpa using h1
    have H2 := Lib.hid h2
    clear h h1 h2
    go_enter Try.func28, Try.ntmps28
    go_wp2_with (first | (go_at_call 35; refine (TermValid_is a b c d n false _ H2.out).mono ?_; rintro e w' ⟨rfl, rfl⟩))
    go_returns
    exact ⟨rfl, by go_grown⟩

set_option maxHeartbeats 2000000 in
theorem EvalTerm_ok (a b c d n x y z u : Int) (w : World) (h : (tvB a b c d n && pvB x y z u) = true) :
    Calls Try.prog 28 #[.agg #[.int .i64 a, .int .i64 b, .int .i64 c, .int .i64 d, .int .i64 n], .agg #[.int .i64 x, .int .i64 y, .int .i64 z, .int .i64 u]] w fun e w' => e = .returned (.tuple #[.int .i64 (ev a b c d n x y z u), .bool true]) ∧ Below w.heap.size w w' := by
  have h1 : tvB a b c d n = true := by simp at h; exact h.1
  have h2 : pvB x y z u = true := by simp at h; exact h.2
  have H1 := Lib.hid h1
  have H2 := Lib.hid h2
  simp only [tvB, wlB, Bool.and_eq_true, decide_eq_true_eq] at h1
  simp only [pvB, inB, Bool.and_eq_true, decide_eq_true_eq] at h2
  obtain ⟨⟨⟨⟨⟨a0, a1⟩, b0, b1⟩, c0, c1⟩, d0, d1⟩, n0, n1⟩ := h1
  obtain ⟨⟨⟨⟨x0, x1⟩, y0, y1⟩, z0, z1⟩, u0, u1⟩ := h2
  obtain ⟨ax0, ax1⟩ := mul_bd a0 a1 x0 x1 (by omega)
  obtain ⟨by0, by1⟩ := mul_bd b0 b1 y0 y1 (by omega)
  obtain ⟨cz0, cz1⟩ := mul_bd c0 c1 z0 z1 (by omega)
  obtain ⟨du0, du1⟩ := mul_bd d0 d1 u0 u1 (by omega)
  clear h
  have s0 : sel a b c d 0 0 = a := rfl
  have s1 : sel a b c d 1 0 = b := rfl
  have s2 : sel a b c d 2 0 = c := rfl
  have s3 : sel a b c d 3 0 = d := rfl
  go_enter Try.func28, Try.ntmps28
  go_wp2_with (first | (go_at_call 35; refine (TermValid_is a b c d n true _ H1.out).mono ?_; rintro e w' ⟨rfl, rfl⟩) | (go_at_call 42; refine (PointValid_is _ _ _ _ true _ H2.out).mono ?_; rintro e w' ⟨rfl, rfl⟩) | (go_at_call 43; refine (values_any _ _ _ _ _).mono ?_; rintro e w' ⟨rfl, rfl⟩))
  refine wp_loop_rounds 5 ?_
  repeat any_goals (rw [rounds_succ]; go_wp2_with (go_at_call 29; refine (CoefOf_in _ _ _ _ _ _ _ (by omega) (by omega)).mono ?_; rintro e w' ⟨rfl, rfl⟩))
  go_returns
  exact ⟨rfl, by go_grown⟩

end Go.Proofs.Ytmnppdkoehdplaa

/- Contracts of SubstTerm of the program. -/
namespace Go.Proofs.Ytmnppdkoehdplaa
open Go.RowKit

theorem sel_bd {a b c d n v : Int} (h : tvB a b c d n = true) : -100 ≤ sel a b c d v 0 ∧ sel a b c d v 0 ≤ 100 := by
  have q := tv_bd h
  unfold sel
  split <;> (try split) <;> (try split) <;> (try split) <;> omega

theorem drop_bd {v i x M : Int} (h0 : -M ≤ x) (h1 : x ≤ M) : -M ≤ (if v = i then 0 else x) ∧ (if v = i then 0 else x) ≤ M := by
  split <;> omega

end Go.Proofs.Ytmnppdkoehdplaa

/- Contracts of the model's l1Result and l1Without. -/
namespace Go.Proofs.Ytmnppdkoehdplaa
open Go.RowKit

set_option maxHeartbeats 1000000 in
theorem l1Without_any (a b c d n v : Int) (w : World) (hv : 0 ≤ v ∧ v < 4) :
    Calls Try.prog 24 #[.agg #[.int .i64 a, .int .i64 b, .int .i64 c, .int .i64 d, .int .i64 n], .int .i64 v] w fun e w' => e = .returned (.agg #[.int .i64 (if v = 0 then 0 else a), .int .i64 (if v = 1 then 0 else b), .int .i64 (if v = 2 then 0 else c), .int .i64 (if v = 3 then 0 else d), .int .i64 n]) ∧ Below w.heap.size w w' := by
  have h' : v = 0 ∨ v = 1 ∨ v = 2 ∨ v = 3 := by omega
  clear hv
  rcases h' with rfl | rfl | rfl | rfl
  · go_enter Try.func24, Try.ntmps24
    go_wp2_with (first | (go_at_call 39; refine (l1List_any _ _ _ _ _ _).mono ?_; rintro e w' ⟨rfl, rfl⟩) | (go_at_call 40; refine (l1Term_any 0 b c d n _ _ (by refine ⟨?_, ?_, ?_, ?_, ?_, ?_⟩ <;> first | (simp [go_sem]; done) | (simp; omega))).mono ?_; rintro e w' ⟨rfl, hb⟩; obtain ⟨hc, hf⟩ := bcell hb; have hz := hb.size; simp at hz; have hbb := below_step (B := w.heap.size) (w := w) (by go_grown) hb (by simp; omega)))
    refine bodyPost_ret (v := .agg #[.int .i64 0, .int .i64 b, .int .i64 c, .int .i64 d, .int .i64 n]) (by simp [results, Try.results24, go_sem, hc]) rfl ⟨rfl, ?_⟩
    go_grown
  · go_enter Try.func24, Try.ntmps24
    go_wp2_with (first | (go_at_call 39; refine (l1List_any _ _ _ _ _ _).mono ?_; rintro e w' ⟨rfl, rfl⟩) | (go_at_call 40; refine (l1Term_any a 0 c d n _ _ (by refine ⟨?_, ?_, ?_, ?_, ?_, ?_⟩ <;> first | (simp [go_sem]; done) | (simp; omega))).mono ?_; rintro e w' ⟨rfl, hb⟩; obtain ⟨hc, hf⟩ := bcell hb; have hz := hb.size; simp at hz; have hbb := below_step (B := w.heap.size) (w := w) (by go_grown) hb (by simp; omega)))
    refine bodyPost_ret (v := .agg #[.int .i64 a, .int .i64 0, .int .i64 c, .int .i64 d, .int .i64 n]) (by simp [results, Try.results24, go_sem, hc]) rfl ⟨rfl, ?_⟩
    go_grown
  · go_enter Try.func24, Try.ntmps24
    go_wp2_with (first | (go_at_call 39; refine (l1List_any _ _ _ _ _ _).mono ?_; rintro e w' ⟨rfl, rfl⟩) | (go_at_call 40; refine (l1Term_any a b 0 d n _ _ (by refine ⟨?_, ?_, ?_, ?_, ?_, ?_⟩ <;> first | (simp [go_sem]; done) | (simp; omega))).mono ?_; rintro e w' ⟨rfl, hb⟩; obtain ⟨hc, hf⟩ := bcell hb; have hz := hb.size; simp at hz; have hbb := below_step (B := w.heap.size) (w := w) (by go_grown) hb (by simp; omega)))
    refine bodyPost_ret (v := .agg #[.int .i64 a, .int .i64 b, .int .i64 0, .int .i64 d, .int .i64 n]) (by simp [results, Try.results24, go_sem, hc]) rfl ⟨rfl, ?_⟩
    go_grown
  · go_enter Try.func24, Try.ntmps24
    go_wp2_with (first | (go_at_call 39; refine (l1List_any _ _ _ _ _ _).mono ?_; rintro e w' ⟨rfl, rfl⟩) | (go_at_call 40; refine (l1Term_any a b c 0 n _ _ (by refine ⟨?_, ?_, ?_, ?_, ?_, ?_⟩ <;> first | (simp [go_sem]; done) | (simp; omega))).mono ?_; rintro e w' ⟨rfl, hb⟩; obtain ⟨hc, hf⟩ := bcell hb; have hz := hb.size; simp at hz; have hbb := below_step (B := w.heap.size) (w := w) (by go_grown) hb (by simp; omega)))
    refine bodyPost_ret (v := .agg #[.int .i64 a, .int .i64 b, .int .i64 c, .int .i64 0, .int .i64 n]) (by simp [results, Try.results24, go_sem, hc]) rfl ⟨rfl, ?_⟩
    go_grown

end Go.Proofs.Ytmnppdkoehdplaa

/- Contracts of the model's SubstTerm. -/
namespace Go.Proofs.Ytmnppdkoehdplaa
open Go.RowKit

end Go.Proofs.Ytmnppdkoehdplaa

/- What a statement that calls and keeps two results leaves behind. -/
namespace Go.Proofs.Ytmnppdkoehdplaa
open Go.RowKit

/-- What a statement 'r, ok := f(..)' leaves: r in a box that is newer than W0, and nothing of W0 has turned. -/
def ResAt (W0 : World) (r0 r1 r2 r3 r4 : Int) (ok : Bool) (p q : Value) (W : World) : Prop :=
  ∃ z, p = .pointer (some ⟨z, 0, none⟩) ∧ q = .bool ok ∧ C5 W z r0 r1 r2 r3 r4 ∧ Below W0.heap.size W0 W

theorem c5_new {w : World} {r0 r1 r2 r3 r4 : Int} {t : TypeId} : C5 (w.alloc (.cells #[.int .i64 r0, .int .i64 r1, .int .i64 r2, .int .i64 r3, .int .i64 r4] t)) w.heap.size r0 r1 r2 r3 r4 := by
  refine ⟨?_, ?_, ?_, ?_, ?_, ?_⟩ <;> simp [go_sem]

theorem c5_set {w : World} {z : Nat} {c0 c1 c2 c3 c4 r0 r1 r2 r3 r4 : Int} (h : C5 w z c0 c1 c2 c3 c4) : C5 (put5 w z (.int .i64 r0) (.int .i64 r1) (.int .i64 r2) (.int .i64 r3) (.int .i64 r4)) z r0 r1 r2 r3 r4 := by
  obtain ⟨g, g0, g1, g2, g3, g4⟩ := h
  refine c5_of ⟨?_, ?_, ?_, ?_, ?_⟩ <;> unfold put5 <;> simp [go_sem, *]

theorem c5_set2 {Wc w : World} {z : Nat} {c0 c1 c2 c3 c4 r0 r1 r2 r3 r4 : Int} (hb : Below Wc.heap.size Wc w) (h : C5 Wc z c0 c1 c2 c3 c4) :
    C5 (((((w.setCell ⟨z, 0, none⟩ (.int .i64 r0)).setCell ⟨z, 1, none⟩ (.int .i64 r1)).setCell ⟨z, 2, none⟩ (.int .i64 r2)).setCell ⟨z, 3, none⟩ (.int .i64 r3)).setCell ⟨z, 4, none⟩ (.int .i64 r4)) z r0 r1 r2 r3 r4 :=
  c5_set (c5_on h hb)

end Go.Proofs.Ytmnppdkoehdplaa

/- Contracts of SubstAtom of the program and of the model; the walk of the law that says that they agree. -/
namespace Go.Proofs.Ytmnppdkoehdplaa
open Go.RowKit

set_option maxHeartbeats 400000 in
theorem toAtom_to (k m a b c d n : Int) (w : World) :
    Calls Try.prog 17 #[.agg #[.int .i64 k, .int .i64 m, .int .i64 a, .int .i64 b, .int .i64 c, .int .i64 d, .int .i64 n]] w fun e w' => e = .returned (.agg #[.int .i64 k, .int .i64 m, .int .i64 a, .int .i64 b, .int .i64 c, .int .i64 d, .int .i64 n]) ∧ (((((w.alloc (.cells #[.int .i64 k, .int .i64 m, .int .i64 a, .int .i64 b, .int .i64 c, .int .i64 d, .int .i64 n] 46)).alloc (.cells #[.int .i64 k, .int .i64 m, .int .i64 a, .int .i64 b, .int .i64 c, .int .i64 d, .int .i64 n] 42)).alloc (.cells #[.int .i64 k, .int .i64 m, .int .i64 a, .int .i64 b, .int .i64 c, .int .i64 d, .int .i64 n] 42)).alloc (.cells #[.int .i64 a, .int .i64 b, .int .i64 c, .int .i64 d, .int .i64 n] 44)).alloc (.cells #[.int .i64 a, .int .i64 b, .int .i64 c, .int .i64 d, .int .i64 n] 40)).alloc (.cells #[.int .i64 a, .int .i64 b, .int .i64 c, .int .i64 d, .int .i64 n] 40) = w' := by
  go_enter Try.func17, Try.ntmps17
  go_wp2_with (go_at_call 34; refine (toTerm_to _ _ _ _ _ _).mono ?_; rintro e w' ⟨rfl, rfl⟩)
  exact bodyPost_ret (v := .agg #[.int .i64 k, .int .i64 m, .int .i64 a, .int .i64 b, .int .i64 c, .int .i64 d, .int .i64 n]) (by simp [results, Try.results17, go_sem]) rfl ⟨rfl, rfl⟩

def ResA (W0 : World) (r0 r1 r2 r3 r4 r5 r6 : Int) (ok : Bool) (p q : Value) (W : World) : Prop :=
  ∃ z, p = .pointer (some ⟨z, 0, none⟩) ∧ q = .bool ok ∧ C7 W z r0 r1 r2 r3 r4 r5 r6 ∧ Below W0.heap.size W0 W
theorem c7_new {w : World} {r0 r1 r2 r3 r4 r5 r6 : Int} {t : TypeId} : C7 (w.alloc (.cells #[.int .i64 r0, .int .i64 r1, .int .i64 r2, .int .i64 r3, .int .i64 r4, .int .i64 r5, .int .i64 r6] t)) w.heap.size r0 r1 r2 r3 r4 r5 r6 := (by refine ⟨?_, ?_, ?_, ?_, ?_, ?_, ?_, ?_⟩ <;> first | (simp [go_sem]; done) | (simp; omega))
theorem c7_set2 {Wc w : World} {z : Nat} {c0 c1 c2 c3 c4 c5 c6 r0 r1 r2 r3 r4 r5 r6 : Int} (hb : Below Wc.heap.size Wc w) (h : C7 Wc z c0 c1 c2 c3 c4 c5 c6) :
    C7 (((((((w.setCell ⟨z, 0, none⟩ (.int .i64 r0)).setCell ⟨z, 1, none⟩ (.int .i64 r1)).setCell ⟨z, 2, none⟩ (.int .i64 r2)).setCell ⟨z, 3, none⟩ (.int .i64 r3)).setCell ⟨z, 4, none⟩ (.int .i64 r4)).setCell ⟨z, 5, none⟩ (.int .i64 r5)).setCell ⟨z, 6, none⟩ (.int .i64 r6)) z r0 r1 r2 r3 r4 r5 r6 := by
  obtain ⟨g, g0, g1, g2, g3, g4, g5, g6⟩ := c7_on h hb
  refine ⟨by simpa [World.setCell] using g, ?_, ?_, ?_, ?_, ?_, ?_, ?_⟩ <;> simp [go_sem, *]
theorem keep75 {W w' : World} {x y : Nat} {k m a b c d n a' b' c' d' n' : Int} (hx : C7 W x k m a b c d n) (hy : C5 W y a' b' c' d' n') (hB : Below W.heap.size W w') :
    Below W.heap.size W w' ∧ (w'.cell? ⟨x, 0, none⟩ = some (.int .i64 k) ∧ w'.cell? ⟨x, 1, none⟩ = some (.int .i64 m) ∧ w'.cell? ⟨x, 2, none⟩ = some (.int .i64 a) ∧ w'.cell? ⟨x, 3, none⟩ = some (.int .i64 b) ∧ w'.cell? ⟨x, 4, none⟩ = some (.int .i64 c) ∧ w'.cell? ⟨x, 5, none⟩ = some (.int .i64 d) ∧ w'.cell? ⟨x, 6, none⟩ = some (.int .i64 n)) ∧ (w'.cell? ⟨y, 0, none⟩ = some (.int .i64 a') ∧ w'.cell? ⟨y, 1, none⟩ = some (.int .i64 b') ∧ w'.cell? ⟨y, 2, none⟩ = some (.int .i64 c') ∧ w'.cell? ⟨y, 3, none⟩ = some (.int .i64 d') ∧ w'.cell? ⟨y, 4, none⟩ = some (.int .i64 n')) := ⟨hB, (c7_on hx hB).2, (c5_on hy hB).2⟩

end Go.Proofs.Ytmnppdkoehdplaa
