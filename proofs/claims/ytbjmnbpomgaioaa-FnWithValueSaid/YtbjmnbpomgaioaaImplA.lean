/- Contracts of PointValid, ValueOf, WithValue and EvalTerm of the program. -/
import Derived.Test.YtbjmnbpomgaioaaBaseC
namespace Go.Proofs.Ytbjmnbpomgaioaa
open Go.RowKit

set_option maxHeartbeats 400000 in
theorem PointValid_any (a b c d : Int) (w : World) :
    Calls Try.prog 18 #[.agg #[.int .i64 a, .int .i64 b, .int .i64 c, .int .i64 d]] w fun e w' => e = .returned (.bool (pvB a b c d)) ∧
      ((w.alloc (.cells #[.int .i64 a, .int .i64 b, .int .i64 c, .int .i64 d] 24)).alloc (.cells #[.int .i64 a, .int .i64 b, .int .i64 c, .int .i64 d] 24)).alloc (.cells #[.int .i64 a, .int .i64 b, .int .i64 c, .int .i64 d] 3) = w' := by
  go_enter Try.func18, Try.ntmps18
  go_wp2_with (go_at_call 62; refine (values_any _ _ _ _ _).mono ?_; rintro e w' ⟨rfl, rfl⟩)
  go_rounds 5
  all_goals (go_ret; exact ⟨ret_bool (by go_light; simp [pvB, inB] at *; omega), rfl⟩)

theorem PointValid_is (a b c d : Int) (t : Bool) (w : World) (h : pvB a b c d = t) :
    Calls Try.prog 18 #[.agg #[.int .i64 a, .int .i64 b, .int .i64 c, .int .i64 d]] w fun e w' => e = .returned (.bool t) ∧
      ((w.alloc (.cells #[.int .i64 a, .int .i64 b, .int .i64 c, .int .i64 d] 24)).alloc (.cells #[.int .i64 a, .int .i64 b, .int .i64 c, .int .i64 d] 24)).alloc (.cells #[.int .i64 a, .int .i64 b, .int .i64 c, .int .i64 d] 3) = w' :=
  (PointValid_any a b c d w).mono fun _ _ ⟨he, hw⟩ => ⟨he.trans (ret_bool h), hw⟩

set_option maxHeartbeats 400000 in
theorem ValueOf_any (a b c d v : Int) (w : World) :
    Calls Try.prog 17 #[.agg #[.int .i64 a, .int .i64 b, .int .i64 c, .int .i64 d], .int .i64 v] w fun e w' => e = .returned (.int .i64 (sel a b c d v (-1))) ∧ Below w.heap.size w w' := by
  by_cases h : 0 ≤ v ∧ v < 4
  · have h' : v = 0 ∨ v = 1 ∨ v = 2 ∨ v = 3 := by omega
    clear h
    rcases h' with rfl | rfl | rfl | rfl
    all_goals
      go_enter Try.func17, Try.ntmps17
      go_wp2_with (first | (go_at_call 61; refine (isVar_yes _ _ (by omega) (by omega)).mono ?_; rintro e w' ⟨rfl, rfl⟩) | (go_at_call 62; refine (values_any _ _ _ _ _).mono ?_; rintro e w' ⟨rfl, rfl⟩))
      go_ret
      exact ⟨rfl, by go_grown⟩
  · have hs : sel a b c d v (-1) = -1 := by unfold sel; repeat (rw [if_neg (by omega)])
    have Hs := Lib.hid hs
    clear hs
    go_enter Try.func17, Try.ntmps17
    go_wp2_with (go_at_call 61; refine (isVar_no _ _ (by omega)).mono ?_; rintro e w' ⟨rfl, rfl⟩)
    go_ret
    exact ⟨ret_int Hs.out.symm, by go_grown⟩

def put (a i v n : Int) : Int := if v = i then n else a

set_option maxHeartbeats 1000000 in
theorem WithValue_bad (a b c d v n : Int) (w : World) (h : wvB a b c d v n = false) :
    Calls Try.prog 15 #[.agg #[.int .i64 a, .int .i64 b, .int .i64 c, .int .i64 d], .int .i64 v, .int .i64 n] w fun e w' => e = .returned (.tuple #[.agg #[.int .i64 0, .int .i64 0, .int .i64 0, .int .i64 0], .bool false]) ∧ Below w.heap.size w w' := by
  by_cases h1 : pvB a b c d = true
  · by_cases h2 : 0 ≤ v ∧ v < 4
    · have h' : v = 0 ∨ v = 1 ∨ v = 2 ∨ v = 3 := by omega
      clear h2
      have h3 : inB n 0 1000 = false := by
        simp [wvB, h1, varB] at h
        exact h (by omega) (by omega)
      clear h
      have H1 := Lib.hid h1
      clear h1
      rcases h' with rfl | rfl | rfl | rfl
      · have H3 : pvB n b c d = false := by simp [pvB, h3]
        have H3 := Lib.hid H3
        clear h3
        go_enter Try.func15, Try.ntmps15
        go_wp2_with (first | (go_at_call 18; refine (PointValid_is a b c d true _ H1.out).mono ?_; rintro e w' ⟨rfl, rfl⟩) | (go_at_call 61; refine (isVar_yes _ _ (by omega) (by omega)).mono ?_; rintro e w' ⟨rfl, rfl⟩) | (go_at_call 62; refine (values_any _ _ _ _ _).mono ?_; rintro e w' ⟨rfl, rfl⟩))
        go_region
        go_wp2_with (go_at_call 18; refine (PointValid_is _ _ _ _ false _ H3.out).mono ?_; rintro e w' ⟨rfl, rfl⟩)
        go_returns
        exact ⟨rfl, by go_grown⟩
      · have H3 : pvB a n c d = false := by simp [pvB, h3]
        have H3 := Lib.hid H3
        clear h3
        go_enter Try.func15, Try.ntmps15
        go_wp2_with (first | (go_at_call 18; refine (PointValid_is a b c d true _ H1.out).mono ?_; rintro e w' ⟨rfl, rfl⟩) | (go_at_call 61; refine (isVar_yes _ _ (by omega) (by omega)).mono ?_; rintro e w' ⟨rfl, rfl⟩) | (go_at_call 62; refine (values_any _ _ _ _ _).mono ?_; rintro e w' ⟨rfl, rfl⟩))
        go_region
        go_wp2_with (go_at_call 18; refine (PointValid_is _ _ _ _ false _ H3.out).mono ?_; rintro e w' ⟨rfl, rfl⟩)
        go_returns
        exact ⟨rfl, by go_grown⟩
      · have H3 : pvB a b n d = false := by simp [pvB, h3]
        have H3 := Lib.hid H3
        clear h3
        go_enter Try.func15, Try.ntmps15
        go_wp2_with (first | (go_at_call 18; refine (PointValid_is a b c d true _ H1.out).mono ?_; rintro e w' ⟨rfl, rfl⟩) | (go_at_call 61; refine (isVar_yes _ _ (by omega) (by omega)).mono ?_; rintro e w' ⟨rfl, rfl⟩) | (go_at_call 62; refine (values_any _ _ _ _ _).mono ?_; rintro e w' ⟨rfl, rfl⟩))
        go_region
        go_wp2_with (go_at_call 18; refine (PointValid_is _ _ _ _ false _ H3.out).mono ?_; rintro e w' ⟨rfl, rfl⟩)
        go_returns
        exact ⟨rfl, by go_grown⟩
      · have H3 : pvB a b c n = false := by simp [pvB, h3]
        have H3 := Lib.hid H3
        clear h3
        go_enter Try.func15, Try.ntmps15
        go_wp2_with (first | (go_at_call 18; refine (PointValid_is a b c d true _ H1.out).mono ?_; rintro e w' ⟨rfl, rfl⟩) | (go_at_call 61; refine (isVar_yes _ _ (by omega) (by omega)).mono ?_; rintro e w' ⟨rfl, rfl⟩) | (go_at_call 62; refine (values_any _ _ _ _ _).mono ?_; rintro e w' ⟨rfl, rfl⟩))
        go_region
        go_wp2_with (go_at_call 18; refine (PointValid_is _ _ _ _ false _ H3.out).mono ?_; rintro e w' ⟨rfl, rfl⟩)
        go_returns
        exact ⟨rfl, by go_grown⟩
    · clear h
      have H1 := Lib.hid h1
      clear h1
      go_enter Try.func15, Try.ntmps15
      go_wp2_with (first | (go_at_call 18; refine (PointValid_is a b c d true _ H1.out).mono ?_; rintro e w' ⟨rfl, rfl⟩) | (go_at_call 61; refine (isVar_no _ _ (by omega)).mono ?_; rintro e w' ⟨rfl, rfl⟩))
      go_returns
      exact ⟨rfl, by go_grown⟩
  · have h1' : pvB a b c d = false := by simpa using h1
    clear h h1
    have H1 := Lib.hid h1'
    clear h1'
    go_enter Try.func15, Try.ntmps15
    go_wp2_with (first | (go_at_call 18; refine (PointValid_is a b c d false _ H1.out).mono ?_; rintro e w' ⟨rfl, rfl⟩))
    go_returns
    exact ⟨rfl, by go_grown⟩

set_option maxHeartbeats 1000000 in
theorem WithValue_ok (a b c d v n : Int) (w : World) (h : wvB a b c d v n = true) :
    Calls Try.prog 15 #[.agg #[.int .i64 a, .int .i64 b, .int .i64 c, .int .i64 d], .int .i64 v, .int .i64 n] w fun e w' => e = .returned (.tuple #[.agg #[.int .i64 (if v = 0 then n else a), .int .i64 (if v = 1 then n else b), .int .i64 (if v = 2 then n else c), .int .i64 (if v = 3 then n else d)], .bool true]) ∧ Below w.heap.size w w' := by
  have h1 : pvB a b c d = true := by simp [wvB] at h; exact h.1.1
  have h2 : 0 ≤ v ∧ v < 4 := by simp [wvB, varB] at h; exact h.1.2
  have h3 : inB n 0 1000 = true := by simp [wvB] at h; exact h.2
  have h' : v = 0 ∨ v = 1 ∨ v = 2 ∨ v = 3 := by omega
  have hp := h1
  simp only [pvB, Bool.and_eq_true] at hp
  obtain ⟨⟨⟨p0, p1⟩, p2⟩, p3⟩ := hp
  have H1 := Lib.hid h1
  clear h h1 h2
  rcases h' with rfl | rfl | rfl | rfl
  · have H3 : pvB n b c d = true := by simp [pvB, *]
    have H3 := Lib.hid H3
    clear h3 p0 p1 p2 p3
    go_enter Try.func15, Try.ntmps15
    go_wp2_with (first | (go_at_call 18; refine (PointValid_is a b c d true _ H1.out).mono ?_; rintro e w' ⟨rfl, rfl⟩) | (go_at_call 61; refine (isVar_yes _ _ (by omega) (by omega)).mono ?_; rintro e w' ⟨rfl, rfl⟩) | (go_at_call 62; refine (values_any _ _ _ _ _).mono ?_; rintro e w' ⟨rfl, rfl⟩))
    go_region
    go_wp2_with (go_at_call 18; refine (PointValid_is _ _ _ _ true _ H3.out).mono ?_; rintro e w' ⟨rfl, rfl⟩)
    go_returns
    exact ⟨rfl, by go_grown⟩
  · have H3 : pvB a n c d = true := by simp [pvB, *]
    have H3 := Lib.hid H3
    clear h3 p0 p1 p2 p3
    go_enter Try.func15, Try.ntmps15
    go_wp2_with (first | (go_at_call 18; refine (PointValid_is a b c d true _ H1.out).mono ?_; rintro e w' ⟨rfl, rfl⟩) | (go_at_call 61; refine (isVar_yes _ _ (by omega) (by omega)).mono ?_; rintro e w' ⟨rfl, rfl⟩) | (go_at_call 62; refine (values_any _ _ _ _ _).mono ?_; rintro e w' ⟨rfl, rfl⟩))
    go_region
    go_wp2_with (go_at_call 18; refine (PointValid_is _ _ _ _ true _ H3.out).mono ?_; rintro e w' ⟨rfl, rfl⟩)
    go_returns
    exact ⟨rfl, by go_grown⟩
  · have H3 : pvB a b n d = true := by simp [pvB, *]
    have H3 := Lib.hid H3
    clear h3 p0 p1 p2 p3
    go_enter Try.func15, Try.ntmps15
    go_wp2_with (first | (go_at_call 18; refine (PointValid_is a b c d true _ H1.out).mono ?_; rintro e w' ⟨rfl, rfl⟩) | (go_at_call 61; refine (isVar_yes _ _ (by omega) (by omega)).mono ?_; rintro e w' ⟨rfl, rfl⟩) | (go_at_call 62; refine (values_any _ _ _ _ _).mono ?_; rintro e w' ⟨rfl, rfl⟩))
    go_region
    go_wp2_with (go_at_call 18; refine (PointValid_is _ _ _ _ true _ H3.out).mono ?_; rintro e w' ⟨rfl, rfl⟩)
    go_returns
    exact ⟨rfl, by go_grown⟩
  · have H3 : pvB a b c n = true := by simp [pvB, *]
    have H3 := Lib.hid H3
    clear h3 p0 p1 p2 p3
    go_enter Try.func15, Try.ntmps15
    go_wp2_with (first | (go_at_call 18; refine (PointValid_is a b c d true _ H1.out).mono ?_; rintro e w' ⟨rfl, rfl⟩) | (go_at_call 61; refine (isVar_yes _ _ (by omega) (by omega)).mono ?_; rintro e w' ⟨rfl, rfl⟩) | (go_at_call 62; refine (values_any _ _ _ _ _).mono ?_; rintro e w' ⟨rfl, rfl⟩))
    go_region
    go_wp2_with (go_at_call 18; refine (PointValid_is _ _ _ _ true _ H3.out).mono ?_; rintro e w' ⟨rfl, rfl⟩)
    go_returns
    exact ⟨rfl, by go_grown⟩

end Go.Proofs.Ytbjmnbpomgaioaa
