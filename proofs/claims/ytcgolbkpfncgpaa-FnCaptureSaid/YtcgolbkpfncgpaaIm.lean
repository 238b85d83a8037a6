/- Several texts in one: ImplA ImplB ImplE SpecE SpecI Held2 AtI. -/
import Derived.Test.YtcgolbkpfncgpaaBaseC
import Derived.Test.YtcgolbkpfncgpaaHeld
import Derived.Test.YtcgolbkpfncgpaaSpecC
import Derived.Test.YtcgolbkpfncgpaaSpecD
import Derived.Test.YtcgolbkpfncgpaaAtC
import Derived.Deep.DeepCutAuto

/- Contracts of PointValid, ValueOf, WithValue and EvalTerm of the program. -/
namespace Go.Proofs.Ytcgolbkpfncgpaa
open Go.RowKit

set_option maxHeartbeats 400000 in
theorem PointValid_any (a b c d : Int) (w : World) :
    Calls Try.prog 65 #[.agg #[.int .i64 a, .int .i64 b, .int .i64 c, .int .i64 d]] w fun e w' => e = .returned (.bool (pvB a b c d)) ∧
      ((w.alloc (.cells #[.int .i64 a, .int .i64 b, .int .i64 c, .int .i64 d] 30)).alloc (.cells #[.int .i64 a, .int .i64 b, .int .i64 c, .int .i64 d] 30)).alloc (.cells #[.int .i64 a, .int .i64 b, .int .i64 c, .int .i64 d] 3) = w' := by
  go_enter Try.func65, Try.ntmps65
  go_wp2_with (go_at_call 66; refine (values_any _ _ _ _ _).mono ?_; rintro e w' ⟨rfl, rfl⟩)
  go_rounds 5
  all_goals (go_ret; exact ⟨ret_bool (by go_light; simp [pvB, inB] at *; omega), rfl⟩)

theorem PointValid_is (a b c d : Int) (t : Bool) (w : World) (h : pvB a b c d = t) :
    Calls Try.prog 65 #[.agg #[.int .i64 a, .int .i64 b, .int .i64 c, .int .i64 d]] w fun e w' => e = .returned (.bool t) ∧
      ((w.alloc (.cells #[.int .i64 a, .int .i64 b, .int .i64 c, .int .i64 d] 30)).alloc (.cells #[.int .i64 a, .int .i64 b, .int .i64 c, .int .i64 d] 30)).alloc (.cells #[.int .i64 a, .int .i64 b, .int .i64 c, .int .i64 d] 3) = w' :=
  (PointValid_any a b c d w).mono fun _ _ ⟨he, hw⟩ => ⟨he.trans (ret_bool h), hw⟩

def put (a i v n : Int) : Int := if v = i then n else a

set_option maxHeartbeats 1000000 in
theorem WithValue_bad (a b c d v n : Int) (w : World) (h : wvB a b c d v n = false) :
    Calls Try.prog 15 #[.agg #[.int .i64 a, .int .i64 b, .int .i64 c, .int .i64 d], .int .i64 v, .int .i64 n] w fun e w' => e = .returned (.tuple #[.agg #[.int .i64 0, .int .i64 0, .int .i64 0, .int .i64 0], .bool false]) ∧ Below w.heap.size w w' := by
  by_cases h1 : pvB a b c d = true
  · by_cases h2 : 0 ≤ v ∧ v < 4
    · have h' : v = 0 ∨ v = 1 ∨ v = 2 ∨ v = 3 := by omega
      clear h2
      have h3 : inB n 0 1000 = false := by
        simp [wvB, h1, varB] at h
        exact h (by omega) (by omega)
      clear h
      have H1 := Lib.hid h1
      clear h1
      rcases h' with rfl | rfl | rfl | rfl
      · have H3 : pvB n b c d = false := by simp [pvB, h3]
        have H3 := Lib.hid H3
        clear h3
        go_enter Try.func15, Try.ntmps15
        go_wp2_with (first | (go_at_call 65; refine (PointValid_is a b c d true _ H1.out).mono ?_; rintro e w' ⟨rfl, rfl⟩) | (go_at_call 53; refine (isVar_yes _ _ (by omega) (by omega)).mono ?_; rintro e w' ⟨rfl, rfl⟩) | (go_at_call 66; refine (values_any _ _ _ _ _).mono ?_; rintro e w' ⟨rfl, rfl⟩))
        go_region
        go_wp2_with (go_at_call 65; refine (PointValid_is _ _ _ _ false _ H3.out).mono ?_; rintro e w' ⟨rfl, rfl⟩)
        go_returns
        exact ⟨rfl, by go_grown⟩
      · have H3 : pvB a n c d = false := by simp [pvB, h3]
        have H3 := Lib.hid H3
        clear h3
        go_enter Try.func15, Try.ntmps15
        go_wp2_with (first | (go_at_call 65; refine (PointValid_is a b c d true _ H1.out).mono ?_; rintro e w' ⟨rfl, rfl⟩) | (go_at_call 53; refine (isVar_yes _ _ (by omega) (by omega)).mono ?_; rintro e w' ⟨rfl, rfl⟩) | (go_at_call 66; refine (values_any _ _ _ _ _).mono ?_; rintro e w' ⟨rfl, rfl⟩))
        go_region
        go_wp2_with (go_at_call 65; refine (PointValid_is _ _ _ _ false _ H3.out).mono ?_; rintro e w' ⟨rfl, rfl⟩)
        go_returns
        exact ⟨rfl, by go_grown⟩
      · have H3 : pvB a b n d = false := by simp [pvB, h3]
        have H3 := Lib.hid H3
        clear h3
        go_enter Try.func15, Try.ntmps15
        go_wp2_with (first | (go_at_call 65; refine (PointValid_is a b c d true _ H1.out).mono ?_; rintro e w' ⟨rfl, rfl⟩) | (go_at_call 53; refine (isVar_yes _ _ (by omega) (by omega)).mono ?_; rintro e w' ⟨rfl, rfl⟩) | (go_at_call 66; refine (values_any _ _ _ _ _).mono ?_; rintro e w' ⟨rfl, rfl⟩))
        go_region
        go_wp2_with (go_at_call 65; refine (PointValid_is _ _ _ _ false _ H3.out).mono ?_; rintro e w' ⟨rfl, rfl⟩)
        go_returns
        exact ⟨rfl, by go_grown⟩
      · have H3 : pvB a b c n = false := by simp [pvB, h3]
        have H3 := Lib.hid H3
        clear h3
        go_enter Try.func15, Try.ntmps15
        go_wp2_with (first | (go_at_call 65; refine (PointValid_is a b c d true _ H1.out).mono ?_; rintro e w' ⟨rfl, rfl⟩) | (go_at_call 53; refine (isVar_yes _ _ (by omega) (by omega)).mono ?_; rintro e w' ⟨rfl, rfl⟩) | (go_at_call 66; refine (values_any _ _ _ _ _).mono ?_; rintro e w' ⟨rfl, rfl⟩))
        go_region
        go_wp2_with (go_at_call 65; refine (PointValid_is _ _ _ _ false _ H3.out).mono ?_; rintro e w' ⟨rfl, rfl⟩)
        go_returns
        exact ⟨rfl, by go_grown⟩
    · clear h
      have H1 := Lib.hid h1
      clear h1
      go_enter Try.func15, Try.ntmps15
      go_wp2_with (first | (go_at_call 65; refine (PointValid_is a b c d true _ H1.out).mono ?_; rintro e w' ⟨rfl, rfl⟩) | (go_at_call 53; refine (isVar_no _ _ (by omega)).mono ?_; rintro e w' ⟨rfl, rfl⟩))
      go_returns
      exact ⟨rfl, by go_grown⟩
  · have h1' : pvB a b c d = false := by simpa using h1
    clear h h1
    have H1 := Lib.hid h1'
    clear h1'
    go_enter Try.func15, Try.ntmps15
    go_wp2_with (first | (go_at_call 65; refine (PointValid_is a b c d false _ H1.out).mono ?_; rintro e w' ⟨rfl, rfl⟩))
    go_returns
    exact ⟨rfl, by go_grown⟩

set_option maxHeartbeats 1000000 in
theorem WithValue_ok (a b c d v n : Int) (w : World) (h : wvB a b c d v n = true) :
    Calls Try.prog 15 #[.agg #[.int .i64 a, .int .i64 b, .int .i64 c, .int .i64 d], .int .i64 v, .int .i64 n] w fun e w' => e = .returned (.tuple #[.agg #[.int .i64 (if v = 0 then n else a), .int .i64 (if v = 1 then n else b), .int .i64 (if v = 2 then n else c), .int .i64 (if v = 3 then n else d)], .bool true]) ∧ Below w.heap.size w w' := by
  have h1 : pvB a b c d = true := by simp [wvB] at h; exact h.1.1
  have h2 : 0 ≤ v ∧ v < 4 := by simp [wvB, varB] at h; exact h.1.2
  have h3 : inB n 0 1000 = true := by simp [wvB] at h; exact h.2
  have h' : v = 0 ∨ v = 1 ∨ v = 2 ∨ v = 3 := by omega
  have hp := h1
  simp only [pvB, Bool.and_eq_true] at hp
  obtain ⟨⟨⟨p0, p1⟩, p2⟩, p3⟩ := hp
  have H1 := Lib.hid h1
  clear h h1 h2
  rcases h' with rfl | rfl | rfl | rfl
  · have H3 : pvB n b c d = true := by simp [pvB, *]
    have H3 := Lib.hid H3
    clear h3 p0 p1 p2 p3
    go_enter Try.func15, Try.ntmps15
    go_wp2_with (first | (go_at_call 65; refine (PointValid_is a b c d true _ H1.out).mono ?_; rintro e w' ⟨rfl, rfl⟩) | (go_at_call 53; refine (isVar_yes _ _ (by omega) (by omega)).mono ?_; rintro e w' ⟨rfl, rfl⟩) | (go_at_call 66; refine (values_any _ _ _ _ _).mono ?_; rintro e w' ⟨rfl, rfl⟩))
    go_region
    go_wp2_with (go_at_call 65; refine (PointValid_is _ _ _ _ true _ H3.out).mono ?_; rintro e w' ⟨rfl, rfl⟩)
    go_returns
    exact ⟨rfl, by go_grown⟩
  · have H3 : pvB a n c d = true := by simp [pvB, *]
    have H3 := Lib.hid H3
    clear h3 p0 p1 p2 p3
    go_enter Try.func15, Try.ntmps15
    go_wp2_with (first | (go_at_call 65; refine (PointValid_is a b c d true _ H1.out).mono ?_; rintro e w' ⟨rfl, rfl⟩) | (go_at_call 53; refine (isVar_yes _ _ (by omega) (by omega)).mono ?_; rintro e w' ⟨rfl, rfl⟩) | (go_at_call 66; refine (values_any _ _ _ _ _).mono ?_; rintro e w' ⟨rfl, rfl⟩))
    go_region
    go_wp2_with (go_at_call 65; refine (PointValid_is _ _ _ _ true _ H3.out).mono ?_; rintro e w' ⟨rfl, rfl⟩)
    go_returns
    exact ⟨rfl, by go_grown⟩
  · have H3 : pvB a b n d = true := by simp [pvB, *]
    have H3 := Lib.hid H3
    clear h3 p0 p1 p2 p3
    go_enter Try.func15, Try.ntmps15
    go_wp2_with (first | (go_at_call 65; refine (PointValid_is a b c d true _ H1.out).mono ?_; rintro e w' ⟨rfl, rfl⟩) | (go_at_call 53; refine (isVar_yes _ _ (by omega) (by omega)).mono ?_; rintro e w' ⟨rfl, rfl⟩) | (go_at_call 66; refine (values_any _ _ _ _ _).mono ?_; rintro e w' ⟨rfl, rfl⟩))
    go_region
    go_wp2_with (go_at_call 65; refine (PointValid_is _ _ _ _ true _ H3.out).mono ?_; rintro e w' ⟨rfl, rfl⟩)
    go_returns
    exact ⟨rfl, by go_grown⟩
  · have H3 : pvB a b c n = true := by simp [pvB, *]
    have H3 := Lib.hid H3
    clear h3 p0 p1 p2 p3
    go_enter Try.func15, Try.ntmps15
    go_wp2_with (first | (go_at_call 65; refine (PointValid_is a b c d true _ H1.out).mono ?_; rintro e w' ⟨rfl, rfl⟩) | (go_at_call 53; refine (isVar_yes _ _ (by omega) (by omega)).mono ?_; rintro e w' ⟨rfl, rfl⟩) | (go_at_call 66; refine (values_any _ _ _ _ _).mono ?_; rintro e w' ⟨rfl, rfl⟩))
    go_region
    go_wp2_with (go_at_call 65; refine (PointValid_is _ _ _ _ true _ H3.out).mono ?_; rintro e w' ⟨rfl, rfl⟩)
    go_returns
    exact ⟨rfl, by go_grown⟩

end Go.Proofs.Ytcgolbkpfncgpaa

/- Contracts of EvalTerm of the program. -/
namespace Go.Proofs.Ytcgolbkpfncgpaa
open Go.RowKit

set_option maxHeartbeats 400000 in
theorem CoefOf_in (a b c d n v : Int) (w : World) (h0 : 0 ≤ v) (h1 : v < 4) :
    Calls Try.prog 17 #[.agg #[.int .i64 a, .int .i64 b, .int .i64 c, .int .i64 d, .int .i64 n], .int .i64 v] w fun e w' => e = .returned (.int .i64 (sel a b c d v 0)) ∧ ((w.alloc (.cells #[.int .i64 a, .int .i64 b, .int .i64 c, .int .i64 d, .int .i64 n] 24)).alloc (.cells #[.int .i64 a, .int .i64 b, .int .i64 c, .int .i64 d, .int .i64 n] 24)).alloc (.cells #[.int .i64 a, .int .i64 b, .int .i64 c, .int .i64 d, .int .i64 n] 3) = w' := by
  have h' : v = 0 ∨ v = 1 ∨ v = 2 ∨ v = 3 := by omega
  clear h0 h1
  rcases h' with rfl | rfl | rfl | rfl
  all_goals
    go_enter Try.func17, Try.ntmps17
    go_wp2_with (first | (go_at_call 53; refine (isVar_yes _ _ (by omega) (by omega)).mono ?_; rintro e w' ⟨rfl, rfl⟩) | (go_at_call 54; refine (multiples_any _ _ _ _ _ _).mono ?_; rintro e w' ⟨rfl, rfl⟩))
    go_ret
    exact ⟨rfl, rfl⟩


set_option maxHeartbeats 1000000 in
theorem EvalTerm_bad (a b c d n x y z u : Int) (w : World) (h : (tvB a b c d n && pvB x y z u) = false) :
    Calls Try.prog 67 #[.agg #[.int .i64 a, .int .i64 b, .int .i64 c, .int .i64 d, .int .i64 n], .agg #[.int .i64 x, .int .i64 y, .int .i64 z, .int .i64 u]] w fun e w' => e = .returned (.tuple #[.int .i64 0, .bool false]) ∧ Below w.heap.size w w' := by
  by_cases h1 : tvB a b c d n = true
  · have h2 : pvB x y z u = false := by simpa [h1] using h
    have H1 := Lib.hid h1
    have H2 := Lib.hid h2
    clear h h1 h2
    go_enter Try.func67, Try.ntmps67
    go_wp2_with (first | (go_at_call 40; refine (TermValid_is a b c d n true _ H1.out).mono ?_; rintro e w' ⟨rfl, rfl⟩) | (go_at_call 65; refine (PointValid_is _ _ _ _ false _ H2.out).mono ?_; rintro e w' ⟨rfl, rfl⟩))
    go_returns
    exact ⟨rfl, by go_grown⟩
  · have h2 : tvB a b c d n = false := by simpa using h1
    have H2 := Lib.hid h2
    clear h h1 h2
    go_enter Try.func67, Try.ntmps67
    go_wp2_with (first | (go_at_call 40; refine (TermValid_is a b c d n false _ H2.out).mono ?_; rintro e w' ⟨rfl, rfl⟩))
    go_returns
    exact ⟨rfl, by go_grown⟩

set_option maxHeartbeats 2000000 in
theorem EvalTerm_ok (a b c d n x y z u : Int) (w : World) (h : (tvB a b c d n && pvB x y z u) = true) :
    Calls Try.prog 67 #[.agg #[.int .i64 a, .int .i64 b, .int .i64 c, .int .i64 d, .int .i64 n], .agg #[.int .i64 x, .int .i64 y, .int .i64 z, .int .i64 u]] w fun e w' => e = .returned (.tuple #[.int .i64 (ev a b c d n x y z u), .bool true]) ∧ Below w.heap.size w w' := by
  have h1 : tvB a b c d n = true := by simp at h; exact h.1
  have h2 : pvB x y z u = true := by simp at h; exact h.2
  have H1 := Lib.hid h1
  have H2 := Lib.hid h2
  simp only [tvB, wlB, Bool.and_eq_true, decide_eq_true_eq] at h1
  simp only [pvB, inB, Bool.and_eq_true, decide_eq_true_eq] at h2
  obtain ⟨⟨⟨⟨⟨a0, a1⟩, b0, b1⟩, c0, c1⟩, d0, d1⟩, n0, n1⟩ := h1
  obtain ⟨⟨⟨⟨x0, x1⟩, y0, y1⟩, z0, z1⟩, u0, u1⟩ := h2
  obtain ⟨ax0, ax1⟩ := mul_bd a0 a1 x0 x1 (by omega)
  obtain ⟨by0, by1⟩ := mul_bd b0 b1 y0 y1 (by omega)
  obtain ⟨cz0, cz1⟩ := mul_bd c0 c1 z0 z1 (by omega)
  obtain ⟨du0, du1⟩ := mul_bd d0 d1 u0 u1 (by omega)
  clear h
  have s0 : sel a b c d 0 0 = a := rfl
  have s1 : sel a b c d 1 0 = b := rfl
  have s2 : sel a b c d 2 0 = c := rfl
  have s3 : sel a b c d 3 0 = d := rfl
  go_enter Try.func67, Try.ntmps67
  go_wp2_with (first | (go_at_call 40; refine (TermValid_is a b c d n true _ H1.out).mono ?_; rintro e w' ⟨rfl, rfl⟩) | (go_at_call 65; refine (PointValid_is _ _ _ _ true _ H2.out).mono ?_; rintro e w' ⟨rfl, rfl⟩) | (go_at_call 66; refine (values_any _ _ _ _ _).mono ?_; rintro e w' ⟨rfl, rfl⟩))
  refine wp_loop_rounds 5 ?_
  repeat any_goals (rw [rounds_succ]; go_wp2_with (go_at_call 17; refine (CoefOf_in _ _ _ _ _ _ _ (by omega) (by omega)).mono ?_; rintro e w' ⟨rfl, rfl⟩))
  go_returns
  exact ⟨rfl, by go_grown⟩

end Go.Proofs.Ytcgolbkpfncgpaa

/- Contracts of SubstTerm of the program. -/
namespace Go.Proofs.Ytcgolbkpfncgpaa
open Go.RowKit

theorem sel_bd {a b c d n v : Int} (h : tvB a b c d n = true) : -100 ≤ sel a b c d v 0 ∧ sel a b c d v 0 ≤ 100 := by
  have q := tv_bd h
  unfold sel
  split <;> (try split) <;> (try split) <;> (try split) <;> omega

theorem drop_bd {v i x M : Int} (h0 : -M ≤ x) (h1 : x ≤ M) : -M ≤ (if v = i then 0 else x) ∧ (if v = i then 0 else x) ≤ M := by
  split <;> omega

set_option maxHeartbeats 1000000 in
theorem SubstTerm_ok (a b c d n v a' b' c' d' n' K A B C D : Int) (w : World) (h1 : tvB a b c d n = true) (h2 : tvB a' b' c' d' n' = true) (hv : 0 ≤ v ∧ v < 4)
    (hK : sel a b c d v 0 = K) (hA : (if v = 0 then 0 else a) = A) (hB : (if v = 1 then 0 else b) = B) (hC : (if v = 2 then 0 else c) = C) (hD : (if v = 3 then 0 else d) = D)
    (h3 : tvB (A + a' * K) (B + b' * K) (C + c' * K) (D + d' * K) (n + n' * K) = true) :
    Calls Try.prog 12 #[.agg #[.int .i64 a, .int .i64 b, .int .i64 c, .int .i64 d, .int .i64 n], .int .i64 v, .agg #[.int .i64 a', .int .i64 b', .int .i64 c', .int .i64 d', .int .i64 n']] w fun e w' => e = .returned (.tuple #[.agg #[.int .i64 (A + a' * K), .int .i64 (B + b' * K), .int .i64 (C + c' * K), .int .i64 (D + d' * K), .int .i64 (n + n' * K)], .bool true]) ∧ Below w.heap.size w w' := by
  have q1 := tv_bd h1
  have q2 := tv_bd h2
  have qK := sel_bd (v := v) h1
  rw [hK] at qK
  have qA := drop_bd (v := v) (i := 0) q1.1.1 q1.1.2
  have qB := drop_bd (v := v) (i := 1) q1.2.1.1 q1.2.1.2
  have qC := drop_bd (v := v) (i := 2) q1.2.2.1.1 q1.2.2.1.2
  have qD := drop_bd (v := v) (i := 3) q1.2.2.2.1.1 q1.2.2.2.1.2
  rw [hA] at qA
  rw [hB] at qB
  rw [hC] at qC
  rw [hD] at qD
  have e1 := mul_bd2 q2.1.1 q2.1.2 qK.1 qK.2 (by omega)
  have e2 := mul_bd2 q2.2.1.1 q2.2.1.2 qK.1 qK.2 (by omega)
  have e3 := mul_bd2 q2.2.2.1.1 q2.2.2.1.2 qK.1 qK.2 (by omega)
  have e4 := mul_bd2 q2.2.2.2.1.1 q2.2.2.2.1.2 qK.1 qK.2 (by omega)
  have e5 := mul_bd2 q2.2.2.2.2.1 q2.2.2.2.2.2 qK.1 qK.2 (by omega)
  have H1 := Lib.hid h1
  have H2 := Lib.hid h2
  have H3 := Lib.hid h3
  have HC := Lib.hid fun W => CoefOf_in a b c d n v W hv.1 hv.2
  rw [hK] at HC
  have HV := Lib.hid fun W => isVar_yes v W hv.1 hv.2
  have HW : Hid (∀ bl W, C5 W bl a b c d n → Calls Try.prog 56 #[.slice (some ⟨bl, 0, none⟩) 5 5, .int .i64 v] W fun e w' => e = .returned (.slice (some ⟨W.heap.size, 0, none⟩) 5 5) ∧ W.alloc (.cells #[.int .i64 A, .int .i64 B, .int .i64 C, .int .i64 D, .int .i64 n] 3) = w') := by
    intro bl W hl
    have := without_of a b c d n v bl W hl hv
    rw [hA, hB, hC, hD] at this
    exact this
  have HM : Hid (∀ bl W, C5 W bl a' b' c' d' n' → Calls Try.prog 55 #[.slice (some ⟨bl, 0, none⟩) 5 5, .int .i64 K] W fun e w' => e = .returned (.slice (some ⟨W.heap.size, 0, none⟩) 5 5) ∧ W.alloc (.cells #[.int .i64 (a' * K), .int .i64 (b' * K), .int .i64 (c' * K), .int .i64 (d' * K), .int .i64 (n' * K)] 3) = w') :=
    fun bl W hl => times_of a' b' c' d' n' K bl W hl (by omega)
  have HP : Hid (∀ bl bm W, C5 W bl A B C D n → C5 W bm (a' * K) (b' * K) (c' * K) (d' * K) (n' * K) → Calls Try.prog 57 #[.slice (some ⟨bl, 0, none⟩) 5 5, .slice (some ⟨bm, 0, none⟩) 5 5] W fun e w' => e = .returned (.slice (some ⟨W.heap.size, 0, none⟩) 5 5) ∧ W.alloc (.cells #[.int .i64 (A + a' * K), .int .i64 (B + b' * K), .int .i64 (C + c' * K), .int .i64 (D + d' * K), .int .i64 (n + n' * K)] 3) = w') :=
    fun bl bm W hl hm => plus_of A B C D n (a' * K) (b' * K) (c' * K) (d' * K) (n' * K) bl bm W hl hm (by omega)
  clear h1 h2 h3 hv hK hA hB hC hD q1 q2 qK qA qB qC qD e1 e2 e3 e4 e5
  go_enter Try.func12, Try.ntmps12
  go_wp2_with (first | (go_at_call 40; refine (TermValid_is _ _ _ _ _ true _ (by first | exact H1.out | exact H2.out)).mono ?_; rintro e w' ⟨rfl, rfl⟩) | (go_at_call 53; refine (HV.out _).mono ?_; rintro e w' ⟨rfl, rfl⟩))
  generalize hW : (w.alloc (.cells #[.int .i64 a, .int .i64 b, .int .i64 c, .int .i64 d, .int .i64 n] 24)).alloc (.cells #[.int .i64 a', .int .i64 b', .int .i64 c', .int .i64 d', .int .i64 n'] 24) = W0
  have hx : C5 W0 w.heap.size a b c d n := by subst hW; exact (by refine ⟨?_, ?_, ?_, ?_, ?_, ?_⟩ <;> first | (simp [go_sem]; done) | (simp; omega))
  have hy : C5 W0 (w.heap.size + 1) a' b' c' d' n' := by subst hW; exact (by refine ⟨?_, ?_, ?_, ?_, ?_, ?_⟩ <;> first | (simp [go_sem]; done) | (simp; omega))
  have hw0 : Below w.heap.size w W0 := by subst hW; go_grown
  have hsz0 : w.heap.size + 1 + 1 = W0.heap.size := by subst hW; simp
  rw [hsz0]
  clear hW hsz0
  obtain ⟨x0, x1, x2, x3, x4, x5⟩ := id hx
  go_region_held3 (fun w' => Below W0.heap.size W0 w' ∧ w'.cell? ⟨w.heap.size, 0, none⟩ = some (.int .i64 a) ∧ w'.cell? ⟨w.heap.size, 1, none⟩ = some (.int .i64 b) ∧ w'.cell? ⟨w.heap.size, 2, none⟩ = some (.int .i64 c) ∧ w'.cell? ⟨w.heap.size, 3, none⟩ = some (.int .i64 d) ∧ w'.cell? ⟨w.heap.size, 4, none⟩ = some (.int .i64 n) ∧ w'.cell? ⟨w.heap.size + 1, 0, none⟩ = some (.int .i64 a') ∧ w'.cell? ⟨w.heap.size + 1, 1, none⟩ = some (.int .i64 b') ∧ w'.cell? ⟨w.heap.size + 1, 2, none⟩ = some (.int .i64 c') ∧ w'.cell? ⟨w.heap.size + 1, 3, none⟩ = some (.int .i64 d') ∧ w'.cell? ⟨w.heap.size + 1, 4, none⟩ = some (.int .i64 n')) (exact keep55 hx hy (by go_grown)) (first | (go_at_call 54; refine (multiples_any _ _ _ _ _ _).mono ?_; rintro e w' ⟨rfl, rfl⟩) | (go_at_call 17; refine (HC.out _).mono ?_; rintro e w' ⟨rfl, rfl⟩) | (go_at_call 55; refine (HM.out _ _ (by refine ⟨?_, ?_, ?_, ?_, ?_, ?_⟩ <;> first | (simp [go_sem]; done) | (simp; omega))).mono ?_; rintro e w' ⟨rfl, rfl⟩))
  go_wp2_with (first | (go_at_call 54; refine (multiples_any _ _ _ _ _ _).mono ?_; rintro e w' ⟨rfl, rfl⟩) | (go_at_call 56; refine (HW.out _ _ (by refine ⟨?_, ?_, ?_, ?_, ?_, ?_⟩ <;> first | (simp [go_sem]; done) | (simp; omega))).mono ?_; rintro e w' ⟨rfl, rfl⟩) | (go_at_call 57; refine (HP.out _ _ _ (by refine ⟨?_, ?_, ?_, ?_, ?_, ?_⟩ <;> first | (simp [go_sem]; done) | (simp; omega)) (by refine ⟨?_, ?_, ?_, ?_, ?_, ?_⟩ <;> first | (simp [go_sem]; done) | (simp; omega))).mono ?_; rintro e w' ⟨rfl, rfl⟩))
  refine (term_ok _ _ _ _ _ _ _ (by refine ⟨?_, ?_, ?_, ?_, ?_, ?_⟩ <;> first | (simp [go_sem]; done) | (simp; omega)) H3.out).mono ?_
  rintro e w' ⟨rfl, hb⟩
  obtain ⟨hc, hf⟩ := bcell hb
  obtain ⟨z0, z1, z2, z3, z4, z5⟩ := c5_on (x := W0.heap.size) (a := 0) (b := 0) (c := 0) (d := 0) (n := 0) (by refine ⟨?_, ?_, ?_, ?_, ?_, ?_⟩ <;> first | (simp [go_sem]; done) | (simp; omega)) hb
  have hzz := hb.size
  simp at hzz
  have hbb := below_step (B := W0.heap.size) (w := W0) (by go_grown) hb (by simp; omega)
  go_wp2
  refine bodyPost_ret (v := .tuple #[.agg #[.int .i64 (A + a' * K), .int .i64 (B + b' * K), .int .i64 (C + c' * K), .int .i64 (D + d' * K), .int .i64 (n + n' * K)], .bool true]) (by simp [results, Try.results12, go_sem, z1, z2, z3, z4, z5]) rfl ⟨rfl, ?_⟩
  exact below_on hw0 (by go_grown)

set_option maxHeartbeats 1000000 in
theorem SubstTerm_far (a b c d n v a' b' c' d' n' K A B C D : Int) (w : World) (h1 : tvB a b c d n = true) (h2 : tvB a' b' c' d' n' = true) (hv : 0 ≤ v ∧ v < 4)
    (hK : sel a b c d v 0 = K) (hA : (if v = 0 then 0 else a) = A) (hB : (if v = 1 then 0 else b) = B) (hC : (if v = 2 then 0 else c) = C) (hD : (if v = 3 then 0 else d) = D)
    (h3 : tvB (A + a' * K) (B + b' * K) (C + c' * K) (D + d' * K) (n + n' * K) = false) :
    Calls Try.prog 12 #[.agg #[.int .i64 a, .int .i64 b, .int .i64 c, .int .i64 d, .int .i64 n], .int .i64 v, .agg #[.int .i64 a', .int .i64 b', .int .i64 c', .int .i64 d', .int .i64 n']] w fun e w' => e = .returned (.tuple #[.agg #[.int .i64 0, .int .i64 0, .int .i64 0, .int .i64 0, .int .i64 0], .bool false]) ∧ Below w.heap.size w w' := by
  have q1 := tv_bd h1
  have q2 := tv_bd h2
  have qK := sel_bd (v := v) h1
  rw [hK] at qK
  have qA := drop_bd (v := v) (i := 0) q1.1.1 q1.1.2
  have qB := drop_bd (v := v) (i := 1) q1.2.1.1 q1.2.1.2
  have qC := drop_bd (v := v) (i := 2) q1.2.2.1.1 q1.2.2.1.2
  have qD := drop_bd (v := v) (i := 3) q1.2.2.2.1.1 q1.2.2.2.1.2
  rw [hA] at qA
  rw [hB] at qB
  rw [hC] at qC
  rw [hD] at qD
  have e1 := mul_bd2 q2.1.1 q2.1.2 qK.1 qK.2 (by omega)
  have e2 := mul_bd2 q2.2.1.1 q2.2.1.2 qK.1 qK.2 (by omega)
  have e3 := mul_bd2 q2.2.2.1.1 q2.2.2.1.2 qK.1 qK.2 (by omega)
  have e4 := mul_bd2 q2.2.2.2.1.1 q2.2.2.2.1.2 qK.1 qK.2 (by omega)
  have e5 := mul_bd2 q2.2.2.2.2.1 q2.2.2.2.2.2 qK.1 qK.2 (by omega)
  have H1 := Lib.hid h1
  have H2 := Lib.hid h2
  have H3 := Lib.hid h3
  have HC := Lib.hid fun W => CoefOf_in a b c d n v W hv.1 hv.2
  rw [hK] at HC
  have HV := Lib.hid fun W => isVar_yes v W hv.1 hv.2
  have HW : Hid (∀ bl W, C5 W bl a b c d n → Calls Try.prog 56 #[.slice (some ⟨bl, 0, none⟩) 5 5, .int .i64 v] W fun e w' => e = .returned (.slice (some ⟨W.heap.size, 0, none⟩) 5 5) ∧ W.alloc (.cells #[.int .i64 A, .int .i64 B, .int .i64 C, .int .i64 D, .int .i64 n] 3) = w') := by
    intro bl W hl
    have := without_of a b c d n v bl W hl hv
    rw [hA, hB, hC, hD] at this
    exact this
  have HM : Hid (∀ bl W, C5 W bl a' b' c' d' n' → Calls Try.prog 55 #[.slice (some ⟨bl, 0, none⟩) 5 5, .int .i64 K] W fun e w' => e = .returned (.slice (some ⟨W.heap.size, 0, none⟩) 5 5) ∧ W.alloc (.cells #[.int .i64 (a' * K), .int .i64 (b' * K), .int .i64 (c' * K), .int .i64 (d' * K), .int .i64 (n' * K)] 3) = w') :=
    fun bl W hl => times_of a' b' c' d' n' K bl W hl (by omega)
  have HP : Hid (∀ bl bm W, C5 W bl A B C D n → C5 W bm (a' * K) (b' * K) (c' * K) (d' * K) (n' * K) → Calls Try.prog 57 #[.slice (some ⟨bl, 0, none⟩) 5 5, .slice (some ⟨bm, 0, none⟩) 5 5] W fun e w' => e = .returned (.slice (some ⟨W.heap.size, 0, none⟩) 5 5) ∧ W.alloc (.cells #[.int .i64 (A + a' * K), .int .i64 (B + b' * K), .int .i64 (C + c' * K), .int .i64 (D + d' * K), .int .i64 (n + n' * K)] 3) = w') :=
    fun bl bm W hl hm => plus_of A B C D n (a' * K) (b' * K) (c' * K) (d' * K) (n' * K) bl bm W hl hm (by omega)
  clear h1 h2 h3 hv hK hA hB hC hD q1 q2 qK qA qB qC qD e1 e2 e3 e4 e5
  go_enter Try.func12, Try.ntmps12
  go_wp2_with (first | (go_at_call 40; refine (TermValid_is _ _ _ _ _ true _ (by first | exact H1.out | exact H2.out)).mono ?_; rintro e w' ⟨rfl, rfl⟩) | (go_at_call 53; refine (HV.out _).mono ?_; rintro e w' ⟨rfl, rfl⟩))
  generalize hW : (w.alloc (.cells #[.int .i64 a, .int .i64 b, .int .i64 c, .int .i64 d, .int .i64 n] 24)).alloc (.cells #[.int .i64 a', .int .i64 b', .int .i64 c', .int .i64 d', .int .i64 n'] 24) = W0
  have hx : C5 W0 w.heap.size a b c d n := by subst hW; exact (by refine ⟨?_, ?_, ?_, ?_, ?_, ?_⟩ <;> first | (simp [go_sem]; done) | (simp; omega))
  have hy : C5 W0 (w.heap.size + 1) a' b' c' d' n' := by subst hW; exact (by refine ⟨?_, ?_, ?_, ?_, ?_, ?_⟩ <;> first | (simp [go_sem]; done) | (simp; omega))
  have hw0 : Below w.heap.size w W0 := by subst hW; go_grown
  have hsz0 : w.heap.size + 1 + 1 = W0.heap.size := by subst hW; simp
  rw [hsz0]
  clear hW hsz0
  obtain ⟨x0, x1, x2, x3, x4, x5⟩ := id hx
  go_region_held3 (fun w' => Below W0.heap.size W0 w' ∧ w'.cell? ⟨w.heap.size, 0, none⟩ = some (.int .i64 a) ∧ w'.cell? ⟨w.heap.size, 1, none⟩ = some (.int .i64 b) ∧ w'.cell? ⟨w.heap.size, 2, none⟩ = some (.int .i64 c) ∧ w'.cell? ⟨w.heap.size, 3, none⟩ = some (.int .i64 d) ∧ w'.cell? ⟨w.heap.size, 4, none⟩ = some (.int .i64 n) ∧ w'.cell? ⟨w.heap.size + 1, 0, none⟩ = some (.int .i64 a') ∧ w'.cell? ⟨w.heap.size + 1, 1, none⟩ = some (.int .i64 b') ∧ w'.cell? ⟨w.heap.size + 1, 2, none⟩ = some (.int .i64 c') ∧ w'.cell? ⟨w.heap.size + 1, 3, none⟩ = some (.int .i64 d') ∧ w'.cell? ⟨w.heap.size + 1, 4, none⟩ = some (.int .i64 n')) (exact keep55 hx hy (by go_grown)) (first | (go_at_call 54; refine (multiples_any _ _ _ _ _ _).mono ?_; rintro e w' ⟨rfl, rfl⟩) | (go_at_call 17; refine (HC.out _).mono ?_; rintro e w' ⟨rfl, rfl⟩) | (go_at_call 55; refine (HM.out _ _ (by refine ⟨?_, ?_, ?_, ?_, ?_, ?_⟩ <;> first | (simp [go_sem]; done) | (simp; omega))).mono ?_; rintro e w' ⟨rfl, rfl⟩))
  go_wp2_with (first | (go_at_call 54; refine (multiples_any _ _ _ _ _ _).mono ?_; rintro e w' ⟨rfl, rfl⟩) | (go_at_call 56; refine (HW.out _ _ (by refine ⟨?_, ?_, ?_, ?_, ?_, ?_⟩ <;> first | (simp [go_sem]; done) | (simp; omega))).mono ?_; rintro e w' ⟨rfl, rfl⟩) | (go_at_call 57; refine (HP.out _ _ _ (by refine ⟨?_, ?_, ?_, ?_, ?_, ?_⟩ <;> first | (simp [go_sem]; done) | (simp; omega)) (by refine ⟨?_, ?_, ?_, ?_, ?_, ?_⟩ <;> first | (simp [go_sem]; done) | (simp; omega))).mono ?_; rintro e w' ⟨rfl, rfl⟩))
  refine (term_bad _ _ _ _ _ _ _ (by refine ⟨?_, ?_, ?_, ?_, ?_, ?_⟩ <;> first | (simp [go_sem]; done) | (simp; omega)) H3.out).mono ?_
  rintro e w' ⟨rfl, hb⟩
  obtain ⟨hc, hf⟩ := bcell hb
  obtain ⟨z0, z1, z2, z3, z4, z5⟩ := c5_on (x := W0.heap.size) (a := 0) (b := 0) (c := 0) (d := 0) (n := 0) (by refine ⟨?_, ?_, ?_, ?_, ?_, ?_⟩ <;> first | (simp [go_sem]; done) | (simp; omega)) hb
  have hzz := hb.size
  simp at hzz
  have hbb := below_step (B := W0.heap.size) (w := W0) (by go_grown) hb (by simp; omega)
  go_wp2
  refine bodyPost_ret (v := .tuple #[.agg #[.int .i64 0, .int .i64 0, .int .i64 0, .int .i64 0, .int .i64 0], .bool false]) (by simp [results, Try.results12, go_sem, z1, z2, z3, z4, z5]) rfl ⟨rfl, ?_⟩
  exact below_on hw0 (by go_grown)

set_option maxHeartbeats 400000 in
theorem SubstTerm_bad (a b c d n v a' b' c' d' n' : Int) (w : World) (h : (tvB a b c d n && tvB a' b' c' d' n' && varB v) = false) :
    Calls Try.prog 12 #[.agg #[.int .i64 a, .int .i64 b, .int .i64 c, .int .i64 d, .int .i64 n], .int .i64 v, .agg #[.int .i64 a', .int .i64 b', .int .i64 c', .int .i64 d', .int .i64 n']] w fun e w' => e = .returned (.tuple #[.agg #[.int .i64 0, .int .i64 0, .int .i64 0, .int .i64 0, .int .i64 0], .bool false]) ∧ Below w.heap.size w w' := by
  by_cases h1 : tvB a b c d n = true
  · by_cases h2 : tvB a' b' c' d' n' = true
    · have h3 : varB v = false := by simpa [h1, h2] using h
      have H1 := Lib.hid h1
      have H2 := Lib.hid h2
      have HV := Lib.hid fun W => isVar_no v W (by simp [varB] at h3; omega)
      clear h h1 h2 h3
      go_enter Try.func12, Try.ntmps12
      go_wp2_with (first | (go_at_call 40; refine (TermValid_is _ _ _ _ _ true _ (by first | exact H1.out | exact H2.out)).mono ?_; rintro e w' ⟨rfl, rfl⟩) | (go_at_call 53; refine (HV.out _).mono ?_; rintro e w' ⟨rfl, rfl⟩))
      refine bodyPost_ret (v := .tuple #[.agg #[.int .i64 0, .int .i64 0, .int .i64 0, .int .i64 0, .int .i64 0], .bool false]) (by simp [results, Try.results12, go_sem]) rfl ⟨rfl, ?_⟩
      go_grown
    · have h3 : tvB a' b' c' d' n' = false := by simpa using h2
      have H1 := Lib.hid h1
      have H2 := Lib.hid h3
      clear h h1 h2 h3
      go_enter Try.func12, Try.ntmps12
      go_wp2_with fail
      refine (TermValid_is _ _ _ _ _ true _ H1.out).mono ?_
      rintro e w' ⟨rfl, rfl⟩
      go_wp2_with fail
      refine (TermValid_is _ _ _ _ _ false _ H2.out).mono ?_
      rintro e w' ⟨rfl, rfl⟩
      go_wp2
      refine bodyPost_ret (v := .tuple #[.agg #[.int .i64 0, .int .i64 0, .int .i64 0, .int .i64 0, .int .i64 0], .bool false]) (by simp [results, Try.results12, go_sem]) rfl ⟨rfl, ?_⟩
      go_grown
  · have h2 : tvB a b c d n = false := by simpa using h1
    have H2 := Lib.hid h2
    clear h h1 h2
    go_enter Try.func12, Try.ntmps12
    go_wp2_with (go_at_call 40; refine (TermValid_is _ _ _ _ _ false _ H2.out).mono ?_; rintro e w' ⟨rfl, rfl⟩)
    refine bodyPost_ret (v := .tuple #[.agg #[.int .i64 0, .int .i64 0, .int .i64 0, .int .i64 0, .int .i64 0], .bool false]) (by simp [results, Try.results12, go_sem]) rfl ⟨rfl, ?_⟩
    go_grown

end Go.Proofs.Ytcgolbkpfncgpaa

/- Contracts of the model's l1Result and l1Without. -/
namespace Go.Proofs.Ytcgolbkpfncgpaa
open Go.RowKit

set_option maxHeartbeats 400000 in
theorem l1Result_yes (a b c d n : Int) (w : World) (h : tvB a b c d n = true) :
    Calls Try.prog 61 #[.agg #[.int .i64 a, .int .i64 b, .int .i64 c, .int .i64 d, .int .i64 n], .bool true] w fun e w' => e = .returned (.tuple #[.agg #[.int .i64 a, .int .i64 b, .int .i64 c, .int .i64 d, .int .i64 n], .bool true]) ∧ Below w.heap.size w w' := by
  have H1 := Lib.hid h
  clear h
  go_enter Try.func61, Try.ntmps61
  go_wp2_with (go_at_call 59; refine (specTermValid_is _ _ _ _ _ true _ H1.out).mono ?_; rintro e w' ⟨rfl, rfl⟩)
  refine bodyPost_ret (v := .tuple #[.agg #[.int .i64 a, .int .i64 b, .int .i64 c, .int .i64 d, .int .i64 n], .bool true]) (by simp [results, Try.results61, go_sem]) rfl ⟨rfl, ?_⟩
  go_grown

set_option maxHeartbeats 400000 in
theorem l1Result_far (a b c d n : Int) (w : World) (h : tvB a b c d n = false) :
    Calls Try.prog 61 #[.agg #[.int .i64 a, .int .i64 b, .int .i64 c, .int .i64 d, .int .i64 n], .bool true] w fun e w' => e = .returned (.tuple #[.agg #[.int .i64 0, .int .i64 0, .int .i64 0, .int .i64 0, .int .i64 0], .bool false]) ∧ Below w.heap.size w w' := by
  have H1 := Lib.hid h
  clear h
  go_enter Try.func61, Try.ntmps61
  go_wp2_with (go_at_call 59; refine (specTermValid_is _ _ _ _ _ false _ H1.out).mono ?_; rintro e w' ⟨rfl, rfl⟩)
  refine bodyPost_ret (v := .tuple #[.agg #[.int .i64 0, .int .i64 0, .int .i64 0, .int .i64 0, .int .i64 0], .bool false]) (by simp [results, Try.results61, go_sem]) rfl ⟨rfl, ?_⟩
  go_grown

set_option maxHeartbeats 400000 in
theorem l1Result_no (a b c d n : Int) (w : World) :
    Calls Try.prog 61 #[.agg #[.int .i64 a, .int .i64 b, .int .i64 c, .int .i64 d, .int .i64 n], .bool false] w fun e w' => e = .returned (.tuple #[.agg #[.int .i64 0, .int .i64 0, .int .i64 0, .int .i64 0, .int .i64 0], .bool false]) ∧ Below w.heap.size w w' := by
  go_enter Try.func61, Try.ntmps61
  go_wp2
  refine bodyPost_ret (v := .tuple #[.agg #[.int .i64 0, .int .i64 0, .int .i64 0, .int .i64 0, .int .i64 0], .bool false]) (by simp [results, Try.results61, go_sem]) rfl ⟨rfl, ?_⟩
  go_grown

set_option maxHeartbeats 1000000 in
theorem l1Without_any (a b c d n v : Int) (w : World) (hv : 0 ≤ v ∧ v < 4) :
    Calls Try.prog 63 #[.agg #[.int .i64 a, .int .i64 b, .int .i64 c, .int .i64 d, .int .i64 n], .int .i64 v] w fun e w' => e = .returned (.agg #[.int .i64 (if v = 0 then 0 else a), .int .i64 (if v = 1 then 0 else b), .int .i64 (if v = 2 then 0 else c), .int .i64 (if v = 3 then 0 else d), .int .i64 n]) ∧ Below w.heap.size w w' := by
  have h' : v = 0 ∨ v = 1 ∨ v = 2 ∨ v = 3 := by omega
  clear hv
  rcases h' with rfl | rfl | rfl | rfl
  · go_enter Try.func63, Try.ntmps63
    go_wp2_with (first | (go_at_call 105; refine (l1List_any _ _ _ _ _ _).mono ?_; rintro e w' ⟨rfl, rfl⟩) | (go_at_call 107; refine (l1Term_any 0 b c d n _ _ (by refine ⟨?_, ?_, ?_, ?_, ?_, ?_⟩ <;> first | (simp [go_sem]; done) | (simp; omega))).mono ?_; rintro e w' ⟨rfl, hb⟩; obtain ⟨hc, hf⟩ := bcell hb; have hz := hb.size; simp at hz; have hbb := below_step (B := w.heap.size) (w := w) (by go_grown) hb (by simp; omega)))
    refine bodyPost_ret (v := .agg #[.int .i64 0, .int .i64 b, .int .i64 c, .int .i64 d, .int .i64 n]) (by simp [results, Try.results63, go_sem, hc]) rfl ⟨rfl, ?_⟩
    go_grown
  · go_enter Try.func63, Try.ntmps63
    go_wp2_with (first | (go_at_call 105; refine (l1List_any _ _ _ _ _ _).mono ?_; rintro e w' ⟨rfl, rfl⟩) | (go_at_call 107; refine (l1Term_any a 0 c d n _ _ (by refine ⟨?_, ?_, ?_, ?_, ?_, ?_⟩ <;> first | (simp [go_sem]; done) | (simp; omega))).mono ?_; rintro e w' ⟨rfl, hb⟩; obtain ⟨hc, hf⟩ := bcell hb; have hz := hb.size; simp at hz; have hbb := below_step (B := w.heap.size) (w := w) (by go_grown) hb (by simp; omega)))
    refine bodyPost_ret (v := .agg #[.int .i64 a, .int .i64 0, .int .i64 c, .int .i64 d, .int .i64 n]) (by simp [results, Try.results63, go_sem, hc]) rfl ⟨rfl, ?_⟩
    go_grown
  · go_enter Try.func63, Try.ntmps63
    go_wp2_with (first | (go_at_call 105; refine (l1List_any _ _ _ _ _ _).mono ?_; rintro e w' ⟨rfl, rfl⟩) | (go_at_call 107; refine (l1Term_any a b 0 d n _ _ (by refine ⟨?_, ?_, ?_, ?_, ?_, ?_⟩ <;> first | (simp [go_sem]; done) | (simp; omega))).mono ?_; rintro e w' ⟨rfl, hb⟩; obtain ⟨hc, hf⟩ := bcell hb; have hz := hb.size; simp at hz; have hbb := below_step (B := w.heap.size) (w := w) (by go_grown) hb (by simp; omega)))
    refine bodyPost_ret (v := .agg #[.int .i64 a, .int .i64 b, .int .i64 0, .int .i64 d, .int .i64 n]) (by simp [results, Try.results63, go_sem, hc]) rfl ⟨rfl, ?_⟩
    go_grown
  · go_enter Try.func63, Try.ntmps63
    go_wp2_with (first | (go_at_call 105; refine (l1List_any _ _ _ _ _ _).mono ?_; rintro e w' ⟨rfl, rfl⟩) | (go_at_call 107; refine (l1Term_any a b c 0 n _ _ (by refine ⟨?_, ?_, ?_, ?_, ?_, ?_⟩ <;> first | (simp [go_sem]; done) | (simp; omega))).mono ?_; rintro e w' ⟨rfl, hb⟩; obtain ⟨hc, hf⟩ := bcell hb; have hz := hb.size; simp at hz; have hbb := below_step (B := w.heap.size) (w := w) (by go_grown) hb (by simp; omega)))
    refine bodyPost_ret (v := .agg #[.int .i64 a, .int .i64 b, .int .i64 c, .int .i64 0, .int .i64 n]) (by simp [results, Try.results63, go_sem, hc]) rfl ⟨rfl, ?_⟩
    go_grown

end Go.Proofs.Ytcgolbkpfncgpaa

/- Contracts of the model's SubstTerm. -/
namespace Go.Proofs.Ytcgolbkpfncgpaa
open Go.RowKit

set_option maxHeartbeats 1000000 in
theorem specSubstTerm_ok (a b c d n v a' b' c' d' n' K A B C D : Int) (w : World) (h1 : tvB a b c d n = true) (h2 : tvB a' b' c' d' n' = true) (hv : 0 ≤ v ∧ v < 4)
    (hK : sel a b c d v 0 = K) (hA : (if v = 0 then 0 else a) = A) (hB : (if v = 1 then 0 else b) = B) (hC : (if v = 2 then 0 else c) = C) (hD : (if v = 3 then 0 else d) = D)
    (h3 : tvB (A + a' * K) (B + b' * K) (C + c' * K) (D + d' * K) (n + n' * K) = true) :
    Calls Try.prog 13 #[.agg #[.int .i64 a, .int .i64 b, .int .i64 c, .int .i64 d, .int .i64 n], .int .i64 v, .agg #[.int .i64 a', .int .i64 b', .int .i64 c', .int .i64 d', .int .i64 n']] w fun e w' => e = .returned (.tuple #[.agg #[.int .i64 (A + a' * K), .int .i64 (B + b' * K), .int .i64 (C + c' * K), .int .i64 (D + d' * K), .int .i64 (n + n' * K)], .bool true]) ∧ Below w.heap.size w w' := by
  have q1 := tv_bd h1
  have q2 := tv_bd h2
  have qK := sel_bd (v := v) h1
  rw [hK] at qK
  have qA := drop_bd (v := v) (i := 0) q1.1.1 q1.1.2
  have qB := drop_bd (v := v) (i := 1) q1.2.1.1 q1.2.1.2
  have qC := drop_bd (v := v) (i := 2) q1.2.2.1.1 q1.2.2.1.2
  have qD := drop_bd (v := v) (i := 3) q1.2.2.2.1.1 q1.2.2.2.1.2
  rw [hA] at qA
  rw [hB] at qB
  rw [hC] at qC
  rw [hD] at qD
  have e1 := mul_bd2 q2.1.1 q2.1.2 qK.1 qK.2 (by omega)
  have e2 := mul_bd2 q2.2.1.1 q2.2.1.2 qK.1 qK.2 (by omega)
  have e3 := mul_bd2 q2.2.2.1.1 q2.2.2.1.2 qK.1 qK.2 (by omega)
  have e4 := mul_bd2 q2.2.2.2.1.1 q2.2.2.2.1.2 qK.1 qK.2 (by omega)
  have e5 := mul_bd2 q2.2.2.2.2.1 q2.2.2.2.2.2 qK.1 qK.2 (by omega)
  have hp := fun W => l1Plus_any A B C D n K a' b' c' d' n' W (by rw [Int.mul_comm]; omega) (by rw [Int.mul_comm]; omega) (by rw [Int.mul_comm]; omega) (by rw [Int.mul_comm]; omega) (by rw [Int.mul_comm]; omega) (by omega) (by omega) (by omega) (by omega) (by omega)
  rw [Int.mul_comm K a', Int.mul_comm K b', Int.mul_comm K c', Int.mul_comm K d', Int.mul_comm K n'] at hp
  have HP := Lib.hid hp
  have H1 := Lib.hid h1
  have H2 := Lib.hid h2
  have H3 := Lib.hid h3
  have hc := fun W => specCoefOf_any a b c d n v W
  rw [hK] at hc
  have HC := Lib.hid hc
  have hw := fun W => l1Without_any a b c d n v W hv
  rw [hA, hB, hC, hD] at hw
  have HW := Lib.hid hw
  have HV : Hid (∀ W, Calls Try.prog 60 #[.int .i64 v] W fun e w' => e = .returned (.bool true) ∧ W = w') := fun W => l1Var_is v true W (by simp [varB]; omega)
  clear h1 h2 h3 hv hK hA hB hC hD q1 q2 qK qA qB qC qD e1 e2 e3 e4 e5 hp hc hw
  go_enter Try.func13, Try.ntmps13
  go_wp2_with (first | (go_at_call 59; refine (specTermValid_is _ _ _ _ _ true _ (by first | exact H1.out | exact H2.out)).mono ?_; rintro e w' ⟨rfl, rfl⟩) | (go_at_call 60; refine (HV.out _).mono ?_; rintro e w' ⟨rfl, rfl⟩))
  generalize hW : (w.alloc (.cells #[.int .i64 a, .int .i64 b, .int .i64 c, .int .i64 d, .int .i64 n] 24)).alloc (.cells #[.int .i64 a', .int .i64 b', .int .i64 c', .int .i64 d', .int .i64 n'] 24) = W0
  have hx : C5 W0 w.heap.size a b c d n := by subst hW; exact (by refine ⟨?_, ?_, ?_, ?_, ?_, ?_⟩ <;> first | (simp [go_sem]; done) | (simp; omega))
  have hy : C5 W0 (w.heap.size + 1) a' b' c' d' n' := by subst hW; exact (by refine ⟨?_, ?_, ?_, ?_, ?_, ?_⟩ <;> first | (simp [go_sem]; done) | (simp; omega))
  have hw0 : Below w.heap.size w W0 := by subst hW; go_grown
  have hsz0 : w.heap.size + 1 + 1 = W0.heap.size := by subst hW; simp
  rw [hsz0]
  clear hW hsz0
  generalize hW : ((((((W0.alloc (.cells #[.int .i64 0, .int .i64 0, .int .i64 0, .int .i64 0, .int .i64 0] 24)).alloc (.cells #[.int .i64 a, .int .i64 b, .int .i64 c, .int .i64 d, .int .i64 n] 24)).alloc (.cells #[.int .i64 a, .int .i64 b, .int .i64 c, .int .i64 d, .int .i64 n] 24)).alloc (.cells #[.int .i64 a, .int .i64 b, .int .i64 c, .int .i64 d, .int .i64 n] 3)).alloc (.cells #[.int .i64 a', .int .i64 b', .int .i64 c', .int .i64 d', .int .i64 n'] 24)).alloc (.cells #[.int .i64 a', .int .i64 b', .int .i64 c', .int .i64 d', .int .i64 n'] 24)).alloc (.cells #[.int .i64 a', .int .i64 b', .int .i64 c', .int .i64 d', .int .i64 n'] 3) = W
  have hz : C5 W W0.heap.size 0 0 0 0 0 := by subst hW; exact (by refine ⟨?_, ?_, ?_, ?_, ?_, ?_⟩ <;> first | (simp [go_sem]; done) | (simp; omega))
  have fz0 : Hid (∀ o, W.frozen? ⟨W0.heap.size, o, none⟩ = false) := by intro o; subst hW; simp [go_sem]
  have hWW : Below W0.heap.size W0 W := by subst hW; go_grown
  have hlt : W0.heap.size < W.heap.size := by subst hW; simp only [World.size_alloc]; omega
  clear hW
  go_region_held3 (fun w' => Below W0.heap.size W0 w' ∧ w'.cell? ⟨w.heap.size, 0, none⟩ = some (.int .i64 a) ∧ w'.cell? ⟨w.heap.size, 1, none⟩ = some (.int .i64 b) ∧ w'.cell? ⟨w.heap.size, 2, none⟩ = some (.int .i64 c) ∧ w'.cell? ⟨w.heap.size, 3, none⟩ = some (.int .i64 d) ∧ w'.cell? ⟨w.heap.size, 4, none⟩ = some (.int .i64 n) ∧ w'.cell? ⟨w.heap.size + 1, 0, none⟩ = some (.int .i64 a') ∧ w'.cell? ⟨w.heap.size + 1, 1, none⟩ = some (.int .i64 b') ∧ w'.cell? ⟨w.heap.size + 1, 2, none⟩ = some (.int .i64 c') ∧ w'.cell? ⟨w.heap.size + 1, 3, none⟩ = some (.int .i64 d') ∧ w'.cell? ⟨w.heap.size + 1, 4, none⟩ = some (.int .i64 n')) (exact keep55 hx hy (by go_grown)) (first | (go_at_call 63; refine (HW.out _).mono ?_; rintro e w' ⟨rfl, hb⟩; have hbb := below_on (w := W) (by go_grown) hb; have hb0 := below_on (w := W0) hWW hbb; have hsy : W.heap.size ≤ w'.heap.size := hbb.size; have hsz : W0.heap.size < w'.heap.size := Nat.lt_of_lt_of_le hlt hbb.size) | (go_at_call 64; refine (HC.out _).mono ?_; rintro e w' ⟨rfl, hb⟩; have hbb := below_on (w := W) (by go_grown) hb; have hb0 := below_on (w := W0) hWW hbb; have hsy : W.heap.size ≤ w'.heap.size := hbb.size; have hsz : W0.heap.size < w'.heap.size := Nat.lt_of_lt_of_le hlt hbb.size) | (go_at_call 62; refine (HP.out _).mono ?_; rintro e w' ⟨rfl, hb⟩; have hbb := below_on (w := W) (by go_grown) hb; have hb0 := below_on (w := W0) hWW hbb; have hsy : W.heap.size ≤ w'.heap.size := hbb.size; have hsz : W0.heap.size < w'.heap.size := Nat.lt_of_lt_of_le hlt hbb.size) | (go_at_call 61; refine (l1Result_yes _ _ _ _ _ _ H3.out).mono ?_; rintro e w' ⟨rfl, hb⟩; have hbb := below_on (w := W) (by go_grown) hb; have hb0 := below_on (w := W0) hWW hbb; have hsy : W.heap.size ≤ w'.heap.size := hbb.size; have hsz : W0.heap.size < w'.heap.size := Nat.lt_of_lt_of_le hlt hbb.size; obtain ⟨z0, z1, z2, z3, z4, z5⟩ := c5_on hz hbb; have fz := fz_on hz fz0 hbb))
  all_goals
    go_wp2
    refine bodyPost_ret (v := .tuple #[.agg #[.int .i64 (A + a' * K), .int .i64 (B + b' * K), .int .i64 (C + c' * K), .int .i64 (D + d' * K), .int .i64 (n + n' * K)], .bool true]) (by simp [results, Try.results13, go_sem, z1, z2, z3, z4, z5]) rfl ⟨rfl, ?_⟩
    exact below_on hw0 (by go_grown)

set_option maxHeartbeats 1000000 in
theorem specSubstTerm_far (a b c d n v a' b' c' d' n' K A B C D : Int) (w : World) (h1 : tvB a b c d n = true) (h2 : tvB a' b' c' d' n' = true) (hv : 0 ≤ v ∧ v < 4)
    (hK : sel a b c d v 0 = K) (hA : (if v = 0 then 0 else a) = A) (hB : (if v = 1 then 0 else b) = B) (hC : (if v = 2 then 0 else c) = C) (hD : (if v = 3 then 0 else d) = D)
    (h3 : tvB (A + a' * K) (B + b' * K) (C + c' * K) (D + d' * K) (n + n' * K) = false) :
    Calls Try.prog 13 #[.agg #[.int .i64 a, .int .i64 b, .int .i64 c, .int .i64 d, .int .i64 n], .int .i64 v, .agg #[.int .i64 a', .int .i64 b', .int .i64 c', .int .i64 d', .int .i64 n']] w fun e w' => e = .returned (.tuple #[.agg #[.int .i64 0, .int .i64 0, .int .i64 0, .int .i64 0, .int .i64 0], .bool false]) ∧ Below w.heap.size w w' := by
  have q1 := tv_bd h1
  have q2 := tv_bd h2
  have qK := sel_bd (v := v) h1
  rw [hK] at qK
  have qA := drop_bd (v := v) (i := 0) q1.1.1 q1.1.2
  have qB := drop_bd (v := v) (i := 1) q1.2.1.1 q1.2.1.2
  have qC := drop_bd (v := v) (i := 2) q1.2.2.1.1 q1.2.2.1.2
  have qD := drop_bd (v := v) (i := 3) q1.2.2.2.1.1 q1.2.2.2.1.2
  rw [hA] at qA
  rw [hB] at qB
  rw [hC] at qC
  rw [hD] at qD
  have e1 := mul_bd2 q2.1.1 q2.1.2 qK.1 qK.2 (by omega)
  have e2 := mul_bd2 q2.2.1.1 q2.2.1.2 qK.1 qK.2 (by omega)
  have e3 := mul_bd2 q2.2.2.1.1 q2.2.2.1.2 qK.1 qK.2 (by omega)
  have e4 := mul_bd2 q2.2.2.2.1.1 q2.2.2.2.1.2 qK.1 qK.2 (by omega)
  have e5 := mul_bd2 q2.2.2.2.2.1 q2.2.2.2.2.2 qK.1 qK.2 (by omega)
  have hp := fun W => l1Plus_any A B C D n K a' b' c' d' n' W (by rw [Int.mul_comm]; omega) (by rw [Int.mul_comm]; omega) (by rw [Int.mul_comm]; omega) (by rw [Int.mul_comm]; omega) (by rw [Int.mul_comm]; omega) (by omega) (by omega) (by omega) (by omega) (by omega)
  rw [Int.mul_comm K a', Int.mul_comm K b', Int.mul_comm K c', Int.mul_comm K d', Int.mul_comm K n'] at hp
  have HP := Lib.hid hp
  have H1 := Lib.hid h1
  have H2 := Lib.hid h2
  have H3 := Lib.hid h3
  have hc := fun W => specCoefOf_any a b c d n v W
  rw [hK] at hc
  have HC := Lib.hid hc
  have hw := fun W => l1Without_any a b c d n v W hv
  rw [hA, hB, hC, hD] at hw
  have HW := Lib.hid hw
  have HV : Hid (∀ W, Calls Try.prog 60 #[.int .i64 v] W fun e w' => e = .returned (.bool true) ∧ W = w') := fun W => l1Var_is v true W (by simp [varB]; omega)
  clear h1 h2 h3 hv hK hA hB hC hD q1 q2 qK qA qB qC qD e1 e2 e3 e4 e5 hp hc hw
  go_enter Try.func13, Try.ntmps13
  go_wp2_with (first | (go_at_call 59; refine (specTermValid_is _ _ _ _ _ true _ (by first | exact H1.out | exact H2.out)).mono ?_; rintro e w' ⟨rfl, rfl⟩) | (go_at_call 60; refine (HV.out _).mono ?_; rintro e w' ⟨rfl, rfl⟩))
  generalize hW : (w.alloc (.cells #[.int .i64 a, .int .i64 b, .int .i64 c, .int .i64 d, .int .i64 n] 24)).alloc (.cells #[.int .i64 a', .int .i64 b', .int .i64 c', .int .i64 d', .int .i64 n'] 24) = W0
  have hx : C5 W0 w.heap.size a b c d n := by subst hW; exact (by refine ⟨?_, ?_, ?_, ?_, ?_, ?_⟩ <;> first | (simp [go_sem]; done) | (simp; omega))
  have hy : C5 W0 (w.heap.size + 1) a' b' c' d' n' := by subst hW; exact (by refine ⟨?_, ?_, ?_, ?_, ?_, ?_⟩ <;> first | (simp [go_sem]; done) | (simp; omega))
  have hw0 : Below w.heap.size w W0 := by subst hW; go_grown
  have hsz0 : w.heap.size + 1 + 1 = W0.heap.size := by subst hW; simp
  rw [hsz0]
  clear hW hsz0
  generalize hW : ((((((W0.alloc (.cells #[.int .i64 0, .int .i64 0, .int .i64 0, .int .i64 0, .int .i64 0] 24)).alloc (.cells #[.int .i64 a, .int .i64 b, .int .i64 c, .int .i64 d, .int .i64 n] 24)).alloc (.cells #[.int .i64 a, .int .i64 b, .int .i64 c, .int .i64 d, .int .i64 n] 24)).alloc (.cells #[.int .i64 a, .int .i64 b, .int .i64 c, .int .i64 d, .int .i64 n] 3)).alloc (.cells #[.int .i64 a', .int .i64 b', .int .i64 c', .int .i64 d', .int .i64 n'] 24)).alloc (.cells #[.int .i64 a', .int .i64 b', .int .i64 c', .int .i64 d', .int .i64 n'] 24)).alloc (.cells #[.int .i64 a', .int .i64 b', .int .i64 c', .int .i64 d', .int .i64 n'] 3) = W
  have hz : C5 W W0.heap.size 0 0 0 0 0 := by subst hW; exact (by refine ⟨?_, ?_, ?_, ?_, ?_, ?_⟩ <;> first | (simp [go_sem]; done) | (simp; omega))
  have fz0 : Hid (∀ o, W.frozen? ⟨W0.heap.size, o, none⟩ = false) := by intro o; subst hW; simp [go_sem]
  have hWW : Below W0.heap.size W0 W := by subst hW; go_grown
  have hlt : W0.heap.size < W.heap.size := by subst hW; simp only [World.size_alloc]; omega
  clear hW
  go_region_held3 (fun w' => Below W0.heap.size W0 w' ∧ w'.cell? ⟨w.heap.size, 0, none⟩ = some (.int .i64 a) ∧ w'.cell? ⟨w.heap.size, 1, none⟩ = some (.int .i64 b) ∧ w'.cell? ⟨w.heap.size, 2, none⟩ = some (.int .i64 c) ∧ w'.cell? ⟨w.heap.size, 3, none⟩ = some (.int .i64 d) ∧ w'.cell? ⟨w.heap.size, 4, none⟩ = some (.int .i64 n) ∧ w'.cell? ⟨w.heap.size + 1, 0, none⟩ = some (.int .i64 a') ∧ w'.cell? ⟨w.heap.size + 1, 1, none⟩ = some (.int .i64 b') ∧ w'.cell? ⟨w.heap.size + 1, 2, none⟩ = some (.int .i64 c') ∧ w'.cell? ⟨w.heap.size + 1, 3, none⟩ = some (.int .i64 d') ∧ w'.cell? ⟨w.heap.size + 1, 4, none⟩ = some (.int .i64 n')) (exact keep55 hx hy (by go_grown)) (first | (go_at_call 63; refine (HW.out _).mono ?_; rintro e w' ⟨rfl, hb⟩; have hbb := below_on (w := W) (by go_grown) hb; have hb0 := below_on (w := W0) hWW hbb; have hsy : W.heap.size ≤ w'.heap.size := hbb.size; have hsz : W0.heap.size < w'.heap.size := Nat.lt_of_lt_of_le hlt hbb.size) | (go_at_call 64; refine (HC.out _).mono ?_; rintro e w' ⟨rfl, hb⟩; have hbb := below_on (w := W) (by go_grown) hb; have hb0 := below_on (w := W0) hWW hbb; have hsy : W.heap.size ≤ w'.heap.size := hbb.size; have hsz : W0.heap.size < w'.heap.size := Nat.lt_of_lt_of_le hlt hbb.size) | (go_at_call 62; refine (HP.out _).mono ?_; rintro e w' ⟨rfl, hb⟩; have hbb := below_on (w := W) (by go_grown) hb; have hb0 := below_on (w := W0) hWW hbb; have hsy : W.heap.size ≤ w'.heap.size := hbb.size; have hsz : W0.heap.size < w'.heap.size := Nat.lt_of_lt_of_le hlt hbb.size) | (go_at_call 61; refine (l1Result_far _ _ _ _ _ _ H3.out).mono ?_; rintro e w' ⟨rfl, hb⟩; have hbb := below_on (w := W) (by go_grown) hb; have hb0 := below_on (w := W0) hWW hbb; have hsy : W.heap.size ≤ w'.heap.size := hbb.size; have hsz : W0.heap.size < w'.heap.size := Nat.lt_of_lt_of_le hlt hbb.size; obtain ⟨z0, z1, z2, z3, z4, z5⟩ := c5_on hz hbb; have fz := fz_on hz fz0 hbb))
  all_goals
    go_wp2
    refine bodyPost_ret (v := .tuple #[.agg #[.int .i64 0, .int .i64 0, .int .i64 0, .int .i64 0, .int .i64 0], .bool false]) (by simp [results, Try.results13, go_sem, z1, z2, z3, z4, z5]) rfl ⟨rfl, ?_⟩
    exact below_on hw0 (by go_grown)

set_option maxHeartbeats 400000 in
theorem specSubstTerm_bad (a b c d n v a' b' c' d' n' : Int) (w : World) (h : (tvB a b c d n && tvB a' b' c' d' n' && varB v) = false) :
    Calls Try.prog 13 #[.agg #[.int .i64 a, .int .i64 b, .int .i64 c, .int .i64 d, .int .i64 n], .int .i64 v, .agg #[.int .i64 a', .int .i64 b', .int .i64 c', .int .i64 d', .int .i64 n']] w fun e w' => e = .returned (.tuple #[.agg #[.int .i64 0, .int .i64 0, .int .i64 0, .int .i64 0, .int .i64 0], .bool false]) ∧ Below w.heap.size w w' := by
  by_cases h1 : tvB a b c d n = true
  · by_cases h2 : tvB a' b' c' d' n' = true
    · have h3 : varB v = false := by simpa [h1, h2] using h
      have H1 := Lib.hid h1
      have H2 := Lib.hid h2
      have HV := Lib.hid fun W => l1Var_is v false W h3
      clear h h1 h2 h3
      go_enter Try.func13, Try.ntmps13
      go_wp2_with (first | (go_at_call 59; refine (specTermValid_is _ _ _ _ _ true _ (by first | exact H1.out | exact H2.out)).mono ?_; rintro e w' ⟨rfl, rfl⟩) | (go_at_call 60; refine (HV.out _).mono ?_; rintro e w' ⟨rfl, rfl⟩))
      refine bodyPost_ret (v := .tuple #[.agg #[.int .i64 0, .int .i64 0, .int .i64 0, .int .i64 0, .int .i64 0], .bool false]) (by simp [results, Try.results13, go_sem]) rfl ⟨rfl, ?_⟩
      go_grown
    · have h3 : tvB a' b' c' d' n' = false := by simpa using h2
      have H1 := Lib.hid h1
      have H2 := Lib.hid h3
      clear h h1 h2 h3
      go_enter Try.func13, Try.ntmps13
      go_wp2_with fail
      refine (specTermValid_is _ _ _ _ _ true _ H1.out).mono ?_
      rintro e w' ⟨rfl, rfl⟩
      go_wp2_with fail
      refine (specTermValid_is _ _ _ _ _ false _ H2.out).mono ?_
      rintro e w' ⟨rfl, rfl⟩
      go_wp2
      refine bodyPost_ret (v := .tuple #[.agg #[.int .i64 0, .int .i64 0, .int .i64 0, .int .i64 0, .int .i64 0], .bool false]) (by simp [results, Try.results13, go_sem]) rfl ⟨rfl, ?_⟩
      go_grown
  · have h2 : tvB a b c d n = false := by simpa using h1
    have H2 := Lib.hid h2
    clear h h1 h2
    go_enter Try.func13, Try.ntmps13
    go_wp2_with (go_at_call 59; refine (specTermValid_is _ _ _ _ _ false _ H2.out).mono ?_; rintro e w' ⟨rfl, rfl⟩)
    refine bodyPost_ret (v := .tuple #[.agg #[.int .i64 0, .int .i64 0, .int .i64 0, .int .i64 0, .int .i64 0], .bool false]) (by simp [results, Try.results13, go_sem]) rfl ⟨rfl, ?_⟩
    go_grown

end Go.Proofs.Ytcgolbkpfncgpaa

/- What a statement that calls and keeps two results leaves behind. -/
namespace Go.Proofs.Ytcgolbkpfncgpaa
open Go.RowKit

/-- What a statement 'r, ok := f(..)' leaves: r in a box that is newer than W0, and nothing of W0 has turned. -/
def ResAt (W0 : World) (r0 r1 r2 r3 r4 : Int) (ok : Bool) (p q : Value) (W : World) : Prop :=
  ∃ z, p = .pointer (some ⟨z, 0, none⟩) ∧ q = .bool ok ∧ C5 W z r0 r1 r2 r3 r4 ∧ Below W0.heap.size W0 W

theorem c5_new {w : World} {r0 r1 r2 r3 r4 : Int} {t : TypeId} : C5 (w.alloc (.cells #[.int .i64 r0, .int .i64 r1, .int .i64 r2, .int .i64 r3, .int .i64 r4] t)) w.heap.size r0 r1 r2 r3 r4 := by
  refine ⟨?_, ?_, ?_, ?_, ?_, ?_⟩ <;> simp [go_sem]

theorem c5_set {w : World} {z : Nat} {c0 c1 c2 c3 c4 r0 r1 r2 r3 r4 : Int} (h : C5 w z c0 c1 c2 c3 c4) : C5 (put5 w z (.int .i64 r0) (.int .i64 r1) (.int .i64 r2) (.int .i64 r3) (.int .i64 r4)) z r0 r1 r2 r3 r4 := by
  obtain ⟨g, g0, g1, g2, g3, g4⟩ := h
  refine c5_of ⟨?_, ?_, ?_, ?_, ?_⟩ <;> unfold put5 <;> simp [go_sem, *]

theorem c5_set2 {Wc w : World} {z : Nat} {c0 c1 c2 c3 c4 r0 r1 r2 r3 r4 : Int} (hb : Below Wc.heap.size Wc w) (h : C5 Wc z c0 c1 c2 c3 c4) :
    C5 (((((w.setCell ⟨z, 0, none⟩ (.int .i64 r0)).setCell ⟨z, 1, none⟩ (.int .i64 r1)).setCell ⟨z, 2, none⟩ (.int .i64 r2)).setCell ⟨z, 3, none⟩ (.int .i64 r3)).setCell ⟨z, 4, none⟩ (.int .i64 r4)) z r0 r1 r2 r3 r4 :=
  c5_set (c5_on h hb)

end Go.Proofs.Ytcgolbkpfncgpaa

/- Contracts of SubstAtom of the program and of the model; the walk of the law that says that they agree. -/
namespace Go.Proofs.Ytcgolbkpfncgpaa
open Go.RowKit

set_option maxHeartbeats 2000000 in
theorem SubstAtom_yes (k m a b c d n v a' b' c' d' n' x0 x1 x2 x3 x4 : Int) (w : World) (h : avB k m a b c d n = true)
    (HT : Hid (∀ W, Calls Try.prog 12 #[.agg #[.int .i64 a, .int .i64 b, .int .i64 c, .int .i64 d, .int .i64 n], .int .i64 v, .agg #[.int .i64 a', .int .i64 b', .int .i64 c', .int .i64 d', .int .i64 n']] W fun e w' => e = .returned (.tuple #[.agg #[.int .i64 x0, .int .i64 x1, .int .i64 x2, .int .i64 x3, .int .i64 x4], .bool true]) ∧ Below W.heap.size W w')) :
    Calls Try.prog 22 #[.agg #[.int .i64 k, .int .i64 m, .int .i64 a, .int .i64 b, .int .i64 c, .int .i64 d, .int .i64 n], .int .i64 v, .agg #[.int .i64 a', .int .i64 b', .int .i64 c', .int .i64 d', .int .i64 n']] w fun e w' => e = .returned (.tuple #[.agg #[.int .i64 k, .int .i64 m, .int .i64 x0, .int .i64 x1, .int .i64 x2, .int .i64 x3, .int .i64 x4], .bool true]) ∧ Below w.heap.size w w' := by
  have HV := Lib.hid h
  clear h
  go_enter Try.func22, Try.ntmps22
  go_wp2_with fail
  generalize hW : ((w.alloc (.cells #[.int .i64 k, .int .i64 m, .int .i64 a, .int .i64 b, .int .i64 c, .int .i64 d, .int .i64 n] 44)).alloc (.cells #[.int .i64 a', .int .i64 b', .int .i64 c', .int .i64 d', .int .i64 n'] 24)).alloc (.cells #[.int .i64 0, .int .i64 0, .int .i64 0, .int .i64 0, .int .i64 0, .int .i64 0, .int .i64 0] 44) = W
  have hx : C7 W w.heap.size k m a b c d n := by subst hW; exact (by refine ⟨?_, ?_, ?_, ?_, ?_, ?_, ?_, ?_⟩ <;> first | (simp [go_sem]; done) | (simp; omega))
  have hz : C7 W (w.heap.size + 1 + 1) 0 0 0 0 0 0 0 := by subst hW; exact (by refine ⟨?_, ?_, ?_, ?_, ?_, ?_, ?_, ?_⟩ <;> first | (simp [go_sem]; done) | (simp; omega))
  have fx : Hid (∀ o, W.frozen? ⟨w.heap.size, o, none⟩ = false) := by intro o; subst hW; simp [go_sem]
  have fz : Hid (∀ o, W.frozen? ⟨w.heap.size + 1 + 1, o, none⟩ = false) := by intro o; subst hW; simp [go_sem]
  have hb0 : Below w.heap.size w W := by subst hW; go_grown
  clear hW
  refine (HT.out _).mono ?_
  rintro e w1 ⟨rfl, hb1⟩
  obtain ⟨q0, q1, q2, q3, q4, q5, q6, q7⟩ := c7_on hx hb1
  go_wp2_with fail
  generalize hW2 : w1.alloc (.cells #[.int .i64 x0, .int .i64 x1, .int .i64 x2, .int .i64 x3, .int .i64 x4] 24) = W2
  have ht2 : C5 W2 w1.heap.size x0 x1 x2 x3 x4 := by subst hW2; exact (by refine ⟨?_, ?_, ?_, ?_, ?_, ?_⟩ <;> first | (simp [go_sem]; done) | (simp; omega))
  have hbW2 : Below W.heap.size W W2 := below_on hb1 (by subst hW2; go_grown)
  clear hW2
  refine (AtomValid_is _ _ _ _ _ _ _ true _ HV.out).mono ?_
  rintro e w2 ⟨rfl, hb2⟩
  have hb12 := below_on hbW2 hb2
  obtain ⟨t0, t1, t2, t3, t4, t5⟩ := c5_on ht2 hb2
  clear q0 q1 q2 q3 q4 q5 q6 q7
  obtain ⟨q0, q1, q2, q3, q4, q5, q6, q7⟩ := c7_on hx hb12
  have hzz := c7_on hz hb12
  have fzz : Hid (∀ o, w2.frozen? ⟨w.heap.size + 1 + 1, o, none⟩ = false) := fz7_on hz.1 fz hb12
  have fx1 := fz7_on hx.1 fx hb12
  have hbw1 := below_on hb0 hb12
  go_upto_region 5 with fail
  generalize hW3 : World.setCell _ _ _ = W3
  have hx3 : C7 W3 w.heap.size k m x0 x1 x2 x3 x4 := by subst hW3; refine ⟨?_, ?_, ?_, ?_, ?_, ?_, ?_, ?_⟩ <;> first | (simp [go_sem, *]; done) | (simp [World.setCell]; omega)
  have hz3 : C7 W3 (w.heap.size + 1 + 1) 0 0 0 0 0 0 0 := by
    obtain ⟨z0, z1, z2, z3, z4, z5, z6, z7⟩ := hzz
    subst hW3; refine ⟨?_, ?_, ?_, ?_, ?_, ?_, ?_, ?_⟩ <;> first | (simp [go_sem, *]; done) | (simp [World.setCell]; omega)
  have fz3 : ∀ o, W3.frozen? ⟨w.heap.size + 1 + 1, o, none⟩ = false := by intro o; subst hW3; simp [go_sem, fzz.out]
  have hb3 : Below w.heap.size w W3 := by subst hW3; go_grown
  clear hW3 q0 q1 q2 q3 q4 q5 q6 q7 t0 t1 t2 t3 t4 t5 fx1 hbw1 hzz fzz hx hz ht2 hb2 hb12 hbW2 hb1 hb0
  obtain ⟨q0, q1, q2, q3, q4, q5, q6, q7⟩ := hx3
  obtain ⟨z0, z1, z2, z3, z4, z5, z6, z7⟩ := hz3
  go_wp2
  refine bodyPost_ret (v := .tuple #[.agg #[.int .i64 k, .int .i64 m, .int .i64 x0, .int .i64 x1, .int .i64 x2, .int .i64 x3, .int .i64 x4], .bool true]) (by simp [results, Try.results22, go_sem, z1, z2, z3, z4, z5, z6, z7]) rfl ⟨rfl, ?_⟩
  go_grown

set_option maxHeartbeats 2000000 in
theorem SubstAtom_off (k m a b c d n v a' b' c' d' n' x0 x1 x2 x3 x4 : Int) (w : World) (h : avB k m a b c d n = false)
    (HT : Hid (∀ W, Calls Try.prog 12 #[.agg #[.int .i64 a, .int .i64 b, .int .i64 c, .int .i64 d, .int .i64 n], .int .i64 v, .agg #[.int .i64 a', .int .i64 b', .int .i64 c', .int .i64 d', .int .i64 n']] W fun e w' => e = .returned (.tuple #[.agg #[.int .i64 x0, .int .i64 x1, .int .i64 x2, .int .i64 x3, .int .i64 x4], .bool true]) ∧ Below W.heap.size W w')) :
    Calls Try.prog 22 #[.agg #[.int .i64 k, .int .i64 m, .int .i64 a, .int .i64 b, .int .i64 c, .int .i64 d, .int .i64 n], .int .i64 v, .agg #[.int .i64 a', .int .i64 b', .int .i64 c', .int .i64 d', .int .i64 n']] w fun e w' => e = .returned (.tuple #[.agg #[.int .i64 0, .int .i64 0, .int .i64 0, .int .i64 0, .int .i64 0, .int .i64 0, .int .i64 0], .bool false]) ∧ Below w.heap.size w w' := by
  have HV := Lib.hid h
  clear h
  go_enter Try.func22, Try.ntmps22
  go_wp2_with fail
  generalize hW : ((w.alloc (.cells #[.int .i64 k, .int .i64 m, .int .i64 a, .int .i64 b, .int .i64 c, .int .i64 d, .int .i64 n] 44)).alloc (.cells #[.int .i64 a', .int .i64 b', .int .i64 c', .int .i64 d', .int .i64 n'] 24)).alloc (.cells #[.int .i64 0, .int .i64 0, .int .i64 0, .int .i64 0, .int .i64 0, .int .i64 0, .int .i64 0] 44) = W
  have hx : C7 W w.heap.size k m a b c d n := by subst hW; exact (by refine ⟨?_, ?_, ?_, ?_, ?_, ?_, ?_, ?_⟩ <;> first | (simp [go_sem]; done) | (simp; omega))
  have hz : C7 W (w.heap.size + 1 + 1) 0 0 0 0 0 0 0 := by subst hW; exact (by refine ⟨?_, ?_, ?_, ?_, ?_, ?_, ?_, ?_⟩ <;> first | (simp [go_sem]; done) | (simp; omega))
  have fx : Hid (∀ o, W.frozen? ⟨w.heap.size, o, none⟩ = false) := by intro o; subst hW; simp [go_sem]
  have fz : Hid (∀ o, W.frozen? ⟨w.heap.size + 1 + 1, o, none⟩ = false) := by intro o; subst hW; simp [go_sem]
  have hb0 : Below w.heap.size w W := by subst hW; go_grown
  clear hW
  refine (HT.out _).mono ?_
  rintro e w1 ⟨rfl, hb1⟩
  obtain ⟨q0, q1, q2, q3, q4, q5, q6, q7⟩ := c7_on hx hb1
  go_wp2_with fail
  generalize hW2 : w1.alloc (.cells #[.int .i64 x0, .int .i64 x1, .int .i64 x2, .int .i64 x3, .int .i64 x4] 24) = W2
  have ht2 : C5 W2 w1.heap.size x0 x1 x2 x3 x4 := by subst hW2; exact (by refine ⟨?_, ?_, ?_, ?_, ?_, ?_⟩ <;> first | (simp [go_sem]; done) | (simp; omega))
  have hbW2 : Below W.heap.size W W2 := below_on hb1 (by subst hW2; go_grown)
  clear hW2
  refine (AtomValid_is _ _ _ _ _ _ _ false _ HV.out).mono ?_
  rintro e w2 ⟨rfl, hb2⟩
  have hb12 := below_on hbW2 hb2
  obtain ⟨t0, t1, t2, t3, t4, t5⟩ := c5_on ht2 hb2
  clear q0 q1 q2 q3 q4 q5 q6 q7
  obtain ⟨q0, q1, q2, q3, q4, q5, q6, q7⟩ := c7_on hx hb12
  obtain ⟨z0, z1, z2, z3, z4, z5, z6, z7⟩ := c7_on hz hb12
  have fz1 := fz7_on hz.1 fz hb12
  have fx1 := fz7_on hx.1 fx hb12
  have hbw1 := below_on hb0 hb12
  go_wp2
  refine bodyPost_ret (v := .tuple #[.agg #[.int .i64 0, .int .i64 0, .int .i64 0, .int .i64 0, .int .i64 0, .int .i64 0, .int .i64 0], .bool false]) (by simp [results, Try.results22, go_sem, z1, z2, z3, z4, z5, z6, z7]) rfl ⟨rfl, ?_⟩
  go_grown

set_option maxHeartbeats 2000000 in
theorem SubstAtom_no (k m a b c d n v a' b' c' d' n' x0 x1 x2 x3 x4 : Int) (w : World)
    (HT : Hid (∀ W, Calls Try.prog 12 #[.agg #[.int .i64 a, .int .i64 b, .int .i64 c, .int .i64 d, .int .i64 n], .int .i64 v, .agg #[.int .i64 a', .int .i64 b', .int .i64 c', .int .i64 d', .int .i64 n']] W fun e w' => e = .returned (.tuple #[.agg #[.int .i64 x0, .int .i64 x1, .int .i64 x2, .int .i64 x3, .int .i64 x4], .bool false]) ∧ Below W.heap.size W w')) :
    Calls Try.prog 22 #[.agg #[.int .i64 k, .int .i64 m, .int .i64 a, .int .i64 b, .int .i64 c, .int .i64 d, .int .i64 n], .int .i64 v, .agg #[.int .i64 a', .int .i64 b', .int .i64 c', .int .i64 d', .int .i64 n']] w fun e w' => e = .returned (.tuple #[.agg #[.int .i64 0, .int .i64 0, .int .i64 0, .int .i64 0, .int .i64 0, .int .i64 0, .int .i64 0], .bool false]) ∧ Below w.heap.size w w' := by
  go_enter Try.func22, Try.ntmps22
  go_wp2_with fail
  generalize hW : ((w.alloc (.cells #[.int .i64 k, .int .i64 m, .int .i64 a, .int .i64 b, .int .i64 c, .int .i64 d, .int .i64 n] 44)).alloc (.cells #[.int .i64 a', .int .i64 b', .int .i64 c', .int .i64 d', .int .i64 n'] 24)).alloc (.cells #[.int .i64 0, .int .i64 0, .int .i64 0, .int .i64 0, .int .i64 0, .int .i64 0, .int .i64 0] 44) = W
  have hx : C7 W w.heap.size k m a b c d n := by subst hW; exact (by refine ⟨?_, ?_, ?_, ?_, ?_, ?_, ?_, ?_⟩ <;> first | (simp [go_sem]; done) | (simp; omega))
  have hz : C7 W (w.heap.size + 1 + 1) 0 0 0 0 0 0 0 := by subst hW; exact (by refine ⟨?_, ?_, ?_, ?_, ?_, ?_, ?_, ?_⟩ <;> first | (simp [go_sem]; done) | (simp; omega))
  have fx : Hid (∀ o, W.frozen? ⟨w.heap.size, o, none⟩ = false) := by intro o; subst hW; simp [go_sem]
  have fz : Hid (∀ o, W.frozen? ⟨w.heap.size + 1 + 1, o, none⟩ = false) := by intro o; subst hW; simp [go_sem]
  have hb0 : Below w.heap.size w W := by subst hW; go_grown
  clear hW
  refine (HT.out _).mono ?_
  rintro e w1 ⟨rfl, hb1⟩
  obtain ⟨q0, q1, q2, q3, q4, q5, q6, q7⟩ := c7_on hx hb1
  go_upto_region 3 with fail
  generalize hW2 : w1.alloc _ = W2
  have hb12 : Below W.heap.size W W2 := below_on hb1 (by subst hW2; go_grown)
  clear hW2 hb1 q0 q1 q2 q3 q4 q5 q6 q7
  obtain ⟨z0, z1, z2, z3, z4, z5, z6, z7⟩ := c7_on hz hb12
  have fz1 := fz7_on hz.1 fz hb12
  have fx1 := fz7_on hx.1 fx hb12
  have hbw1 := below_on hb0 hb12
  go_wp2
  refine bodyPost_ret (v := .tuple #[.agg #[.int .i64 0, .int .i64 0, .int .i64 0, .int .i64 0, .int .i64 0, .int .i64 0, .int .i64 0], .bool false]) (by simp [results, Try.results22, go_sem, z1, z2, z3, z4, z5, z6, z7]) rfl ⟨rfl, ?_⟩
  go_grown

set_option maxHeartbeats 2000000 in
theorem specSubstAtom_yes (k m a b c d n v a' b' c' d' n' x0 x1 x2 x3 x4 : Int) (w : World) (h : avB k m a b c d n = true)
    (HT : Hid (∀ W, Calls Try.prog 13 #[.agg #[.int .i64 a, .int .i64 b, .int .i64 c, .int .i64 d, .int .i64 n], .int .i64 v, .agg #[.int .i64 a', .int .i64 b', .int .i64 c', .int .i64 d', .int .i64 n']] W fun e w' => e = .returned (.tuple #[.agg #[.int .i64 x0, .int .i64 x1, .int .i64 x2, .int .i64 x3, .int .i64 x4], .bool true]) ∧ Below W.heap.size W w')) :
    Calls Try.prog 20 #[.agg #[.int .i64 k, .int .i64 m, .int .i64 a, .int .i64 b, .int .i64 c, .int .i64 d, .int .i64 n], .int .i64 v, .agg #[.int .i64 a', .int .i64 b', .int .i64 c', .int .i64 d', .int .i64 n']] w fun e w' => e = .returned (.tuple #[.agg #[.int .i64 k, .int .i64 m, .int .i64 x0, .int .i64 x1, .int .i64 x2, .int .i64 x3, .int .i64 x4], .bool true]) ∧ Below w.heap.size w w' := by
  have HV := Lib.hid h
  clear h
  go_enter Try.func20, Try.ntmps20
  go_wp2_with fail
  generalize hW : ((w.alloc (.cells #[.int .i64 k, .int .i64 m, .int .i64 a, .int .i64 b, .int .i64 c, .int .i64 d, .int .i64 n] 44)).alloc (.cells #[.int .i64 a', .int .i64 b', .int .i64 c', .int .i64 d', .int .i64 n'] 24)).alloc (.cells #[.int .i64 0, .int .i64 0, .int .i64 0, .int .i64 0, .int .i64 0, .int .i64 0, .int .i64 0] 44) = W
  have hx : C7 W w.heap.size k m a b c d n := by subst hW; exact (by refine ⟨?_, ?_, ?_, ?_, ?_, ?_, ?_, ?_⟩ <;> first | (simp [go_sem]; done) | (simp; omega))
  have hz : C7 W (w.heap.size + 1 + 1) 0 0 0 0 0 0 0 := by subst hW; exact (by refine ⟨?_, ?_, ?_, ?_, ?_, ?_, ?_, ?_⟩ <;> first | (simp [go_sem]; done) | (simp; omega))
  have fx : Hid (∀ o, W.frozen? ⟨w.heap.size, o, none⟩ = false) := by intro o; subst hW; simp [go_sem]
  have fz : Hid (∀ o, W.frozen? ⟨w.heap.size + 1 + 1, o, none⟩ = false) := by intro o; subst hW; simp [go_sem]
  have hb0 : Below w.heap.size w W := by subst hW; go_grown
  clear hW
  refine (HT.out _).mono ?_
  rintro e w1 ⟨rfl, hb1⟩
  obtain ⟨q0, q1, q2, q3, q4, q5, q6, q7⟩ := c7_on hx hb1
  go_wp2_with fail
  generalize hW2 : w1.alloc (.cells #[.int .i64 x0, .int .i64 x1, .int .i64 x2, .int .i64 x3, .int .i64 x4] 24) = W2
  have ht2 : C5 W2 w1.heap.size x0 x1 x2 x3 x4 := by subst hW2; exact (by refine ⟨?_, ?_, ?_, ?_, ?_, ?_⟩ <;> first | (simp [go_sem]; done) | (simp; omega))
  have hbW2 : Below W.heap.size W W2 := below_on hb1 (by subst hW2; go_grown)
  clear hW2
  refine (specAtomValid_is _ _ _ _ _ _ _ true _ HV.out).mono ?_
  rintro e w2 ⟨rfl, hb2⟩
  have hb12 := below_on hbW2 hb2
  obtain ⟨t0, t1, t2, t3, t4, t5⟩ := c5_on ht2 hb2
  clear q0 q1 q2 q3 q4 q5 q6 q7
  obtain ⟨q0, q1, q2, q3, q4, q5, q6, q7⟩ := c7_on hx hb12
  obtain ⟨z0, z1, z2, z3, z4, z5, z6, z7⟩ := c7_on hz hb12
  have fz1 := fz7_on hz.1 fz hb12
  have fx1 := fz7_on hx.1 fx hb12
  have hbw1 := below_on hb0 hb12
  go_wp2
  refine bodyPost_ret (v := .tuple #[.agg #[.int .i64 k, .int .i64 m, .int .i64 x0, .int .i64 x1, .int .i64 x2, .int .i64 x3, .int .i64 x4], .bool true]) (by simp [results, Try.results20, go_sem, z1, z2, z3, z4, z5, z6, z7]) rfl ⟨rfl, ?_⟩
  go_grown

set_option maxHeartbeats 2000000 in
theorem specSubstAtom_off (k m a b c d n v a' b' c' d' n' x0 x1 x2 x3 x4 : Int) (w : World) (h : avB k m a b c d n = false)
    (HT : Hid (∀ W, Calls Try.prog 13 #[.agg #[.int .i64 a, .int .i64 b, .int .i64 c, .int .i64 d, .int .i64 n], .int .i64 v, .agg #[.int .i64 a', .int .i64 b', .int .i64 c', .int .i64 d', .int .i64 n']] W fun e w' => e = .returned (.tuple #[.agg #[.int .i64 x0, .int .i64 x1, .int .i64 x2, .int .i64 x3, .int .i64 x4], .bool true]) ∧ Below W.heap.size W w')) :
    Calls Try.prog 20 #[.agg #[.int .i64 k, .int .i64 m, .int .i64 a, .int .i64 b, .int .i64 c, .int .i64 d, .int .i64 n], .int .i64 v, .agg #[.int .i64 a', .int .i64 b', .int .i64 c', .int .i64 d', .int .i64 n']] w fun e w' => e = .returned (.tuple #[.agg #[.int .i64 0, .int .i64 0, .int .i64 0, .int .i64 0, .int .i64 0, .int .i64 0, .int .i64 0], .bool false]) ∧ Below w.heap.size w w' := by
  have HV := Lib.hid h
  clear h
  go_enter Try.func20, Try.ntmps20
  go_wp2_with fail
  generalize hW : ((w.alloc (.cells #[.int .i64 k, .int .i64 m, .int .i64 a, .int .i64 b, .int .i64 c, .int .i64 d, .int .i64 n] 44)).alloc (.cells #[.int .i64 a', .int .i64 b', .int .i64 c', .int .i64 d', .int .i64 n'] 24)).alloc (.cells #[.int .i64 0, .int .i64 0, .int .i64 0, .int .i64 0, .int .i64 0, .int .i64 0, .int .i64 0] 44) = W
  have hx : C7 W w.heap.size k m a b c d n := by subst hW; exact (by refine ⟨?_, ?_, ?_, ?_, ?_, ?_, ?_, ?_⟩ <;> first | (simp [go_sem]; done) | (simp; omega))
  have hz : C7 W (w.heap.size + 1 + 1) 0 0 0 0 0 0 0 := by subst hW; exact (by refine ⟨?_, ?_, ?_, ?_, ?_, ?_, ?_, ?_⟩ <;> first | (simp [go_sem]; done) | (simp; omega))
  have fx : Hid (∀ o, W.frozen? ⟨w.heap.size, o, none⟩ = false) := by intro o; subst hW; simp [go_sem]
  have fz : Hid (∀ o, W.frozen? ⟨w.heap.size + 1 + 1, o, none⟩ = false) := by intro o; subst hW; simp [go_sem]
  have hb0 : Below w.heap.size w W := by subst hW; go_grown
  clear hW
  refine (HT.out _).mono ?_
  rintro e w1 ⟨rfl, hb1⟩
  obtain ⟨q0, q1, q2, q3, q4, q5, q6, q7⟩ := c7_on hx hb1
  go_wp2_with fail
  generalize hW2 : w1.alloc (.cells #[.int .i64 x0, .int .i64 x1, .int .i64 x2, .int .i64 x3, .int .i64 x4] 24) = W2
  have ht2 : C5 W2 w1.heap.size x0 x1 x2 x3 x4 := by subst hW2; exact (by refine ⟨?_, ?_, ?_, ?_, ?_, ?_⟩ <;> first | (simp [go_sem]; done) | (simp; omega))
  have hbW2 : Below W.heap.size W W2 := below_on hb1 (by subst hW2; go_grown)
  clear hW2
  refine (specAtomValid_is _ _ _ _ _ _ _ false _ HV.out).mono ?_
  rintro e w2 ⟨rfl, hb2⟩
  have hb12 := below_on hbW2 hb2
  obtain ⟨t0, t1, t2, t3, t4, t5⟩ := c5_on ht2 hb2
  clear q0 q1 q2 q3 q4 q5 q6 q7
  obtain ⟨q0, q1, q2, q3, q4, q5, q6, q7⟩ := c7_on hx hb12
  obtain ⟨z0, z1, z2, z3, z4, z5, z6, z7⟩ := c7_on hz hb12
  have fz1 := fz7_on hz.1 fz hb12
  have fx1 := fz7_on hx.1 fx hb12
  have hbw1 := below_on hb0 hb12
  go_wp2
  refine bodyPost_ret (v := .tuple #[.agg #[.int .i64 0, .int .i64 0, .int .i64 0, .int .i64 0, .int .i64 0, .int .i64 0, .int .i64 0], .bool false]) (by simp [results, Try.results20, go_sem, z1, z2, z3, z4, z5, z6, z7]) rfl ⟨rfl, ?_⟩
  go_grown

set_option maxHeartbeats 2000000 in
theorem specSubstAtom_no (k m a b c d n v a' b' c' d' n' x0 x1 x2 x3 x4 : Int) (w : World) (h : avB k m a b c d n = true)
    (HT : Hid (∀ W, Calls Try.prog 13 #[.agg #[.int .i64 a, .int .i64 b, .int .i64 c, .int .i64 d, .int .i64 n], .int .i64 v, .agg #[.int .i64 a', .int .i64 b', .int .i64 c', .int .i64 d', .int .i64 n']] W fun e w' => e = .returned (.tuple #[.agg #[.int .i64 x0, .int .i64 x1, .int .i64 x2, .int .i64 x3, .int .i64 x4], .bool false]) ∧ Below W.heap.size W w')) :
    Calls Try.prog 20 #[.agg #[.int .i64 k, .int .i64 m, .int .i64 a, .int .i64 b, .int .i64 c, .int .i64 d, .int .i64 n], .int .i64 v, .agg #[.int .i64 a', .int .i64 b', .int .i64 c', .int .i64 d', .int .i64 n']] w fun e w' => e = .returned (.tuple #[.agg #[.int .i64 0, .int .i64 0, .int .i64 0, .int .i64 0, .int .i64 0, .int .i64 0, .int .i64 0], .bool false]) ∧ Below w.heap.size w w' := by
  have HV := Lib.hid h
  clear h
  go_enter Try.func20, Try.ntmps20
  go_wp2_with fail
  generalize hW : ((w.alloc (.cells #[.int .i64 k, .int .i64 m, .int .i64 a, .int .i64 b, .int .i64 c, .int .i64 d, .int .i64 n] 44)).alloc (.cells #[.int .i64 a', .int .i64 b', .int .i64 c', .int .i64 d', .int .i64 n'] 24)).alloc (.cells #[.int .i64 0, .int .i64 0, .int .i64 0, .int .i64 0, .int .i64 0, .int .i64 0, .int .i64 0] 44) = W
  have hx : C7 W w.heap.size k m a b c d n := by subst hW; exact (by refine ⟨?_, ?_, ?_, ?_, ?_, ?_, ?_, ?_⟩ <;> first | (simp [go_sem]; done) | (simp; omega))
  have hz : C7 W (w.heap.size + 1 + 1) 0 0 0 0 0 0 0 := by subst hW; exact (by refine ⟨?_, ?_, ?_, ?_, ?_, ?_, ?_, ?_⟩ <;> first | (simp [go_sem]; done) | (simp; omega))
  have fx : Hid (∀ o, W.frozen? ⟨w.heap.size, o, none⟩ = false) := by intro o; subst hW; simp [go_sem]
  have fz : Hid (∀ o, W.frozen? ⟨w.heap.size + 1 + 1, o, none⟩ = false) := by intro o; subst hW; simp [go_sem]
  have hb0 : Below w.heap.size w W := by subst hW; go_grown
  clear hW
  refine (HT.out _).mono ?_
  rintro e w1 ⟨rfl, hb1⟩
  obtain ⟨q0, q1, q2, q3, q4, q5, q6, q7⟩ := c7_on hx hb1
  go_wp2_with fail
  generalize hW2 : w1.alloc (.cells #[.int .i64 x0, .int .i64 x1, .int .i64 x2, .int .i64 x3, .int .i64 x4] 24) = W2
  have ht2 : C5 W2 w1.heap.size x0 x1 x2 x3 x4 := by subst hW2; exact (by refine ⟨?_, ?_, ?_, ?_, ?_, ?_⟩ <;> first | (simp [go_sem]; done) | (simp; omega))
  have hbW2 : Below W.heap.size W W2 := below_on hb1 (by subst hW2; go_grown)
  clear hW2
  refine (specAtomValid_is _ _ _ _ _ _ _ true _ HV.out).mono ?_
  rintro e w2 ⟨rfl, hb2⟩
  have hb12 := below_on hbW2 hb2
  obtain ⟨t0, t1, t2, t3, t4, t5⟩ := c5_on ht2 hb2
  clear q0 q1 q2 q3 q4 q5 q6 q7
  obtain ⟨q0, q1, q2, q3, q4, q5, q6, q7⟩ := c7_on hx hb12
  obtain ⟨z0, z1, z2, z3, z4, z5, z6, z7⟩ := c7_on hz hb12
  have fz1 := fz7_on hz.1 fz hb12
  have fx1 := fz7_on hx.1 fx hb12
  have hbw1 := below_on hb0 hb12
  go_wp2
  refine bodyPost_ret (v := .tuple #[.agg #[.int .i64 0, .int .i64 0, .int .i64 0, .int .i64 0, .int .i64 0, .int .i64 0, .int .i64 0], .bool false]) (by simp [results, Try.results20, go_sem, z1, z2, z3, z4, z5, z6, z7]) rfl ⟨rfl, ?_⟩
  go_grown

set_option maxHeartbeats 2000000 in
theorem specSubstAtom_nooff (k m a b c d n v a' b' c' d' n' x0 x1 x2 x3 x4 : Int) (w : World) (h : avB k m a b c d n = false)
    (HT : Hid (∀ W, Calls Try.prog 13 #[.agg #[.int .i64 a, .int .i64 b, .int .i64 c, .int .i64 d, .int .i64 n], .int .i64 v, .agg #[.int .i64 a', .int .i64 b', .int .i64 c', .int .i64 d', .int .i64 n']] W fun e w' => e = .returned (.tuple #[.agg #[.int .i64 x0, .int .i64 x1, .int .i64 x2, .int .i64 x3, .int .i64 x4], .bool false]) ∧ Below W.heap.size W w')) :
    Calls Try.prog 20 #[.agg #[.int .i64 k, .int .i64 m, .int .i64 a, .int .i64 b, .int .i64 c, .int .i64 d, .int .i64 n], .int .i64 v, .agg #[.int .i64 a', .int .i64 b', .int .i64 c', .int .i64 d', .int .i64 n']] w fun e w' => e = .returned (.tuple #[.agg #[.int .i64 0, .int .i64 0, .int .i64 0, .int .i64 0, .int .i64 0, .int .i64 0, .int .i64 0], .bool false]) ∧ Below w.heap.size w w' := by
  have HV := Lib.hid h
  clear h
  go_enter Try.func20, Try.ntmps20
  go_wp2_with fail
  generalize hW : ((w.alloc (.cells #[.int .i64 k, .int .i64 m, .int .i64 a, .int .i64 b, .int .i64 c, .int .i64 d, .int .i64 n] 44)).alloc (.cells #[.int .i64 a', .int .i64 b', .int .i64 c', .int .i64 d', .int .i64 n'] 24)).alloc (.cells #[.int .i64 0, .int .i64 0, .int .i64 0, .int .i64 0, .int .i64 0, .int .i64 0, .int .i64 0] 44) = W
  have hx : C7 W w.heap.size k m a b c d n := by subst hW; exact (by refine ⟨?_, ?_, ?_, ?_, ?_, ?_, ?_, ?_⟩ <;> first | (simp [go_sem]; done) | (simp; omega))
  have hz : C7 W (w.heap.size + 1 + 1) 0 0 0 0 0 0 0 := by subst hW; exact (by refine ⟨?_, ?_, ?_, ?_, ?_, ?_, ?_, ?_⟩ <;> first | (simp [go_sem]; done) | (simp; omega))
  have fx : Hid (∀ o, W.frozen? ⟨w.heap.size, o, none⟩ = false) := by intro o; subst hW; simp [go_sem]
  have fz : Hid (∀ o, W.frozen? ⟨w.heap.size + 1 + 1, o, none⟩ = false) := by intro o; subst hW; simp [go_sem]
  have hb0 : Below w.heap.size w W := by subst hW; go_grown
  clear hW
  refine (HT.out _).mono ?_
  rintro e w1 ⟨rfl, hb1⟩
  obtain ⟨q0, q1, q2, q3, q4, q5, q6, q7⟩ := c7_on hx hb1
  go_wp2_with fail
  generalize hW2 : w1.alloc (.cells #[.int .i64 x0, .int .i64 x1, .int .i64 x2, .int .i64 x3, .int .i64 x4] 24) = W2
  have ht2 : C5 W2 w1.heap.size x0 x1 x2 x3 x4 := by subst hW2; exact (by refine ⟨?_, ?_, ?_, ?_, ?_, ?_⟩ <;> first | (simp [go_sem]; done) | (simp; omega))
  have hbW2 : Below W.heap.size W W2 := below_on hb1 (by subst hW2; go_grown)
  clear hW2
  refine (specAtomValid_is _ _ _ _ _ _ _ false _ HV.out).mono ?_
  rintro e w2 ⟨rfl, hb2⟩
  have hb12 := below_on hbW2 hb2
  obtain ⟨t0, t1, t2, t3, t4, t5⟩ := c5_on ht2 hb2
  clear q0 q1 q2 q3 q4 q5 q6 q7
  obtain ⟨q0, q1, q2, q3, q4, q5, q6, q7⟩ := c7_on hx hb12
  obtain ⟨z0, z1, z2, z3, z4, z5, z6, z7⟩ := c7_on hz hb12
  have fz1 := fz7_on hz.1 fz hb12
  have fx1 := fz7_on hx.1 fx hb12
  have hbw1 := below_on hb0 hb12
  go_wp2
  refine bodyPost_ret (v := .tuple #[.agg #[.int .i64 0, .int .i64 0, .int .i64 0, .int .i64 0, .int .i64 0, .int .i64 0, .int .i64 0], .bool false]) (by simp [results, Try.results20, go_sem, z1, z2, z3, z4, z5, z6, z7]) rfl ⟨rfl, ?_⟩
  go_grown

set_option maxHeartbeats 400000 in
theorem toAtom_to (k m a b c d n : Int) (w : World) :
    Calls Try.prog 21 #[.agg #[.int .i64 k, .int .i64 m, .int .i64 a, .int .i64 b, .int .i64 c, .int .i64 d, .int .i64 n]] w fun e w' => e = .returned (.agg #[.int .i64 k, .int .i64 m, .int .i64 a, .int .i64 b, .int .i64 c, .int .i64 d, .int .i64 n]) ∧ (((((w.alloc (.cells #[.int .i64 k, .int .i64 m, .int .i64 a, .int .i64 b, .int .i64 c, .int .i64 d, .int .i64 n] 42)).alloc (.cells #[.int .i64 k, .int .i64 m, .int .i64 a, .int .i64 b, .int .i64 c, .int .i64 d, .int .i64 n] 44)).alloc (.cells #[.int .i64 k, .int .i64 m, .int .i64 a, .int .i64 b, .int .i64 c, .int .i64 d, .int .i64 n] 44)).alloc (.cells #[.int .i64 a, .int .i64 b, .int .i64 c, .int .i64 d, .int .i64 n] 37)).alloc (.cells #[.int .i64 a, .int .i64 b, .int .i64 c, .int .i64 d, .int .i64 n] 24)).alloc (.cells #[.int .i64 a, .int .i64 b, .int .i64 c, .int .i64 d, .int .i64 n] 24) = w' := by
  go_enter Try.func21, Try.ntmps21
  go_wp2_with (go_at_call 18; refine (toTerm_to _ _ _ _ _ _).mono ?_; rintro e w' ⟨rfl, rfl⟩)
  exact bodyPost_ret (v := .agg #[.int .i64 k, .int .i64 m, .int .i64 a, .int .i64 b, .int .i64 c, .int .i64 d, .int .i64 n]) (by simp [results, Try.results21, go_sem]) rfl ⟨rfl, rfl⟩

def ResA (W0 : World) (r0 r1 r2 r3 r4 r5 r6 : Int) (ok : Bool) (p q : Value) (W : World) : Prop :=
  ∃ z, p = .pointer (some ⟨z, 0, none⟩) ∧ q = .bool ok ∧ C7 W z r0 r1 r2 r3 r4 r5 r6 ∧ Below W0.heap.size W0 W
theorem c7_new {w : World} {r0 r1 r2 r3 r4 r5 r6 : Int} {t : TypeId} : C7 (w.alloc (.cells #[.int .i64 r0, .int .i64 r1, .int .i64 r2, .int .i64 r3, .int .i64 r4, .int .i64 r5, .int .i64 r6] t)) w.heap.size r0 r1 r2 r3 r4 r5 r6 := (by refine ⟨?_, ?_, ?_, ?_, ?_, ?_, ?_, ?_⟩ <;> first | (simp [go_sem]; done) | (simp; omega))
theorem c7_set2 {Wc w : World} {z : Nat} {c0 c1 c2 c3 c4 c5 c6 r0 r1 r2 r3 r4 r5 r6 : Int} (hb : Below Wc.heap.size Wc w) (h : C7 Wc z c0 c1 c2 c3 c4 c5 c6) :
    C7 (((((((w.setCell ⟨z, 0, none⟩ (.int .i64 r0)).setCell ⟨z, 1, none⟩ (.int .i64 r1)).setCell ⟨z, 2, none⟩ (.int .i64 r2)).setCell ⟨z, 3, none⟩ (.int .i64 r3)).setCell ⟨z, 4, none⟩ (.int .i64 r4)).setCell ⟨z, 5, none⟩ (.int .i64 r5)).setCell ⟨z, 6, none⟩ (.int .i64 r6)) z r0 r1 r2 r3 r4 r5 r6 := by
  obtain ⟨g, g0, g1, g2, g3, g4, g5, g6⟩ := c7_on h hb
  refine ⟨by simpa [World.setCell] using g, ?_, ?_, ?_, ?_, ?_, ?_, ?_⟩ <;> simp [go_sem, *]
theorem keep75 {W w' : World} {x y : Nat} {k m a b c d n a' b' c' d' n' : Int} (hx : C7 W x k m a b c d n) (hy : C5 W y a' b' c' d' n') (hB : Below W.heap.size W w') :
    Below W.heap.size W w' ∧ (w'.cell? ⟨x, 0, none⟩ = some (.int .i64 k) ∧ w'.cell? ⟨x, 1, none⟩ = some (.int .i64 m) ∧ w'.cell? ⟨x, 2, none⟩ = some (.int .i64 a) ∧ w'.cell? ⟨x, 3, none⟩ = some (.int .i64 b) ∧ w'.cell? ⟨x, 4, none⟩ = some (.int .i64 c) ∧ w'.cell? ⟨x, 5, none⟩ = some (.int .i64 d) ∧ w'.cell? ⟨x, 6, none⟩ = some (.int .i64 n)) ∧ (w'.cell? ⟨y, 0, none⟩ = some (.int .i64 a') ∧ w'.cell? ⟨y, 1, none⟩ = some (.int .i64 b') ∧ w'.cell? ⟨y, 2, none⟩ = some (.int .i64 c') ∧ w'.cell? ⟨y, 3, none⟩ = some (.int .i64 d') ∧ w'.cell? ⟨y, 4, none⟩ = some (.int .i64 n')) := ⟨hB, (c7_on hx hB).2, (c5_on hy hB).2⟩

set_option maxHeartbeats 2000000 in
theorem exactSubstAtom_some (k m a b c d n v a' b' c' d' n' r0 r1 r2 r3 r4 r5 r6 : Int) (ok : Bool) (w : World)
    (HS : Hid (∀ W, Calls Try.prog 20 #[.agg #[.int .i64 k, .int .i64 m, .int .i64 a, .int .i64 b, .int .i64 c, .int .i64 d, .int .i64 n], .int .i64 v, .agg #[.int .i64 a', .int .i64 b', .int .i64 c', .int .i64 d', .int .i64 n']] W fun e w' => e = .returned (.tuple #[.agg #[.int .i64 r0, .int .i64 r1, .int .i64 r2, .int .i64 r3, .int .i64 r4, .int .i64 r5, .int .i64 r6], .bool ok]) ∧ Below W.heap.size W w'))
    (HI : Hid (∀ W, Calls Try.prog 22 #[.agg #[.int .i64 k, .int .i64 m, .int .i64 a, .int .i64 b, .int .i64 c, .int .i64 d, .int .i64 n], .int .i64 v, .agg #[.int .i64 a', .int .i64 b', .int .i64 c', .int .i64 d', .int .i64 n']] W fun e w' => e = .returned (.tuple #[.agg #[.int .i64 r0, .int .i64 r1, .int .i64 r2, .int .i64 r3, .int .i64 r4, .int .i64 r5, .int .i64 r6], .bool ok]) ∧ Below W.heap.size W w')) :
    Calls Try.prog 5 #[.agg #[.int .i64 k, .int .i64 m, .int .i64 a, .int .i64 b, .int .i64 c, .int .i64 d, .int .i64 n], .int .i64 v, .agg #[.int .i64 a', .int .i64 b', .int .i64 c', .int .i64 d', .int .i64 n']] w fun e w' => e = .returned (.bool true) ∧ Below w.heap.size w w' := by
  go_enter Try.func5, Try.ntmps5
  go_wp2
  generalize hW : (w.alloc (.cells #[.int .i64 k, .int .i64 m, .int .i64 a, .int .i64 b, .int .i64 c, .int .i64 d, .int .i64 n] 42)).alloc (.cells #[.int .i64 a', .int .i64 b', .int .i64 c', .int .i64 d', .int .i64 n'] 37) = W0
  have hx : C7 W0 w.heap.size k m a b c d n := by subst hW; exact (by refine ⟨?_, ?_, ?_, ?_, ?_, ?_, ?_, ?_⟩ <;> first | (simp [go_sem]; done) | (simp; omega))
  have hy : C5 W0 (w.heap.size + 1) a' b' c' d' n' := by subst hW; exact (by refine ⟨?_, ?_, ?_, ?_, ?_, ?_⟩ <;> first | (simp [go_sem]; done) | (simp; omega))
  have hw0 : Below w.heap.size w W0 := by subst hW; go_grown
  clear hW
  go_upto_region 1 with fail
  go_cut [7, 8] (fun p q W => ResA W0 r0 r1 r2 r3 r4 r5 r6 ok p q W)
  case first =>
    go_region_held3 (fun w' => Below W0.heap.size W0 w' ∧ (w'.cell? ⟨w.heap.size, 0, none⟩ = some (.int .i64 k) ∧ w'.cell? ⟨w.heap.size, 1, none⟩ = some (.int .i64 m) ∧ w'.cell? ⟨w.heap.size, 2, none⟩ = some (.int .i64 a) ∧ w'.cell? ⟨w.heap.size, 3, none⟩ = some (.int .i64 b) ∧ w'.cell? ⟨w.heap.size, 4, none⟩ = some (.int .i64 c) ∧ w'.cell? ⟨w.heap.size, 5, none⟩ = some (.int .i64 d) ∧ w'.cell? ⟨w.heap.size, 6, none⟩ = some (.int .i64 n)) ∧ (w'.cell? ⟨w.heap.size + 1, 0, none⟩ = some (.int .i64 a') ∧ w'.cell? ⟨w.heap.size + 1, 1, none⟩ = some (.int .i64 b') ∧ w'.cell? ⟨w.heap.size + 1, 2, none⟩ = some (.int .i64 c') ∧ w'.cell? ⟨w.heap.size + 1, 3, none⟩ = some (.int .i64 d') ∧ w'.cell? ⟨w.heap.size + 1, 4, none⟩ = some (.int .i64 n'))) (exact keep75 hx hy (by go_grown)) (first | (go_at_call 21; refine (toAtom_to _ _ _ _ _ _ _ _).mono ?_; rintro e w' ⟨rfl, rfl⟩) | (go_at_call 18; refine (toTerm_to _ _ _ _ _ _).mono ?_; rintro e w' ⟨rfl, rfl⟩) | (go_at_call 20; refine (HS.out _).mono ?_; rintro e w1 ⟨rfl, hb1⟩; have hbb1 := below_on (w := W0) (by go_grown) hb1; have hs1 : W0.heap.size ≤ w1.heap.size := hbb1.size; obtain ⟨hc, hf⟩ := bcell hb1; have hz1 := hb1.size; simp at hz1))
    all_goals
      go_wp2_with fail
      go_meet
      refine ⟨_, rfl, rfl, ?_, by go_grown⟩
      first | (with_reducible exact c7_new) | ((with_reducible refine c7_set2 (c0 := 0) (c1 := 0) (c2 := 0) (c3 := 0) (c4 := 0) (c5 := 0) (c6 := 0) hb1 ?_); exact (by refine ⟨?_, ?_, ?_, ?_, ?_, ?_, ?_, ?_⟩ <;> first | (simp [go_sem]; done) | (simp; omega)))
  case rest =>
    obtain ⟨z, rfl, rfl, hr, hB⟩ := hcut
    have hx2 := c7_on hx hB
    have hy2 := c5_on hy hB
    go_upto_region 2 with fail
    obtain ⟨w2, hw2⟩ : ∃ w2, w2 = wc := ⟨_, rfl⟩
    go_cut [9, 10] (fun p q W => ResA w2 r0 r1 r2 r3 r4 r5 r6 ok p q W)
    case first =>
      subst hw2
      go_region_held3 (fun w' => Below w2.heap.size w2 w' ∧ (w'.cell? ⟨w.heap.size, 0, none⟩ = some (.int .i64 k) ∧ w'.cell? ⟨w.heap.size, 1, none⟩ = some (.int .i64 m) ∧ w'.cell? ⟨w.heap.size, 2, none⟩ = some (.int .i64 a) ∧ w'.cell? ⟨w.heap.size, 3, none⟩ = some (.int .i64 b) ∧ w'.cell? ⟨w.heap.size, 4, none⟩ = some (.int .i64 c) ∧ w'.cell? ⟨w.heap.size, 5, none⟩ = some (.int .i64 d) ∧ w'.cell? ⟨w.heap.size, 6, none⟩ = some (.int .i64 n)) ∧ (w'.cell? ⟨w.heap.size + 1, 0, none⟩ = some (.int .i64 a') ∧ w'.cell? ⟨w.heap.size + 1, 1, none⟩ = some (.int .i64 b') ∧ w'.cell? ⟨w.heap.size + 1, 2, none⟩ = some (.int .i64 c') ∧ w'.cell? ⟨w.heap.size + 1, 3, none⟩ = some (.int .i64 d') ∧ w'.cell? ⟨w.heap.size + 1, 4, none⟩ = some (.int .i64 n'))) (exact keep75 hx2 hy2 (by go_grown)) (first | (go_at_call 21; refine (toAtom_to _ _ _ _ _ _ _ _).mono ?_; rintro e w' ⟨rfl, rfl⟩) | (go_at_call 18; refine (toTerm_to _ _ _ _ _ _).mono ?_; rintro e w' ⟨rfl, rfl⟩) | (go_at_call 22; refine (HI.out _).mono ?_; rintro e w1 ⟨rfl, hb1⟩; have hbb1 := below_on (w := w2) (by go_grown) hb1; have hs1 : w2.heap.size ≤ w1.heap.size := hbb1.size; obtain ⟨hc, hf⟩ := bcell hb1; have hz1 := hb1.size; simp at hz1))
      all_goals
        go_wp2_with fail
        go_meet
        refine ⟨_, rfl, rfl, ?_, by go_grown⟩
        first | (with_reducible exact c7_new) | ((with_reducible refine c7_set2 (c0 := 0) (c1 := 0) (c2 := 0) (c3 := 0) (c4 := 0) (c5 := 0) (c6 := 0) hb1 ?_); exact (by refine ⟨?_, ?_, ?_, ?_, ?_, ?_, ?_, ?_⟩ <;> first | (simp [go_sem]; done) | (simp; omega)))
    case rest =>
      obtain ⟨z2, rfl, rfl, ⟨g0, g1, g2, g3, g4, g5, g6, g7⟩, hB2⟩ := hcut
      subst hw2
      obtain ⟨f0, f1, f2, f3, f4, f5, f6, f7⟩ := c7_on hr hB2
      go_wp2_with fail
      refine (eqAtom_same _ _ _ _ _ _ _ _).mono ?_
      rintro e w5 ⟨rfl, hb5⟩
      have hbb5 := below_on (below_on hB hB2) hb5
      go_wp2
      go_ret
      exact ⟨rfl, below_on hw0 hbb5⟩

theorem exactSubstAtom_walk (k m a b c d n v a' b' c' d' n' : Int) (w : World) :
    Calls Try.prog 5 #[.agg #[.int .i64 k, .int .i64 m, .int .i64 a, .int .i64 b, .int .i64 c, .int .i64 d, .int .i64 n], .int .i64 v, .agg #[.int .i64 a', .int .i64 b', .int .i64 c', .int .i64 d', .int .i64 n']] w fun e w' => e = .returned (.bool true) ∧ Below w.heap.size w w' := by
  have hst : ∃ x0 x1 x2 x3 x4 : Int, ∃ ok : Bool, (∀ W, Calls Try.prog 12 #[.agg #[.int .i64 a, .int .i64 b, .int .i64 c, .int .i64 d, .int .i64 n], .int .i64 v, .agg #[.int .i64 a', .int .i64 b', .int .i64 c', .int .i64 d', .int .i64 n']] W fun e w' => e = .returned (.tuple #[.agg #[.int .i64 x0, .int .i64 x1, .int .i64 x2, .int .i64 x3, .int .i64 x4], .bool ok]) ∧ Below W.heap.size W w') ∧ (∀ W, Calls Try.prog 13 #[.agg #[.int .i64 a, .int .i64 b, .int .i64 c, .int .i64 d, .int .i64 n], .int .i64 v, .agg #[.int .i64 a', .int .i64 b', .int .i64 c', .int .i64 d', .int .i64 n']] W fun e w' => e = .returned (.tuple #[.agg #[.int .i64 x0, .int .i64 x1, .int .i64 x2, .int .i64 x3, .int .i64 x4], .bool ok]) ∧ Below W.heap.size W w') := by
    by_cases h : (tvB a b c d n && tvB a' b' c' d' n' && varB v) = true
    · obtain ⟨⟨h1, h2⟩, hv⟩ : (tvB a b c d n = true ∧ tvB a' b' c' d' n' = true) ∧ varB v = true := by simpa using h
      have hv' : 0 ≤ v ∧ v < 4 := by simpa [varB] using hv
      by_cases h3 : tvB ((if v = 0 then 0 else a) + a' * sel a b c d v 0) ((if v = 1 then 0 else b) + b' * sel a b c d v 0) ((if v = 2 then 0 else c) + c' * sel a b c d v 0) ((if v = 3 then 0 else d) + d' * sel a b c d v 0) (n + n' * sel a b c d v 0) = true
      · exact ⟨_, _, _, _, _, true, fun W => SubstTerm_ok a b c d n v a' b' c' d' n' _ _ _ _ _ W h1 h2 hv' rfl rfl rfl rfl rfl h3, fun W => specSubstTerm_ok a b c d n v a' b' c' d' n' _ _ _ _ _ W h1 h2 hv' rfl rfl rfl rfl rfl h3⟩
      · have h4 := Bool.eq_false_iff.2 h3
        exact ⟨_, _, _, _, _, false, fun W => SubstTerm_far a b c d n v a' b' c' d' n' _ _ _ _ _ W h1 h2 hv' rfl rfl rfl rfl rfl h4, fun W => specSubstTerm_far a b c d n v a' b' c' d' n' _ _ _ _ _ W h1 h2 hv' rfl rfl rfl rfl rfl h4⟩
    · have h4 : (tvB a b c d n && tvB a' b' c' d' n' && varB v) = false := by simpa using h
      exact ⟨_, _, _, _, _, false, fun W => SubstTerm_bad a b c d n v a' b' c' d' n' W h4, fun W => specSubstTerm_bad a b c d n v a' b' c' d' n' W h4⟩
  obtain ⟨x0, x1, x2, x3, x4, ok, hi, hs⟩ := hst
  by_cases hv : avB k m a b c d n = true
  · cases ok
    · exact exactSubstAtom_some _ _ _ _ _ _ _ _ _ _ _ _ _ _ _ _ _ _ _ _ false w (Lib.hid fun W => specSubstAtom_no k m a b c d n v a' b' c' d' n' x0 x1 x2 x3 x4 W hv (Lib.hid hs)) (Lib.hid fun W => SubstAtom_no k m a b c d n v a' b' c' d' n' x0 x1 x2 x3 x4 W (Lib.hid hi))
    · exact exactSubstAtom_some _ _ _ _ _ _ _ _ _ _ _ _ _ _ _ _ _ _ _ _ true w (Lib.hid fun W => specSubstAtom_yes k m a b c d n v a' b' c' d' n' x0 x1 x2 x3 x4 W hv (Lib.hid hs)) (Lib.hid fun W => SubstAtom_yes k m a b c d n v a' b' c' d' n' x0 x1 x2 x3 x4 W hv (Lib.hid hi))
  · have hv' : avB k m a b c d n = false := by simpa using hv
    cases ok
    · exact exactSubstAtom_some _ _ _ _ _ _ _ _ _ _ _ _ _ _ _ _ _ _ _ _ false w (Lib.hid fun W => specSubstAtom_nooff k m a b c d n v a' b' c' d' n' x0 x1 x2 x3 x4 W hv' (Lib.hid hs)) (Lib.hid fun W => SubstAtom_no k m a b c d n v a' b' c' d' n' x0 x1 x2 x3 x4 W (Lib.hid hi))
    · exact exactSubstAtom_some _ _ _ _ _ _ _ _ _ _ _ _ _ _ _ _ _ _ _ _ false w (Lib.hid fun W => specSubstAtom_off k m a b c d n v a' b' c' d' n' x0 x1 x2 x3 x4 W hv' (Lib.hid hs)) (Lib.hid fun W => SubstAtom_off k m a b c d n v a' b' c' d' n' x0 x1 x2 x3 x4 W hv' (Lib.hid hi))

end Go.Proofs.Ytcgolbkpfncgpaa
