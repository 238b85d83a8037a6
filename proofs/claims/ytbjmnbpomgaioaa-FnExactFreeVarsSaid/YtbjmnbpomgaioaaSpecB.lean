/- Contracts of the model's functions of chapter 1 that make points and terms. -/
import Derived.Test.YtbjmnbpomgaioaaSpecA
namespace Go.Proofs.Ytbjmnbpomgaioaa
open Go.RowKit


def C4 (w : World) (bl : Nat) (a b c d : Int) : Prop := bl < w.heap.size ∧ w.cell? ⟨bl, 0, none⟩ = some (.int .i64 a) ∧ w.cell? ⟨bl, 1, none⟩ = some (.int .i64 b) ∧ w.cell? ⟨bl, 2, none⟩ = some (.int .i64 c) ∧ w.cell? ⟨bl, 3, none⟩ = some (.int .i64 d)

set_option maxHeartbeats 400000 in
theorem l1Var_any (v : Int) (w : World) :
    Calls Try.prog 64 #[.int .i64 v] w fun e w' => e = .returned (.bool (varB v)) ∧ w = w' := by
  go_enter Try.func64, Try.ntmps64
  go_wp2_with (go_at_call 65; refine (l1In_any _ _ _ _).mono ?_; rintro e w' ⟨rfl, rfl⟩)
  go_ret
  exact ⟨ret_bool (by simp only [varB, inB]; congr 1; simp; omega), rfl⟩

theorem l1Var_is (v : Int) (t : Bool) (w : World) (h : varB v = t) :
    Calls Try.prog 64 #[.int .i64 v] w fun e w' => e = .returned (.bool t) ∧ w = w' :=
  (l1Var_any v w).mono fun _ _ ⟨he, hw⟩ => ⟨he.trans (ret_bool h), hw⟩

theorem l1In_is (n l h : Int) (t : Bool) (w : World) (hi : inB n l h = t) :
    Calls Try.prog 65 #[.int .i64 n, .int .i64 l, .int .i64 h] w fun e w' => e = .returned (.bool t) ∧ w = w' :=
  (l1In_any n l h w).mono fun _ _ ⟨he, hw⟩ => ⟨he.trans (ret_bool hi), hw⟩

set_option maxHeartbeats 400000 in
theorem l1Term_any (a b c d n : Int) (bl : Nat) (w : World) (hl : C5 w bl a b c d n) :
    Calls Try.prog 114 #[.slice (some ⟨bl, 0, none⟩) 5 5] w fun e w' => e = .returned (.agg #[.int .i64 a, .int .i64 b, .int .i64 c, .int .i64 d, .int .i64 n]) ∧ Below w.heap.size w w' := by
  obtain ⟨hb, h0, h1, h2, h3, h4⟩ := hl
  go_enter Try.func114, Try.ntmps114
  go_wp2
  go_region
  go_wp2
  refine bodyPost_ret (v := .agg #[.int .i64 a, .int .i64 b, .int .i64 c, .int .i64 d, .int .i64 n]) (by simp [results, Try.results114, go_sem]) rfl ⟨rfl, ?_⟩
  go_grown

set_option maxHeartbeats 400000 in
theorem l1Point_any (a b c d : Int) (bl : Nat) (w : World) (hl : C4 w bl a b c d) :
    Calls Try.prog 92 #[.slice (some ⟨bl, 0, none⟩) 4 4] w fun e w' => e = .returned (.agg #[.int .i64 a, .int .i64 b, .int .i64 c, .int .i64 d]) ∧ Below w.heap.size w w' := by
  obtain ⟨hb, h0, h1, h2, h3⟩ := hl
  go_enter Try.func92, Try.ntmps92
  go_wp2
  go_region
  go_wp2
  refine bodyPost_ret (v := .agg #[.int .i64 a, .int .i64 b, .int .i64 c, .int .i64 d]) (by simp [results, Try.results92, go_sem]) rfl ⟨rfl, ?_⟩
  go_grown

set_option maxHeartbeats 1000000 in
theorem l1With_any (a b c d v n : Int) (w : World) (hv : 0 ≤ v ∧ v < 4) :
    Calls Try.prog 66 #[.agg #[.int .i64 a, .int .i64 b, .int .i64 c, .int .i64 d], .int .i64 v, .int .i64 n] w fun e w' => e = .returned (.agg #[.int .i64 (if v = 0 then n else a), .int .i64 (if v = 1 then n else b), .int .i64 (if v = 2 then n else c), .int .i64 (if v = 3 then n else d)]) ∧ Below w.heap.size w w' := by
  have h' : v = 0 ∨ v = 1 ∨ v = 2 ∨ v = 3 := by omega
  clear hv
  rcases h' with rfl | rfl | rfl | rfl
  · go_enter Try.func66, Try.ntmps66
    go_wp2_with (first | (go_at_call 91; refine (l1Values_any _ _ _ _ _).mono ?_; rintro e w' ⟨rfl, rfl⟩) | (go_at_call 92; refine (l1Point_any n b c d _ _ (by refine ⟨?_, ?_, ?_, ?_, ?_⟩ <;> first | (simp [go_sem]; done) | (simp; omega))).mono ?_; rintro e w' ⟨rfl, hb⟩; obtain ⟨hc, hf⟩ := bcell hb; have hz := hb.size; simp at hz; have hbb := below_step (B := w.heap.size) (w := w) (by go_grown) hb (by simp; omega)))
    refine bodyPost_ret (v := .agg #[.int .i64 n, .int .i64 b, .int .i64 c, .int .i64 d]) (by simp [results, Try.results66, go_sem, hc]) rfl ⟨rfl, ?_⟩
    go_grown
  · go_enter Try.func66, Try.ntmps66
    go_wp2_with (first | (go_at_call 91; refine (l1Values_any _ _ _ _ _).mono ?_; rintro e w' ⟨rfl, rfl⟩) | (go_at_call 92; refine (l1Point_any a n c d _ _ (by refine ⟨?_, ?_, ?_, ?_, ?_⟩ <;> first | (simp [go_sem]; done) | (simp; omega))).mono ?_; rintro e w' ⟨rfl, hb⟩; obtain ⟨hc, hf⟩ := bcell hb; have hz := hb.size; simp at hz; have hbb := below_step (B := w.heap.size) (w := w) (by go_grown) hb (by simp; omega)))
    refine bodyPost_ret (v := .agg #[.int .i64 a, .int .i64 n, .int .i64 c, .int .i64 d]) (by simp [results, Try.results66, go_sem, hc]) rfl ⟨rfl, ?_⟩
    go_grown
  · go_enter Try.func66, Try.ntmps66
    go_wp2_with (first | (go_at_call 91; refine (l1Values_any _ _ _ _ _).mono ?_; rintro e w' ⟨rfl, rfl⟩) | (go_at_call 92; refine (l1Point_any a b n d _ _ (by refine ⟨?_, ?_, ?_, ?_, ?_⟩ <;> first | (simp [go_sem]; done) | (simp; omega))).mono ?_; rintro e w' ⟨rfl, hb⟩; obtain ⟨hc, hf⟩ := bcell hb; have hz := hb.size; simp at hz; have hbb := below_step (B := w.heap.size) (w := w) (by go_grown) hb (by simp; omega)))
    refine bodyPost_ret (v := .agg #[.int .i64 a, .int .i64 b, .int .i64 n, .int .i64 d]) (by simp [results, Try.results66, go_sem, hc]) rfl ⟨rfl, ?_⟩
    go_grown
  · go_enter Try.func66, Try.ntmps66
    go_wp2_with (first | (go_at_call 91; refine (l1Values_any _ _ _ _ _).mono ?_; rintro e w' ⟨rfl, rfl⟩) | (go_at_call 92; refine (l1Point_any a b c n _ _ (by refine ⟨?_, ?_, ?_, ?_, ?_⟩ <;> first | (simp [go_sem]; done) | (simp; omega))).mono ?_; rintro e w' ⟨rfl, hb⟩; obtain ⟨hc, hf⟩ := bcell hb; have hz := hb.size; simp at hz; have hbb := below_step (B := w.heap.size) (w := w) (by go_grown) hb (by simp; omega)))
    refine bodyPost_ret (v := .agg #[.int .i64 a, .int .i64 b, .int .i64 c, .int .i64 n]) (by simp [results, Try.results66, go_sem, hc]) rfl ⟨rfl, ?_⟩
    go_grown

theorem wvB_parts {a b c d v n : Int} (h : wvB a b c d v n = true) : pvB a b c d = true ∧ varB v = true ∧ inB n 0 1000 = true ∧ (0 ≤ v ∧ v < 4) := by
  simp only [wvB, Bool.and_eq_true] at h
  exact ⟨h.1.1, h.1.2, h.2, by have := h.1.2; simpa [varB] using this⟩

set_option maxHeartbeats 400000 in
theorem specWithValue_ok (a b c d v n : Int) (w : World) (h : wvB a b c d v n = true) :
    Calls Try.prog 16 #[.agg #[.int .i64 a, .int .i64 b, .int .i64 c, .int .i64 d], .int .i64 v, .int .i64 n] w fun e w' => e = .returned (.tuple #[.agg #[.int .i64 (if v = 0 then n else a), .int .i64 (if v = 1 then n else b), .int .i64 (if v = 2 then n else c), .int .i64 (if v = 3 then n else d)], .bool true]) ∧ Below w.heap.size w w' := by
  obtain ⟨h1, h2, h3, h4⟩ := wvB_parts h
  have H1 := Lib.hid h1
  have H2 := Lib.hid h2
  have H3 := Lib.hid h3
  have H4 := Lib.hid h4
  have hl := fun W => l1With_any a b c d v n W h4
  obtain ⟨A, hA⟩ : ∃ A : Int, A = if v = 0 then n else a := ⟨_, rfl⟩
  obtain ⟨B, hB⟩ : ∃ B : Int, B = if v = 1 then n else b := ⟨_, rfl⟩
  obtain ⟨C, hC⟩ : ∃ C : Int, C = if v = 2 then n else c := ⟨_, rfl⟩
  obtain ⟨D, hD⟩ : ∃ D : Int, D = if v = 3 then n else d := ⟨_, rfl⟩
  rw [← hA, ← hB, ← hC, ← hD]
  rw [← hA, ← hB, ← hC, ← hD] at hl
  have HL := Lib.hid hl
  clear h h1 h2 h3 h4 hA hB hC hD hl
  go_enter Try.func16, Try.ntmps16
  go_wp2_with (first | (go_at_call 63; refine (specPointValid_is _ _ _ _ true _ H1.out).mono ?_; rintro e w' ⟨rfl, rfl⟩) | (go_at_call 64; refine (l1Var_is _ true _ H2.out).mono ?_; rintro e w' ⟨rfl, rfl⟩) | (go_at_call 65; refine (l1In_is _ _ _ true _ H3.out).mono ?_; rintro e w' ⟨rfl, rfl⟩) | (go_at_call 66; refine (HL.out _).mono ?_; rintro e w' ⟨rfl, hb⟩; obtain ⟨hc, hf⟩ := bcell hb; have hz := hb.size; simp at hz; have hbb := below_step (B := w.heap.size) (w := w) (by go_grown) hb (by simp; omega)))
  refine bodyPost_ret (v := .tuple #[.agg #[.int .i64 A, .int .i64 B, .int .i64 C, .int .i64 D], .bool true]) (by simp [results, Try.results16, go_sem, hc]) rfl ⟨rfl, ?_⟩
  go_grown

set_option maxHeartbeats 400000 in
theorem specWithValue_bad (a b c d v n : Int) (w : World) (h : wvB a b c d v n = false) :
    Calls Try.prog 16 #[.agg #[.int .i64 a, .int .i64 b, .int .i64 c, .int .i64 d], .int .i64 v, .int .i64 n] w fun e w' => e = .returned (.tuple #[.agg #[.int .i64 0, .int .i64 0, .int .i64 0, .int .i64 0], .bool false]) ∧ Below w.heap.size w w' := by
  by_cases h1 : pvB a b c d = true
  · have H1 := Lib.hid h1
    by_cases h2 : varB v = true
    · have h3 : inB n 0 1000 = false := by simpa [wvB, h1, h2] using h
      have H2 := Lib.hid h2
      have H3 := Lib.hid h3
      clear h h1 h2 h3
      go_enter Try.func16, Try.ntmps16
      go_wp2_with (first | (go_at_call 63; refine (specPointValid_is _ _ _ _ true _ H1.out).mono ?_; rintro e w' ⟨rfl, rfl⟩) | (go_at_call 64; refine (l1Var_is _ true _ H2.out).mono ?_; rintro e w' ⟨rfl, rfl⟩) | (go_at_call 65; refine (l1In_is _ _ _ false _ H3.out).mono ?_; rintro e w' ⟨rfl, rfl⟩))
      refine bodyPost_ret (v := .tuple #[.agg #[.int .i64 0, .int .i64 0, .int .i64 0, .int .i64 0], .bool false]) (by simp [results, Try.results16, go_sem]) rfl ⟨rfl, ?_⟩
      go_grown
    · have h3 : varB v = false := by simpa using h2
      have H2 := Lib.hid h3
      clear h h1 h2 h3
      go_enter Try.func16, Try.ntmps16
      go_wp2_with (first | (go_at_call 63; refine (specPointValid_is _ _ _ _ true _ H1.out).mono ?_; rintro e w' ⟨rfl, rfl⟩) | (go_at_call 64; refine (l1Var_is _ false _ H2.out).mono ?_; rintro e w' ⟨rfl, rfl⟩))
      refine bodyPost_ret (v := .tuple #[.agg #[.int .i64 0, .int .i64 0, .int .i64 0, .int .i64 0], .bool false]) (by simp [results, Try.results16, go_sem]) rfl ⟨rfl, ?_⟩
      go_grown
  · have h3 : pvB a b c d = false := by simpa using h1
    have H1 := Lib.hid h3
    clear h h1 h3
    go_enter Try.func16, Try.ntmps16
    go_wp2_with (first | (go_at_call 63; refine (specPointValid_is _ _ _ _ false _ H1.out).mono ?_; rintro e w' ⟨rfl, rfl⟩))
    refine bodyPost_ret (v := .tuple #[.agg #[.int .i64 0, .int .i64 0, .int .i64 0, .int .i64 0], .bool false]) (by simp [results, Try.results16, go_sem]) rfl ⟨rfl, ?_⟩
    go_grown

set_option maxHeartbeats 400000 in
theorem specCoefOf_any (a b c d n v : Int) (w : World) :
    Calls Try.prog 104 #[.agg #[.int .i64 a, .int .i64 b, .int .i64 c, .int .i64 d, .int .i64 n], .int .i64 v] w fun e w' => e = .returned (.int .i64 (sel a b c d v 0)) ∧ Below w.heap.size w w' := by
  by_cases h : 0 ≤ v ∧ v < 4
  · have hv : varB v = true := by simp [varB]; omega
    have HV := Lib.hid hv
    have h' : v = 0 ∨ v = 1 ∨ v = 2 ∨ v = 3 := by omega
    clear h hv
    rcases h' with rfl | rfl | rfl | rfl
    all_goals
      go_enter Try.func104, Try.ntmps104
      go_wp2_with (first | (go_at_call 64; refine (l1Var_is _ true _ HV.out).mono ?_; rintro e w' ⟨rfl, rfl⟩) | (go_at_call 111; refine (l1List_any _ _ _ _ _ _).mono ?_; rintro e w' ⟨rfl, rfl⟩))
      go_ret
      exact ⟨rfl, by go_grown⟩
  · have hv : varB v = false := by simp [varB]; omega
    have HV := Lib.hid hv
    have hs : sel a b c d v 0 = 0 := by unfold sel; repeat (rw [if_neg (by omega)])
    have Hs := Lib.hid hs
    clear hs hv h
    go_enter Try.func104, Try.ntmps104
    go_wp2_with (go_at_call 64; refine (l1Var_is _ false _ HV.out).mono ?_; rintro e w' ⟨rfl, rfl⟩)
    go_ret
    exact ⟨ret_int Hs.out.symm, by go_grown⟩

end Go.Proofs.Ytbjmnbpomgaioaa
