/- Contracts of the model's l1Result and l1Without. -/
import Derived.Test.YthphlkfofbdncaaSpecC
namespace Go.Proofs.Ythphlkfofbdncaa
open Go.RowKit

set_option maxHeartbeats 400000 in
theorem l1Result_yes (a b c d n : Int) (w : World) (h : tvB a b c d n = true) :
    Calls Try.prog 100 #[.agg #[.int .i64 a, .int .i64 b, .int .i64 c, .int .i64 d, .int .i64 n], .bool true] w fun e w' => e = .returned (.tuple #[.agg #[.int .i64 a, .int .i64 b, .int .i64 c, .int .i64 d, .int .i64 n], .bool true]) ∧ Below w.heap.size w w' := by
  have H1 := Lib.hid h
  clear h
  go_enter Try.func100, Try.ntmps100
  go_wp2_with (go_at_call 71; refine (specTermValid_is _ _ _ _ _ true _ H1.out).mono ?_; rintro e w' ⟨rfl, rfl⟩)
  refine bodyPost_ret (v := .tuple #[.agg #[.int .i64 a, .int .i64 b, .int .i64 c, .int .i64 d, .int .i64 n], .bool true]) (by simp [results, Try.results100, go_sem]) rfl ⟨rfl, ?_⟩
  go_grown

set_option maxHeartbeats 400000 in
theorem l1Result_far (a b c d n : Int) (w : World) (h : tvB a b c d n = false) :
    Calls Try.prog 100 #[.agg #[.int .i64 a, .int .i64 b, .int .i64 c, .int .i64 d, .int .i64 n], .bool true] w fun e w' => e = .returned (.tuple #[.agg #[.int .i64 0, .int .i64 0, .int .i64 0, .int .i64 0, .int .i64 0], .bool false]) ∧ Below w.heap.size w w' := by
  have H1 := Lib.hid h
  clear h
  go_enter Try.func100, Try.ntmps100
  go_wp2_with (go_at_call 71; refine (specTermValid_is _ _ _ _ _ false _ H1.out).mono ?_; rintro e w' ⟨rfl, rfl⟩)
  refine bodyPost_ret (v := .tuple #[.agg #[.int .i64 0, .int .i64 0, .int .i64 0, .int .i64 0, .int .i64 0], .bool false]) (by simp [results, Try.results100, go_sem]) rfl ⟨rfl, ?_⟩
  go_grown

set_option maxHeartbeats 400000 in
theorem l1Result_no (a b c d n : Int) (w : World) :
    Calls Try.prog 100 #[.agg #[.int .i64 a, .int .i64 b, .int .i64 c, .int .i64 d, .int .i64 n], .bool false] w fun e w' => e = .returned (.tuple #[.agg #[.int .i64 0, .int .i64 0, .int .i64 0, .int .i64 0, .int .i64 0], .bool false]) ∧ Below w.heap.size w w' := by
  go_enter Try.func100, Try.ntmps100
  go_wp2
  refine bodyPost_ret (v := .tuple #[.agg #[.int .i64 0, .int .i64 0, .int .i64 0, .int .i64 0, .int .i64 0], .bool false]) (by simp [results, Try.results100, go_sem]) rfl ⟨rfl, ?_⟩
  go_grown

set_option maxHeartbeats 1000000 in
theorem l1Without_any (a b c d n v : Int) (w : World) (hv : 0 ≤ v ∧ v < 4) :
    Calls Try.prog 103 #[.agg #[.int .i64 a, .int .i64 b, .int .i64 c, .int .i64 d, .int .i64 n], .int .i64 v] w fun e w' => e = .returned (.agg #[.int .i64 (if v = 0 then 0 else a), .int .i64 (if v = 1 then 0 else b), .int .i64 (if v = 2 then 0 else c), .int .i64 (if v = 3 then 0 else d), .int .i64 n]) ∧ Below w.heap.size w w' := by
  have h' : v = 0 ∨ v = 1 ∨ v = 2 ∨ v = 3 := by omega
  clear hv
  rcases h' with rfl | rfl | rfl | rfl
  · go_enter Try.func103, Try.ntmps103
    go_wp2_with (first | (go_at_call 105; refine (l1List_any _ _ _ _ _ _).mono ?_; rintro e w' ⟨rfl, rfl⟩) | (go_at_call 106; refine (l1Term_any 0 b c d n _ _ (by refine ⟨?_, ?_, ?_, ?_, ?_, ?_⟩ <;> first | (simp [go_sem]; done) | (simp; omega))).mono ?_; rintro e w' ⟨rfl, hb⟩; obtain ⟨hc, hf⟩ := bcell hb; have hz := hb.size; simp at hz; have hbb := below_step (B := w.heap.size) (w := w) (by go_grown) hb (by simp; omega)))
    refine bodyPost_ret (v := .agg #[.int .i64 0, .int .i64 b, .int .i64 c, .int .i64 d, .int .i64 n]) (by simp [results, Try.results103, go_sem, hc]) rfl ⟨rfl, ?_⟩
    go_grown
  · go_enter Try.func103, Try.ntmps103
    go_wp2_with (first | (go_at_call 105; refine (l1List_any _ _ _ _ _ _).mono ?_; rintro e w' ⟨rfl, rfl⟩) | (go_at_call 106; refine (l1Term_any a 0 c d n _ _ (by refine ⟨?_, ?_, ?_, ?_, ?_, ?_⟩ <;> first | (simp [go_sem]; done) | (simp; omega))).mono ?_; rintro e w' ⟨rfl, hb⟩; obtain ⟨hc, hf⟩ := bcell hb; have hz := hb.size; simp at hz; have hbb := below_step (B := w.heap.size) (w := w) (by go_grown) hb (by simp; omega)))
    refine bodyPost_ret (v := .agg #[.int .i64 a, .int .i64 0, .int .i64 c, .int .i64 d, .int .i64 n]) (by simp [results, Try.results103, go_sem, hc]) rfl ⟨rfl, ?_⟩
    go_grown
  · go_enter Try.func103, Try.ntmps103
    go_wp2_with (first | (go_at_call 105; refine (l1List_any _ _ _ _ _ _).mono ?_; rintro e w' ⟨rfl, rfl⟩) | (go_at_call 106; refine (l1Term_any a b 0 d n _ _ (by refine ⟨?_, ?_, ?_, ?_, ?_, ?_⟩ <;> first | (simp [go_sem]; done) | (simp; omega))).mono ?_; rintro e w' ⟨rfl, hb⟩; obtain ⟨hc, hf⟩ := bcell hb; have hz := hb.size; simp at hz; have hbb := below_step (B := w.heap.size) (w := w) (by go_grown) hb (by simp; omega)))
    refine bodyPost_ret (v := .agg #[.int .i64 a, .int .i64 b, .int .i64 0, .int .i64 d, .int .i64 n]) (by simp [results, Try.results103, go_sem, hc]) rfl ⟨rfl, ?_⟩
    go_grown
  · go_enter Try.func103, Try.ntmps103
    go_wp2_with (first | (go_at_call 105; refine (l1List_any _ _ _ _ _ _).mono ?_; rintro e w' ⟨rfl, rfl⟩) | (go_at_call 106; refine (l1Term_any a b c 0 n _ _ (by refine ⟨?_, ?_, ?_, ?_, ?_, ?_⟩ <;> first | (simp [go_sem]; done) | (simp; omega))).mono ?_; rintro e w' ⟨rfl, hb⟩; obtain ⟨hc, hf⟩ := bcell hb; have hz := hb.size; simp at hz; have hbb := below_step (B := w.heap.size) (w := w) (by go_grown) hb (by simp; omega)))
    refine bodyPost_ret (v := .agg #[.int .i64 a, .int .i64 b, .int .i64 c, .int .i64 0, .int .i64 n]) (by simp [results, Try.results103, go_sem, hc]) rfl ⟨rfl, ?_⟩
    go_grown

end Go.Proofs.Ythphlkfofbdncaa
