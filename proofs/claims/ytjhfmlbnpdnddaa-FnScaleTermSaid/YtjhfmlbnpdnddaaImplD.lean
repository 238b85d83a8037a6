/- Contracts of ScaleTerm of the program. -/
import Derived.Test.YtjhfmlbnpdnddaaIm
import Derived.Test.YtjhfmlbnpdnddaaBaseC
import Derived.Deep.RegionWith
namespace Go.Proofs.Ytjhfmlbnpdnddaa
open Go.RowKit

set_option maxHeartbeats 1000000 in
theorem ScaleTerm_ok (a b c d n k : Int) (w : World) (h1 : tvB a b c d n = true) (h2 : wlB k 10000 = true) (h3 : tvB (a * k) (b * k) (c * k) (d * k) (n * k) = true) :
    Calls Try.prog 16 #[.agg #[.int .i64 a, .int .i64 b, .int .i64 c, .int .i64 d, .int .i64 n], .int .i64 k] w fun e w' => e = .returned (.tuple #[.agg #[.int .i64 (a * k), .int .i64 (b * k), .int .i64 (c * k), .int .i64 (d * k), .int .i64 (n * k)], .bool true]) ∧ Below w.heap.size w w' := by
  have q1 := tv_bd h1
  have H1 := Lib.hid h1
  have H2 := Lib.hid h2
  have H3 := Lib.hid h3
  simp only [wlB, decide_eq_true_eq] at h2
  clear h1 h3
  obtain ⟨⟨a0, a1⟩, ⟨b0, b1⟩, ⟨c0, c1⟩, ⟨d0, d1⟩, n0, n1⟩ := q1
  obtain ⟨k0, k1⟩ := h2
  obtain ⟨a2, a3⟩ := mul_bd2 a0 a1 k0 k1 (by omega)
  obtain ⟨b2, b3⟩ := mul_bd2 b0 b1 k0 k1 (by omega)
  obtain ⟨c2, c3⟩ := mul_bd2 c0 c1 k0 k1 (by omega)
  obtain ⟨d2, d3⟩ := mul_bd2 d0 d1 k0 k1 (by omega)
  obtain ⟨n2, n3⟩ := mul_bd2 n0 n1 k0 k1 (by omega)
  have hw : ∀ W, Calls Try.prog 61 #[.int .i64 k, .int .i64 10000] W fun e w' => e = .returned (.bool true) ∧ W = w' := fun W =>
    (withinLimit_any k 10000 W (by omega) (by omega)).mono fun _ _ ⟨he, hw⟩ => ⟨he.trans (ret_bool H2.out), hw⟩
  have HW := Lib.hid hw
  clear hw
  go_enter Try.func16, Try.ntmps16
  go_wp2_with (first | (go_at_call 23; refine (TermValid_is _ _ _ _ _ true _ H1.out).mono ?_; rintro e w' ⟨rfl, rfl⟩) | (go_at_call 61; refine (HW.out _).mono ?_; rintro e w' ⟨rfl, rfl⟩) | (go_at_call 62; refine (multiples_any _ _ _ _ _ _).mono ?_; rintro e w' ⟨rfl, rfl⟩) | (go_at_call 63; refine (times_of a b c d n k _ _ (by refine ⟨?_, ?_, ?_, ?_, ?_, ?_⟩ <;> first | (simp [go_sem]; done) | (simp; omega)) (by omega)).mono ?_; rintro e w' ⟨rfl, rfl⟩) | (go_at_call 64; refine (term_ok _ _ _ _ _ _ _ (by refine ⟨?_, ?_, ?_, ?_, ?_, ?_⟩ <;> first | (simp [go_sem]; done) | (simp; omega)) H3.out).mono ?_; rintro e w' ⟨rfl, hb⟩; obtain ⟨hc, hf⟩ := bcell hb; have hz := hb.size; simp at hz; have hbb := below_step (B := w.heap.size) (w := w) (by go_grown) hb (by simp; omega)))
  refine bodyPost_ret (v := .tuple #[.agg #[.int .i64 (a * k), .int .i64 (b * k), .int .i64 (c * k), .int .i64 (d * k), .int .i64 (n * k)], .bool true]) (by simp [results, Try.results16, go_sem, hc]) rfl ⟨rfl, ?_⟩
  go_grown

set_option maxHeartbeats 1000000 in
theorem ScaleTerm_far (a b c d n k : Int) (w : World) (h1 : tvB a b c d n = true) (h2 : wlB k 10000 = true) (h3 : tvB (a * k) (b * k) (c * k) (d * k) (n * k) = false) :
    Calls Try.prog 16 #[.agg #[.int .i64 a, .int .i64 b, .int .i64 c, .int .i64 d, .int .i64 n], .int .i64 k] w fun e w' => e = .returned (.tuple #[.agg #[.int .i64 0, .int .i64 0, .int .i64 0, .int .i64 0, .int .i64 0], .bool false]) ∧ Below w.heap.size w w' := by
  have q1 := tv_bd h1
  have H1 := Lib.hid h1
  have H2 := Lib.hid h2
  have H3 := Lib.hid h3
  simp only [wlB, decide_eq_true_eq] at h2
  clear h1 h3
  obtain ⟨⟨a0, a1⟩, ⟨b0, b1⟩, ⟨c0, c1⟩, ⟨d0, d1⟩, n0, n1⟩ := q1
  obtain ⟨k0, k1⟩ := h2
  obtain ⟨a2, a3⟩ := mul_bd2 a0 a1 k0 k1 (by omega)
  obtain ⟨b2, b3⟩ := mul_bd2 b0 b1 k0 k1 (by omega)
  obtain ⟨c2, c3⟩ := mul_bd2 c0 c1 k0 k1 (by omega)
  obtain ⟨d2, d3⟩ := mul_bd2 d0 d1 k0 k1 (by omega)
  obtain ⟨n2, n3⟩ := mul_bd2 n0 n1 k0 k1 (by omega)
  have hw : ∀ W, Calls Try.prog 61 #[.int .i64 k, .int .i64 10000] W fun e w' => e = .returned (.bool true) ∧ W = w' := fun W =>
    (withinLimit_any k 10000 W (by omega) (by omega)).mono fun _ _ ⟨he, hw⟩ => ⟨he.trans (ret_bool H2.out), hw⟩
  have HW := Lib.hid hw
  clear hw
  go_enter Try.func16, Try.ntmps16
  go_wp2_with (first | (go_at_call 23; refine (TermValid_is _ _ _ _ _ true _ H1.out).mono ?_; rintro e w' ⟨rfl, rfl⟩) | (go_at_call 61; refine (HW.out _).mono ?_; rintro e w' ⟨rfl, rfl⟩) | (go_at_call 62; refine (multiples_any _ _ _ _ _ _).mono ?_; rintro e w' ⟨rfl, rfl⟩) | (go_at_call 63; refine (times_of a b c d n k _ _ (by refine ⟨?_, ?_, ?_, ?_, ?_, ?_⟩ <;> first | (simp [go_sem]; done) | (simp; omega)) (by omega)).mono ?_; rintro e w' ⟨rfl, rfl⟩) | (go_at_call 64; refine (term_bad _ _ _ _ _ _ _ (by refine ⟨?_, ?_, ?_, ?_, ?_, ?_⟩ <;> first | (simp [go_sem]; done) | (simp; omega)) H3.out).mono ?_; rintro e w' ⟨rfl, hb⟩; obtain ⟨hc, hf⟩ := bcell hb; have hz := hb.size; simp at hz; have hbb := below_step (B := w.heap.size) (w := w) (by go_grown) hb (by simp; omega)))
  refine bodyPost_ret (v := .tuple #[.agg #[.int .i64 0, .int .i64 0, .int .i64 0, .int .i64 0, .int .i64 0], .bool false]) (by simp [results, Try.results16, go_sem, hc]) rfl ⟨rfl, ?_⟩
  go_grown

set_option maxHeartbeats 400000 in
theorem ScaleTerm_bad (a b c d n k : Int) (w : World) (h : (tvB a b c d n && wlB k 10000) = false) :
    Calls Try.prog 16 #[.agg #[.int .i64 a, .int .i64 b, .int .i64 c, .int .i64 d, .int .i64 n], .int .i64 k] w fun e w' => e = .returned (.tuple #[.agg #[.int .i64 0, .int .i64 0, .int .i64 0, .int .i64 0, .int .i64 0], .bool false]) ∧ Below w.heap.size w w' := by
  by_cases h1 : tvB a b c d n = true
  · have h2 : wlB k 10000 = false := by simpa [h1] using h
    have H1 := Lib.hid h1
    have hw : ∀ W, Calls Try.prog 61 #[.int .i64 k, .int .i64 10000] W fun e w' => e = .returned (.bool false) ∧ W = w' := fun W =>
      (withinLimit_any k 10000 W (by omega) (by omega)).mono fun _ _ ⟨he, hw⟩ => ⟨he.trans (ret_bool h2), hw⟩
    have HW := Lib.hid hw
    clear h h1 h2 hw
    go_enter Try.func16, Try.ntmps16
    go_wp2_with (first | (go_at_call 23; refine (TermValid_is _ _ _ _ _ true _ H1.out).mono ?_; rintro e w' ⟨rfl, rfl⟩) | (go_at_call 61; refine (HW.out _).mono ?_; rintro e w' ⟨rfl, rfl⟩))
    go_returns
    exact ⟨rfl, by go_grown⟩
  · have h2 : tvB a b c d n = false := by simpa using h1
    have H2 := Lib.hid h2
    clear h h1 h2
    go_enter Try.func16, Try.ntmps16
    go_wp2_with (go_at_call 23; refine (TermValid_is _ _ _ _ _ false _ H2.out).mono ?_; rintro e w' ⟨rfl, rfl⟩)
    go_returns
    exact ⟨rfl, by go_grown⟩

end Go.Proofs.Ytjhfmlbnpdnddaa
