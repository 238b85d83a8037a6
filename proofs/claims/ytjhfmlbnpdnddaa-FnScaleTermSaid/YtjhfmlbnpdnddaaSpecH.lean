/- Contracts of the model's ScaleTerm. -/
import Derived.Test.YtjhfmlbnpdnddaaSpecD
import Derived.Test.YtjhfmlbnpdnddaaIm
import Derived.Test.YtjhfmlbnpdnddaaHeld
namespace Go.Proofs.Ytjhfmlbnpdnddaa
open Go.RowKit

set_option maxHeartbeats 400000 in
theorem specScaleTerm_ok (a b c d n k : Int) (w : World) (h1 : tvB a b c d n = true) (h2 : wlB k 10000 = true) (h3 : tvB (a * k) (b * k) (c * k) (d * k) (n * k) = true) :
    Calls Try.prog 17 #[.agg #[.int .i64 a, .int .i64 b, .int .i64 c, .int .i64 d, .int .i64 n], .int .i64 k] w fun e w' => e = .returned (.tuple #[.agg #[.int .i64 (a * k), .int .i64 (b * k), .int .i64 (c * k), .int .i64 (d * k), .int .i64 (n * k)], .bool true]) ∧ Below w.heap.size w w' := by
  have q1 := tv_bd h1
  have H1 := Lib.hid h1
  have H3 := Lib.hid h3
  have H2 : Hid (inB k (-10000) 10000 = true) := h2
  simp only [wlB, decide_eq_true_eq] at h2
  obtain ⟨⟨a0, a1⟩, ⟨b0, b1⟩, ⟨c0, c1⟩, ⟨d0, d1⟩, n0, n1⟩ := q1
  obtain ⟨k0, k1⟩ := h2
  have e1 := mul_bd2 a0 a1 k0 k1 (by omega)
  have e2 := mul_bd2 b0 b1 k0 k1 (by omega)
  have e3 := mul_bd2 c0 c1 k0 k1 (by omega)
  have e4 := mul_bd2 d0 d1 k0 k1 (by omega)
  have e5 := mul_bd2 n0 n1 k0 k1 (by omega)
  have hp := fun W => l1Plus_any 0 0 0 0 0 k a b c d n W (by rw [Int.mul_comm]; omega) (by rw [Int.mul_comm]; omega) (by rw [Int.mul_comm]; omega) (by rw [Int.mul_comm]; omega) (by rw [Int.mul_comm]; omega) (by omega) (by omega) (by omega) (by omega) (by omega)
  simp only [Int.zero_add] at hp
  rw [Int.mul_comm k a, Int.mul_comm k b, Int.mul_comm k c, Int.mul_comm k d, Int.mul_comm k n] at hp
  have HP := Lib.hid hp
  clear h1 h3 hp e1 e2 e3 e4 e5 a0 a1 b0 b1 c0 c1 d0 d1 n0 n1 k0 k1
  go_enter Try.func17, Try.ntmps17
  go_wp2_with (first | (go_at_call 65; refine (l1In_is _ _ _ true _ H2.out).mono ?_; rintro e w' ⟨rfl, rfl⟩) | (go_at_call 66; refine (specTermValid_is _ _ _ _ _ true _ H1.out).mono ?_; rintro e w' ⟨rfl, rfl⟩))
  generalize hW : ((((w.alloc (.cells #[.int .i64 a, .int .i64 b, .int .i64 c, .int .i64 d, .int .i64 n] 24)).alloc (.cells #[.int .i64 0, .int .i64 0, .int .i64 0, .int .i64 0, .int .i64 0] 24)).alloc (.cells #[.int .i64 a, .int .i64 b, .int .i64 c, .int .i64 d, .int .i64 n] 24)).alloc (.cells #[.int .i64 a, .int .i64 b, .int .i64 c, .int .i64 d, .int .i64 n] 24)).alloc (.cells #[.int .i64 a, .int .i64 b, .int .i64 c, .int .i64 d, .int .i64 n] 3) = W
  have hz : C5 W (w.heap.size + 1) 0 0 0 0 0 := by subst hW; exact (by refine ⟨?_, ?_, ?_, ?_, ?_, ?_⟩ <;> first | (simp [go_sem]; done) | (simp; omega))
  have fz0 : Hid (∀ o, W.frozen? ⟨w.heap.size + 1, o, none⟩ = false) := by intro o; subst hW; simp [go_sem]
  have hw0 : Below w.heap.size w W := by subst hW; go_grown
  clear hW
  refine (HP.out _).mono ?_
  rintro e w1 ⟨rfl, hb1⟩
  go_wp2_with fail
  refine (l1Result_yes _ _ _ _ _ _ H3.out).mono ?_
  rintro e w2 ⟨rfl, hb2⟩
  have hbb := below_on hb1 hb2
  obtain ⟨z0, z1, z2, z3, z4, z5⟩ := c5_on hz hbb
  have fz := fz_on hz fz0 hbb
  have hbw := below_on hw0 hbb
  go_wp2
  refine bodyPost_ret (v := .tuple #[.agg #[.int .i64 (a * k), .int .i64 (b * k), .int .i64 (c * k), .int .i64 (d * k), .int .i64 (n * k)], .bool true]) (by simp [results, Try.results17, go_sem, z1, z2, z3, z4, z5]) rfl ⟨rfl, ?_⟩
  go_grown

set_option maxHeartbeats 400000 in
theorem specScaleTerm_far (a b c d n k : Int) (w : World) (h1 : tvB a b c d n = true) (h2 : wlB k 10000 = true) (h3 : tvB (a * k) (b * k) (c * k) (d * k) (n * k) = false) :
    Calls Try.prog 17 #[.agg #[.int .i64 a, .int .i64 b, .int .i64 c, .int .i64 d, .int .i64 n], .int .i64 k] w fun e w' => e = .returned (.tuple #[.agg #[.int .i64 0, .int .i64 0, .int .i64 0, .int .i64 0, .int .i64 0], .bool false]) ∧ Below w.heap.size w w' := by
  have q1 := tv_bd h1
  have H1 := Lib.hid h1
  have H3 := Lib.hid h3
  have H2 : Hid (inB k (-10000) 10000 = true) := h2
  simp only [wlB, decide_eq_true_eq] at h2
  obtain ⟨⟨a0, a1⟩, ⟨b0, b1⟩, ⟨c0, c1⟩, ⟨d0, d1⟩, n0, n1⟩ := q1
  obtain ⟨k0, k1⟩ := h2
  have e1 := mul_bd2 a0 a1 k0 k1 (by omega)
  have e2 := mul_bd2 b0 b1 k0 k1 (by omega)
  have e3 := mul_bd2 c0 c1 k0 k1 (by omega)
  have e4 := mul_bd2 d0 d1 k0 k1 (by omega)
  have e5 := mul_bd2 n0 n1 k0 k1 (by omega)
  have hp := fun W => l1Plus_any 0 0 0 0 0 k a b c d n W (by rw [Int.mul_comm]; omega) (by rw [Int.mul_comm]; omega) (by rw [Int.mul_comm]; omega) (by rw [Int.mul_comm]; omega) (by rw [Int.mul_comm]; omega) (by omega) (by omega) (by omega) (by omega) (by omega)
  simp only [Int.zero_add] at hp
  rw [Int.mul_comm k a, Int.mul_comm k b, Int.mul_comm k c, Int.mul_comm k d, Int.mul_comm k n] at hp
  have HP := Lib.hid hp
  clear h1 h3 hp e1 e2 e3 e4 e5 a0 a1 b0 b1 c0 c1 d0 d1 n0 n1 k0 k1
  go_enter Try.func17, Try.ntmps17
  go_wp2_with (first | (go_at_call 65; refine (l1In_is _ _ _ true _ H2.out).mono ?_; rintro e w' ⟨rfl, rfl⟩) | (go_at_call 66; refine (specTermValid_is _ _ _ _ _ true _ H1.out).mono ?_; rintro e w' ⟨rfl, rfl⟩))
  generalize hW : ((((w.alloc (.cells #[.int .i64 a, .int .i64 b, .int .i64 c, .int .i64 d, .int .i64 n] 24)).alloc (.cells #[.int .i64 0, .int .i64 0, .int .i64 0, .int .i64 0, .int .i64 0] 24)).alloc (.cells #[.int .i64 a, .int .i64 b, .int .i64 c, .int .i64 d, .int .i64 n] 24)).alloc (.cells #[.int .i64 a, .int .i64 b, .int .i64 c, .int .i64 d, .int .i64 n] 24)).alloc (.cells #[.int .i64 a, .int .i64 b, .int .i64 c, .int .i64 d, .int .i64 n] 3) = W
  have hz : C5 W (w.heap.size + 1) 0 0 0 0 0 := by subst hW; exact (by refine ⟨?_, ?_, ?_, ?_, ?_, ?_⟩ <;> first | (simp [go_sem]; done) | (simp; omega))
  have fz0 : Hid (∀ o, W.frozen? ⟨w.heap.size + 1, o, none⟩ = false) := by intro o; subst hW; simp [go_sem]
  have hw0 : Below w.heap.size w W := by subst hW; go_grown
  clear hW
  refine (HP.out _).mono ?_
  rintro e w1 ⟨rfl, hb1⟩
  go_wp2_with fail
  refine (l1Result_far _ _ _ _ _ _ H3.out).mono ?_
  rintro e w2 ⟨rfl, hb2⟩
  have hbb := below_on hb1 hb2
  obtain ⟨z0, z1, z2, z3, z4, z5⟩ := c5_on hz hbb
  have fz := fz_on hz fz0 hbb
  have hbw := below_on hw0 hbb
  go_wp2
  refine bodyPost_ret (v := .tuple #[.agg #[.int .i64 0, .int .i64 0, .int .i64 0, .int .i64 0, .int .i64 0], .bool false]) (by simp [results, Try.results17, go_sem, z1, z2, z3, z4, z5]) rfl ⟨rfl, ?_⟩
  go_grown

set_option maxHeartbeats 400000 in
theorem specScaleTerm_bad (a b c d n k : Int) (w : World) (h : (tvB a b c d n && wlB k 10000) = false) :
    Calls Try.prog 17 #[.agg #[.int .i64 a, .int .i64 b, .int .i64 c, .int .i64 d, .int .i64 n], .int .i64 k] w fun e w' => e = .returned (.tuple #[.agg #[.int .i64 0, .int .i64 0, .int .i64 0, .int .i64 0, .int .i64 0], .bool false]) ∧ Below w.heap.size w w' := by
  have hk : inB k (-10000) 10000 = wlB k 10000 := rfl
  by_cases h1 : wlB k 10000 = true
  · have h2 : tvB a b c d n = false := by simpa [h1] using h
    have H1 := Lib.hid (hk.trans h1)
    have H2 := Lib.hid h2
    clear h h1 h2 hk
    go_enter Try.func17, Try.ntmps17
    go_wp2_with (first | (go_at_call 65; refine (l1In_is _ _ _ true _ H1.out).mono ?_; rintro e w' ⟨rfl, rfl⟩) | (go_at_call 66; refine (specTermValid_is _ _ _ _ _ false _ H2.out).mono ?_; rintro e w' ⟨rfl, rfl⟩))
    refine bodyPost_ret (v := .tuple #[.agg #[.int .i64 0, .int .i64 0, .int .i64 0, .int .i64 0, .int .i64 0], .bool false]) (by simp [results, Try.results17, go_sem]) rfl ⟨rfl, ?_⟩
    go_grown
  · have h2 : wlB k 10000 = false := by simpa using h1
    have H1 := Lib.hid (hk.trans h2)
    clear h h1 h2 hk
    go_enter Try.func17, Try.ntmps17
    go_wp2_with (first | (go_at_call 65; refine (l1In_is _ _ _ false _ H1.out).mono ?_; rintro e w' ⟨rfl, rfl⟩))
    refine bodyPost_ret (v := .tuple #[.agg #[.int .i64 0, .int .i64 0, .int .i64 0, .int .i64 0, .int .i64 0], .bool false]) (by simp [results, Try.results17, go_sem]) rfl ⟨rfl, ?_⟩
    go_grown

end Go.Proofs.Ytjhfmlbnpdnddaa
