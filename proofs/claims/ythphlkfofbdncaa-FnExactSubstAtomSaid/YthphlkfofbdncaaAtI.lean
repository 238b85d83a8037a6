/- Contracts of SubstAtom of the program and of the model; the walk of the law that says that they agree. -/
import Derived.Test.YthphlkfofbdncaaAtC
import Derived.Test.YthphlkfofbdncaaImplE
import Derived.Test.YthphlkfofbdncaaSpecI
import Derived.Test.YthphlkfofbdncaaHeld2
import Derived.Deep.DeepCutAuto
namespace Go.Proofs.Ythphlkfofbdncaa
open Go.RowKit

set_option maxHeartbeats 2000000 in
theorem SubstAtom_yes (k m a b c d n v a' b' c' d' n' x0 x1 x2 x3 x4 : Int) (w : World) (h : avB k m a b c d n = true)
    (HT : Hid (∀ W, Calls Try.prog 63 #[.agg #[.int .i64 a, .int .i64 b, .int .i64 c, .int .i64 d, .int .i64 n], .int .i64 v, .agg #[.int .i64 a', .int .i64 b', .int .i64 c', .int .i64 d', .int .i64 n']] W fun e w' => e = .returned (.tuple #[.agg #[.int .i64 x0, .int .i64 x1, .int .i64 x2, .int .i64 x3, .int .i64 x4], .bool true]) ∧ Below W.heap.size W w')) :
    Calls Try.prog 35 #[.agg #[.int .i64 k, .int .i64 m, .int .i64 a, .int .i64 b, .int .i64 c, .int .i64 d, .int .i64 n], .int .i64 v, .agg #[.int .i64 a', .int .i64 b', .int .i64 c', .int .i64 d', .int .i64 n']] w fun e w' => e = .returned (.tuple #[.agg #[.int .i64 k, .int .i64 m, .int .i64 x0, .int .i64 x1, .int .i64 x2, .int .i64 x3, .int .i64 x4], .bool true]) ∧ Below w.heap.size w w' := by
  have HV := Lib.hid h
  clear h
  go_enter Try.func35, Try.ntmps35
  go_wp2_with fail
  generalize hW : ((w.alloc (.cells #[.int .i64 k, .int .i64 m, .int .i64 a, .int .i64 b, .int .i64 c, .int .i64 d, .int .i64 n] 29)).alloc (.cells #[.int .i64 a', .int .i64 b', .int .i64 c', .int .i64 d', .int .i64 n'] 27)).alloc (.cells #[.int .i64 0, .int .i64 0, .int .i64 0, .int .i64 0, .int .i64 0, .int .i64 0, .int .i64 0] 29) = W
  have hx : C7 W w.heap.size k m a b c d n := by subst hW; exact (by refine ⟨?_, ?_, ?_, ?_, ?_, ?_, ?_, ?_⟩ <;> first | (simp [go_sem]; done) | (simp; omega))
  have hz : C7 W (w.heap.size + 1 + 1) 0 0 0 0 0 0 0 := by subst hW; exact (by refine ⟨?_, ?_, ?_, ?_, ?_, ?_, ?_, ?_⟩ <;> first | (simp [go_sem]; done) | (simp; omega))
  have fx : Hid (∀ o, W.frozen? ⟨w.heap.size, o, none⟩ = false) := by intro o; subst hW; simp [go_sem]
  have fz : Hid (∀ o, W.frozen? ⟨w.heap.size + 1 + 1, o, none⟩ = false) := by intro o; subst hW; simp [go_sem]
  have hb0 : Below w.heap.size w W := by subst hW; go_grown
  clear hW
  refine (HT.out _).mono ?_
  rintro e w1 ⟨rfl, hb1⟩
  obtain ⟨q0, q1, q2, q3, q4, q5, q6, q7⟩ := c7_on hx hb1
  go_wp2_with fail
  generalize hW2 : w1.alloc (.cells #[.int .i64 x0, .int .i64 x1, .int .i64 x2, .int .i64 x3, .int .i64 x4] 27) = W2
  have ht2 : C5 W2 w1.heap.size x0 x1 x2 x3 x4 := by subst hW2; exact (by refine ⟨?_, ?_, ?_, ?_, ?_, ?_⟩ <;> first | (simp [go_sem]; done) | (simp; omega))
  have hbW2 : Below W.heap.size W W2 := below_on hb1 (by subst hW2; go_grown)
  clear hW2
  refine (AtomValid_is _ _ _ _ _ _ _ true _ HV.out).mono ?_
  rintro e w2 ⟨rfl, hb2⟩
  have hb12 := below_on hbW2 hb2
  obtain ⟨t0, t1, t2, t3, t4, t5⟩ := c5_on ht2 hb2
  clear q0 q1 q2 q3 q4 q5 q6 q7
  obtain ⟨q0, q1, q2, q3, q4, q5, q6, q7⟩ := c7_on hx hb12
  have hzz := c7_on hz hb12
  have fzz : Hid (∀ o, w2.frozen? ⟨w.heap.size + 1 + 1, o, none⟩ = false) := fz7_on hz.1 fz hb12
  have fx1 := fz7_on hx.1 fx hb12
  have hbw1 := below_on hb0 hb12
  go_upto_region 5 with fail
  generalize hW3 : World.setCell _ _ _ = W3
  have hx3 : C7 W3 w.heap.size k m x0 x1 x2 x3 x4 := by subst hW3; refine ⟨?_, ?_, ?_, ?_, ?_, ?_, ?_, ?_⟩ <;> first | (simp [go_sem, *]; done) | (simp [World.setCell]; omega)
  have hz3 : C7 W3 (w.heap.size + 1 + 1) 0 0 0 0 0 0 0 := by
    obtain ⟨z0, z1, z2, z3, z4, z5, z6, z7⟩ := hzz
    subst hW3; refine ⟨?_, ?_, ?_, ?_, ?_, ?_, ?_, ?_⟩ <;> first | (simp [go_sem, *]; done) | (simp [World.setCell]; omega)
  have fz3 : ∀ o, W3.frozen? ⟨w.heap.size + 1 + 1, o, none⟩ = false := by intro o; subst hW3; simp [go_sem, fzz.out]
  have hb3 : Below w.heap.size w W3 := by subst hW3; go_grown
  clear hW3 q0 q1 q2 q3 q4 q5 q6 q7 t0 t1 t2 t3 t4 t5 fx1 hbw1 hzz fzz hx hz ht2 hb2 hb12 hbW2 hb1 hb0
  obtain ⟨q0, q1, q2, q3, q4, q5, q6, q7⟩ := hx3
  obtain ⟨z0, z1, z2, z3, z4, z5, z6, z7⟩ := hz3
  go_wp2
  refine bodyPost_ret (v := .tuple #[.agg #[.int .i64 k, .int .i64 m, .int .i64 x0, .int .i64 x1, .int .i64 x2, .int .i64 x3, .int .i64 x4], .bool true]) (by simp [results, Try.results35, go_sem, z1, z2, z3, z4, z5, z6, z7]) rfl ⟨rfl, ?_⟩
  go_grown

set_option maxHeartbeats 2000000 in
theorem SubstAtom_off (k m a b c d n v a' b' c' d' n' x0 x1 x2 x3 x4 : Int) (w : World) (h : avB k m a b c d n = false)
    (HT : Hid (∀ W, Calls Try.prog 63 #[.agg #[.int .i64 a, .int .i64 b, .int .i64 c, .int .i64 d, .int .i64 n], .int .i64 v, .agg #[.int .i64 a', .int .i64 b', .int .i64 c', .int .i64 d', .int .i64 n']] W fun e w' => e = .returned (.tuple #[.agg #[.int .i64 x0, .int .i64 x1, .int .i64 x2, .int .i64 x3, .int .i64 x4], .bool true]) ∧ Below W.heap.size W w')) :
    Calls Try.prog 35 #[.agg #[.int .i64 k, .int .i64 m, .int .i64 a, .int .i64 b, .int .i64 c, .int .i64 d, .int .i64 n], .int .i64 v, .agg #[.int .i64 a', .int .i64 b', .int .i64 c', .int .i64 d', .int .i64 n']] w fun e w' => e = .returned (.tuple #[.agg #[.int .i64 0, .int .i64 0, .int .i64 0, .int .i64 0, .int .i64 0, .int .i64 0, .int .i64 0], .bool false]) ∧ Below w.heap.size w w' := by
  have HV := Lib.hid h
  clear h
  go_enter Try.func35, Try.ntmps35
  go_wp2_with fail
  generalize hW : ((w.alloc (.cells #[.int .i64 k, .int .i64 m, .int .i64 a, .int .i64 b, .int .i64 c, .int .i64 d, .int .i64 n] 29)).alloc (.cells #[.int .i64 a', .int .i64 b', .int .i64 c', .int .i64 d', .int .i64 n'] 27)).alloc (.cells #[.int .i64 0, .int .i64 0, .int .i64 0, .int .i64 0, .int .i64 0, .int .i64 0, .int .i64 0] 29) = W
  have hx : C7 W w.heap.size k m a b c d n := by subst hW; exact (by refine ⟨?_, ?_, ?_, ?_, ?_, ?_, ?_, ?_⟩ <;> first | (simp [go_sem]; done) | (simp; omega))
  have hz : C7 W (w.heap.size + 1 + 1) 0 0 0 0 0 0 0 := by subst hW; exact (by refine ⟨?_, ?_, ?_, ?_, ?_, ?_, ?_, ?_⟩ <;> first | (simp [go_sem]; done) | (simp; omega))
  have fx : Hid (∀ o, W.frozen? ⟨w.heap.size, o, none⟩ = false) := by intro o; subst hW; simp [go_sem]
  have fz : Hid (∀ o, W.frozen? ⟨w.heap.size + 1 + 1, o, none⟩ = false) := by intro o; subst hW; simp [go_sem]
  have hb0 : Below w.heap.size w W := by subst hW; go_grown
  clear hW
  refine (HT.out _).mono ?_
  rintro e w1 ⟨rfl, hb1⟩
  obtain ⟨q0, q1, q2, q3, q4, q5, q6, q7⟩ := c7_on hx hb1
  go_wp2_with fail
  generalize hW2 : w1.alloc (.cells #[.int .i64 x0, .int .i64 x1, .int .i64 x2, .int .i64 x3, .int .i64 x4] 27) = W2
  have ht2 : C5 W2 w1.heap.size x0 x1 x2 x3 x4 := by subst hW2; exact (by refine ⟨?_, ?_, ?_, ?_, ?_, ?_⟩ <;> first | (simp [go_sem]; done) | (simp; omega))
  have hbW2 : Below W.heap.size W W2 := below_on hb1 (by subst hW2; go_grown)
  clear hW2
  refine (AtomValid_is _ _ _ _ _ _ _ false _ HV.out).mono ?_
  rintro e w2 ⟨rfl, hb2⟩
  have hb12 := below_on hbW2 hb2
  obtain ⟨t0, t1, t2, t3, t4, t5⟩ := c5_on ht2 hb2
  clear q0 q1 q2 q3 q4 q5 q6 q7
  obtain ⟨q0, q1, q2, q3, q4, q5, q6, q7⟩ := c7_on hx hb12
  obtain ⟨z0, z1, z2, z3, z4, z5, z6, z7⟩ := c7_on hz hb12
  have fz1 := fz7_on hz.1 fz hb12
  have fx1 := fz7_on hx.1 fx hb12
  have hbw1 := below_on hb0 hb12
  go_wp2
  refine bodyPost_ret (v := .tuple #[.agg #[.int .i64 0, .int .i64 0, .int .i64 0, .int .i64 0, .int .i64 0, .int .i64 0, .int .i64 0], .bool false]) (by simp [results, Try.results35, go_sem, z1, z2, z3, z4, z5, z6, z7]) rfl ⟨rfl, ?_⟩
  go_grown

set_option maxHeartbeats 2000000 in
theorem SubstAtom_no (k m a b c d n v a' b' c' d' n' x0 x1 x2 x3 x4 : Int) (w : World)
    (HT : Hid (∀ W, Calls Try.prog 63 #[.agg #[.int .i64 a, .int .i64 b, .int .i64 c, .int .i64 d, .int .i64 n], .int .i64 v, .agg #[.int .i64 a', .int .i64 b', .int .i64 c', .int .i64 d', .int .i64 n']] W fun e w' => e = .returned (.tuple #[.agg #[.int .i64 x0, .int .i64 x1, .int .i64 x2, .int .i64 x3, .int .i64 x4], .bool false]) ∧ Below W.heap.size W w')) :
    Calls Try.prog 35 #[.agg #[.int .i64 k, .int .i64 m, .int .i64 a, .int .i64 b, .int .i64 c, .int .i64 d, .int .i64 n], .int .i64 v, .agg #[.int .i64 a', .int .i64 b', .int .i64 c', .int .i64 d', .int .i64 n']] w fun e w' => e = .returned (.tuple #[.agg #[.int .i64 0, .int .i64 0, .int .i64 0, .int .i64 0, .int .i64 0, .int .i64 0, .int .i64 0], .bool false]) ∧ Below w.heap.size w w' := by
  go_enter Try.func35, Try.ntmps35
  go_wp2_with fail
  generalize hW : ((w.alloc (.cells #[.int .i64 k, .int .i64 m, .int .i64 a, .int .i64 b, .int .i64 c, .int .i64 d, .int .i64 n] 29)).alloc (.cells #[.int .i64 a', .int .i64 b', .int .i64 c', .int .i64 d', .int .i64 n'] 27)).alloc (.cells #[.int .i64 0, .int .i64 0, .int .i64 0, .int .i64 0, .int .i64 0, .int .i64 0, .int .i64 0] 29) = W
  have hx : C7 W w.heap.size k m a b c d n := by subst hW; exact (by refine ⟨?_, ?_, ?_, ?_, ?_, ?_, ?_, ?_⟩ <;> first | (simp [go_sem]; done) | (simp; omega))
  have hz : C7 W (w.heap.size + 1 + 1) 0 0 0 0 0 0 0 := by subst hW; exact (by refine ⟨?_, ?_, ?_, ?_, ?_, ?_, ?_, ?_⟩ <;> first | (simp [go_sem]; done) | (simp; omega))
  have fx : Hid (∀ o, W.frozen? ⟨w.heap.size, o, none⟩ = false) := by intro o; subst hW; simp [go_sem]
  have fz : Hid (∀ o, W.frozen? ⟨w.heap.size + 1 + 1, o, none⟩ = false) := by intro o; subst hW; simp [go_sem]
  have hb0 : Below w.heap.size w W := by subst hW; go_grown
  clear hW
  refine (HT.out _).mono ?_
  rintro e w1 ⟨rfl, hb1⟩
  obtain ⟨q0, q1, q2, q3, q4, q5, q6, q7⟩ := c7_on hx hb1
  go_upto_region 3 with fail
  generalize hW2 : w1.alloc _ = W2
  have hb12 : Below W.heap.size W W2 := below_on hb1 (by subst hW2; go_grown)
  clear hW2 hb1 q0 q1 q2 q3 q4 q5 q6 q7
  obtain ⟨z0, z1, z2, z3, z4, z5, z6, z7⟩ := c7_on hz hb12
  have fz1 := fz7_on hz.1 fz hb12
  have fx1 := fz7_on hx.1 fx hb12
  have hbw1 := below_on hb0 hb12
  go_wp2
  refine bodyPost_ret (v := .tuple #[.agg #[.int .i64 0, .int .i64 0, .int .i64 0, .int .i64 0, .int .i64 0, .int .i64 0, .int .i64 0], .bool false]) (by simp [results, Try.results35, go_sem, z1, z2, z3, z4, z5, z6, z7]) rfl ⟨rfl, ?_⟩
  go_grown

set_option maxHeartbeats 2000000 in
theorem specSubstAtom_yes (k m a b c d n v a' b' c' d' n' x0 x1 x2 x3 x4 : Int) (w : World) (h : avB k m a b c d n = true)
    (HT : Hid (∀ W, Calls Try.prog 64 #[.agg #[.int .i64 a, .int .i64 b, .int .i64 c, .int .i64 d, .int .i64 n], .int .i64 v, .agg #[.int .i64 a', .int .i64 b', .int .i64 c', .int .i64 d', .int .i64 n']] W fun e w' => e = .returned (.tuple #[.agg #[.int .i64 x0, .int .i64 x1, .int .i64 x2, .int .i64 x3, .int .i64 x4], .bool true]) ∧ Below W.heap.size W w')) :
    Calls Try.prog 33 #[.agg #[.int .i64 k, .int .i64 m, .int .i64 a, .int .i64 b, .int .i64 c, .int .i64 d, .int .i64 n], .int .i64 v, .agg #[.int .i64 a', .int .i64 b', .int .i64 c', .int .i64 d', .int .i64 n']] w fun e w' => e = .returned (.tuple #[.agg #[.int .i64 k, .int .i64 m, .int .i64 x0, .int .i64 x1, .int .i64 x2, .int .i64 x3, .int .i64 x4], .bool true]) ∧ Below w.heap.size w w' := by
  have HV := Lib.hid h
  clear h
  go_enter Try.func33, Try.ntmps33
  go_wp2_with fail
  generalize hW : ((w.alloc (.cells #[.int .i64 k, .int .i64 m, .int .i64 a, .int .i64 b, .int .i64 c, .int .i64 d, .int .i64 n] 29)).alloc (.cells #[.int .i64 a', .int .i64 b', .int .i64 c', .int .i64 d', .int .i64 n'] 27)).alloc (.cells #[.int .i64 0, .int .i64 0, .int .i64 0, .int .i64 0, .int .i64 0, .int .i64 0, .int .i64 0] 29) = W
  have hx : C7 W w.heap.size k m a b c d n := by subst hW; exact (by refine ⟨?_, ?_, ?_, ?_, ?_, ?_, ?_, ?_⟩ <;> first | (simp [go_sem]; done) | (simp; omega))
  have hz : C7 W (w.heap.size + 1 + 1) 0 0 0 0 0 0 0 := by subst hW; exact (by refine ⟨?_, ?_, ?_, ?_, ?_, ?_, ?_, ?_⟩ <;> first | (simp [go_sem]; done) | (simp; omega))
  have fx : Hid (∀ o, W.frozen? ⟨w.heap.size, o, none⟩ = false) := by intro o; subst hW; simp [go_sem]
  have fz : Hid (∀ o, W.frozen? ⟨w.heap.size + 1 + 1, o, none⟩ = false) := by intro o; subst hW; simp [go_sem]
  have hb0 : Below w.heap.size w W := by subst hW; go_grown
  clear hW
  refine (HT.out _).mono ?_
  rintro e w1 ⟨rfl, hb1⟩
  obtain ⟨q0, q1, q2, q3, q4, q5, q6, q7⟩ := c7_on hx hb1
  go_wp2_with fail
  generalize hW2 : w1.alloc (.cells #[.int .i64 x0, .int .i64 x1, .int .i64 x2, .int .i64 x3, .int .i64 x4] 27) = W2
  have ht2 : C5 W2 w1.heap.size x0 x1 x2 x3 x4 := by subst hW2; exact (by refine ⟨?_, ?_, ?_, ?_, ?_, ?_⟩ <;> first | (simp [go_sem]; done) | (simp; omega))
  have hbW2 : Below W.heap.size W W2 := below_on hb1 (by subst hW2; go_grown)
  clear hW2
  refine (specAtomValid_is _ _ _ _ _ _ _ true _ HV.out).mono ?_
  rintro e w2 ⟨rfl, hb2⟩
  have hb12 := below_on hbW2 hb2
  obtain ⟨t0, t1, t2, t3, t4, t5⟩ := c5_on ht2 hb2
  clear q0 q1 q2 q3 q4 q5 q6 q7
  obtain ⟨q0, q1, q2, q3, q4, q5, q6, q7⟩ := c7_on hx hb12
  obtain ⟨z0, z1, z2, z3, z4, z5, z6, z7⟩ := c7_on hz hb12
  have fz1 := fz7_on hz.1 fz hb12
  have fx1 := fz7_on hx.1 fx hb12
  have hbw1 := below_on hb0 hb12
  go_wp2
  refine bodyPost_ret (v := .tuple #[.agg #[.int .i64 k, .int .i64 m, .int .i64 x0, .int .i64 x1, .int .i64 x2, .int .i64 x3, .int .i64 x4], .bool true]) (by simp [results, Try.results33, go_sem, z1, z2, z3, z4, z5, z6, z7]) rfl ⟨rfl, ?_⟩
  go_grown

set_option maxHeartbeats 2000000 in
theorem specSubstAtom_off (k m a b c d n v a' b' c' d' n' x0 x1 x2 x3 x4 : Int) (w : World) (h : avB k m a b c d n = false)
    (HT : Hid (∀ W, Calls Try.prog 64 #[.agg #[.int .i64 a, .int .i64 b, .int .i64 c, .int .i64 d, .int .i64 n], .int .i64 v, .agg #[.int .i64 a', .int .i64 b', .int .i64 c', .int .i64 d', .int .i64 n']] W fun e w' => e = .returned (.tuple #[.agg #[.int .i64 x0, .int .i64 x1, .int .i64 x2, .int .i64 x3, .int .i64 x4], .bool true]) ∧ Below W.heap.size W w')) :
    Calls Try.prog 33 #[.agg #[.int .i64 k, .int .i64 m, .int .i64 a, .int .i64 b, .int .i64 c, .int .i64 d, .int .i64 n], .int .i64 v, .agg #[.int .i64 a', .int .i64 b', .int .i64 c', .int .i64 d', .int .i64 n']] w fun e w' => e = .returned (.tuple #[.agg #[.int .i64 0, .int .i64 0, .int .i64 0, .int .i64 0, .int .i64 0, .int .i64 0, .int .i64 0], .bool false]) ∧ Below w.heap.size w w' := by
  have HV := Lib.hid h
  clear h
  go_enter Try.func33, Try.ntmps33
  go_wp2_with fail
  generalize hW : ((w.alloc (.cells #[.int .i64 k, .int .i64 m, .int .i64 a, .int .i64 b, .int .i64 c, .int .i64 d, .int .i64 n] 29)).alloc (.cells #[.int .i64 a', .int .i64 b', .int .i64 c', .int .i64 d', .int .i64 n'] 27)).alloc (.cells #[.int .i64 0, .int .i64 0, .int .i64 0, .int .i64 0, .int .i64 0, .int .i64 0, .int .i64 0] 29) = W
  have hx : C7 W w.heap.size k m a b c d n := by subst hW; exact (by refine ⟨?_, ?_, ?_, ?_, ?_, ?_, ?_, ?_⟩ <;> first | (simp [go_sem]; done) | (simp; omega))
  have hz : C7 W (w.heap.size + 1 + 1) 0 0 0 0 0 0 0 := by subst hW; exact (by refine ⟨?_, ?_, ?_, ?_, ?_, ?_, ?_, ?_⟩ <;> first | (simp [go_sem]; done) | (simp; omega))
  have fx : Hid (∀ o, W.frozen? ⟨w.heap.size, o, none⟩ = false) := by intro o; subst hW; simp [go_sem]
  have fz : Hid (∀ o, W.frozen? ⟨w.heap.size + 1 + 1, o, none⟩ = false) := by intro o; subst hW; simp [go_sem]
  have hb0 : Below w.heap.size w W := by subst hW; go_grown
  clear hW
  refine (HT.out _).mono ?_
  rintro e w1 ⟨rfl, hb1⟩
  obtain ⟨q0, q1, q2, q3, q4, q5, q6, q7⟩ := c7_on hx hb1
  go_wp2_with fail
  generalize hW2 : w1.alloc (.cells #[.int .i64 x0, .int .i64 x1, .int .i64 x2, .int .i64 x3, .int .i64 x4] 27) = W2
  have ht2 : C5 W2 w1.heap.size x0 x1 x2 x3 x4 := by subst hW2; exact (by refine ⟨?_, ?_, ?_, ?_, ?_, ?_⟩ <;> first | (simp [go_sem]; done) | (simp; omega))
  have hbW2 : Below W.heap.size W W2 := below_on hb1 (by subst hW2; go_grown)
  clear hW2
  refine (specAtomValid_is _ _ _ _ _ _ _ false _ HV.out).mono ?_
  rintro e w2 ⟨rfl, hb2⟩
  have hb12 := below_on hbW2 hb2
  obtain ⟨t0, t1, t2, t3, t4, t5⟩ := c5_on ht2 hb2
  clear q0 q1 q2 q3 q4 q5 q6 q7
  obtain ⟨q0, q1, q2, q3, q4, q5, q6, q7⟩ := c7_on hx hb12
  obtain ⟨z0, z1, z2, z3, z4, z5, z6, z7⟩ := c7_on hz hb12
  have fz1 := fz7_on hz.1 fz hb12
  have fx1 := fz7_on hx.1 fx hb12
  have hbw1 := below_on hb0 hb12
  go_wp2
  refine bodyPost_ret (v := .tuple #[.agg #[.int .i64 0, .int .i64 0, .int .i64 0, .int .i64 0, .int .i64 0, .int .i64 0, .int .i64 0], .bool false]) (by simp [results, Try.results33, go_sem, z1, z2, z3, z4, z5, z6, z7]) rfl ⟨rfl, ?_⟩
  go_grown

set_option maxHeartbeats 2000000 in
theorem specSubstAtom_no (k m a b c d n v a' b' c' d' n' x0 x1 x2 x3 x4 : Int) (w : World) (h : avB k m a b c d n = true)
    (HT : Hid (∀ W, Calls Try.prog 64 #[.agg #[.int .i64 a, .int .i64 b, .int .i64 c, .int .i64 d, .int .i64 n], .int .i64 v, .agg #[.int .i64 a', .int .i64 b', .int .i64 c', .int .i64 d', .int .i64 n']] W fun e w' => e = .returned (.tuple #[.agg #[.int .i64 x0, .int .i64 x1, .int .i64 x2, .int .i64 x3, .int .i64 x4], .bool false]) ∧ Below W.heap.size W w')) :
    Calls Try.prog 33 #[.agg #[.int .i64 k, .int .i64 m, .int .i64 a, .int .i64 b, .int .i64 c, .int .i64 d, .int .i64 n], .int .i64 v, .agg #[.int .i64 a', .int .i64 b', .int .i64 c', .int .i64 d', .int .i64 n']] w fun e w' => e = .returned (.tuple #[.agg #[.int .i64 0, .int .i64 0, .int .i64 0, .int .i64 0, .int .i64 0, .int .i64 0, .int .i64 0], .bool false]) ∧ Below w.heap.size w w' := by
  have HV := Lib.hid h
  clear h
  go_enter Try.func33, Try.ntmps33
  go_wp2_with fail
  generalize hW : ((w.alloc (.cells #[.int .i64 k, .int .i64 m, .int .i64 a, .int .i64 b, .int .i64 c, .int .i64 d, .int .i64 n] 29)).alloc (.cells #[.int .i64 a', .int .i64 b', .int .i64 c', .int .i64 d', .int .i64 n'] 27)).alloc (.cells #[.int .i64 0, .int .i64 0, .int .i64 0, .int .i64 0, .int .i64 0, .int .i64 0, .int .i64 0] 29) = W
  have hx : C7 W w.heap.size k m a b c d n := by subst hW; exact (by refine ⟨?_, ?_, ?_, ?_, ?_, ?_, ?_, ?_⟩ <;> first | (simp [go_sem]; done) | (simp; omega))
  have hz : C7 W (w.heap.size + 1 + 1) 0 0 0 0 0 0 0 := by subst hW; exact (by refine ⟨?_, ?_, ?_, ?_, ?_, ?_, ?_, ?_⟩ <;> first | (simp [go_sem]; done) | (simp; omega))
  have fx : Hid (∀ o, W.frozen? ⟨w.heap.size, o, none⟩ = false) := by intro o; subst hW; simp [go_sem]
  have fz : Hid (∀ o, W.frozen? ⟨w.heap.size + 1 + 1, o, none⟩ = false) := by intro o; subst hW; simp [go_sem]
  have hb0 : Below w.heap.size w W := by subst hW; go_grown
  clear hW
  refine (HT.out _).mono ?_
  rintro e w1 ⟨rfl, hb1⟩
  obtain ⟨q0, q1, q2, q3, q4, q5, q6, q7⟩ := c7_on hx hb1
  go_wp2_with fail
  generalize hW2 : w1.alloc (.cells #[.int .i64 x0, .int .i64 x1, .int .i64 x2, .int .i64 x3, .int .i64 x4] 27) = W2
  have ht2 : C5 W2 w1.heap.size x0 x1 x2 x3 x4 := by subst hW2; exact (by refine ⟨?_, ?_, ?_, ?_, ?_, ?_⟩ <;> first | (simp [go_sem]; done) | (simp; omega))
  have hbW2 : Below W.heap.size W W2 := below_on hb1 (by subst hW2; go_grown)
  clear hW2
  refine (specAtomValid_is _ _ _ _ _ _ _ true _ HV.out).mono ?_
  rintro e w2 ⟨rfl, hb2⟩
  have hb12 := below_on hbW2 hb2
  obtain ⟨t0, t1, t2, t3, t4, t5⟩ := c5_on ht2 hb2
  clear q0 q1 q2 q3 q4 q5 q6 q7
  obtain ⟨q0, q1, q2, q3, q4, q5, q6, q7⟩ := c7_on hx hb12
  obtain ⟨z0, z1, z2, z3, z4, z5, z6, z7⟩ := c7_on hz hb12
  have fz1 := fz7_on hz.1 fz hb12
  have fx1 := fz7_on hx.1 fx hb12
  have hbw1 := below_on hb0 hb12
  go_wp2
  refine bodyPost_ret (v := .tuple #[.agg #[.int .i64 0, .int .i64 0, .int .i64 0, .int .i64 0, .int .i64 0, .int .i64 0, .int .i64 0], .bool false]) (by simp [results, Try.results33, go_sem, z1, z2, z3, z4, z5, z6, z7]) rfl ⟨rfl, ?_⟩
  go_grown

set_option maxHeartbeats 2000000 in
theorem specSubstAtom_nooff (k m a b c d n v a' b' c' d' n' x0 x1 x2 x3 x4 : Int) (w : World) (h : avB k m a b c d n = false)
    (HT : Hid (∀ W, Calls Try.prog 64 #[.agg #[.int .i64 a, .int .i64 b, .int .i64 c, .int .i64 d, .int .i64 n], .int .i64 v, .agg #[.int .i64 a', .int .i64 b', .int .i64 c', .int .i64 d', .int .i64 n']] W fun e w' => e = .returned (.tuple #[.agg #[.int .i64 x0, .int .i64 x1, .int .i64 x2, .int .i64 x3, .int .i64 x4], .bool false]) ∧ Below W.heap.size W w')) :
    Calls Try.prog 33 #[.agg #[.int .i64 k, .int .i64 m, .int .i64 a, .int .i64 b, .int .i64 c, .int .i64 d, .int .i64 n], .int .i64 v, .agg #[.int .i64 a', .int .i64 b', .int .i64 c', .int .i64 d', .int .i64 n']] w fun e w' => e = .returned (.tuple #[.agg #[.int .i64 0, .int .i64 0, .int .i64 0, .int .i64 0, .int .i64 0, .int .i64 0, .int .i64 0], .bool false]) ∧ Below w.heap.size w w' := by
  have HV := Lib.hid h
  clear h
  go_enter Try.func33, Try.ntmps33
  go_wp2_with fail
  generalize hW : ((w.alloc (.cells #[.int .i64 k, .int .i64 m, .int .i64 a, .int .i64 b, .int .i64 c, .int .i64 d, .int .i64 n] 29)).alloc (.cells #[.int .i64 a', .int .i64 b', .int .i64 c', .int .i64 d', .int .i64 n'] 27)).alloc (.cells #[.int .i64 0, .int .i64 0, .int .i64 0, .int .i64 0, .int .i64 0, .int .i64 0, .int .i64 0] 29) = W
  have hx : C7 W w.heap.size k m a b c d n := by subst hW; exact (by refine ⟨?_, ?_, ?_, ?_, ?_, ?_, ?_, ?_⟩ <;> first | (simp [go_sem]; done) | (simp; omega))
  have hz : C7 W (w.heap.size + 1 + 1) 0 0 0 0 0 0 0 := by subst hW; exact (by refine ⟨?_, ?_, ?_, ?_, ?_, ?_, ?_, ?_⟩ <;> first | (simp [go_sem]; done) | (simp; omega))
  have fx : Hid (∀ o, W.frozen? ⟨w.heap.size, o, none⟩ = false) := by intro o; subst hW; simp [go_sem]
  have fz : Hid (∀ o, W.frozen? ⟨w.heap.size + 1 + 1, o, none⟩ = false) := by intro o; subst hW; simp [go_sem]
  have hb0 : Below w.heap.size w W := by subst hW; go_grown
  clear hW
  refine (HT.out _).mono ?_
  rintro e w1 ⟨rfl, hb1⟩
  obtain ⟨q0, q1, q2, q3, q4, q5, q6, q7⟩ := c7_on hx hb1
  go_wp2_with fail
  generalize hW2 : w1.alloc (.cells #[.int .i64 x0, .int .i64 x1, .int .i64 x2, .int .i64 x3, .int .i64 x4] 27) = W2
  have ht2 : C5 W2 w1.heap.size x0 x1 x2 x3 x4 := by subst hW2; exact (by refine ⟨?_, ?_, ?_, ?_, ?_, ?_⟩ <;> first | (simp [go_sem]; done) | (simp; omega))
  have hbW2 : Below W.heap.size W W2 := below_on hb1 (by subst hW2; go_grown)
  clear hW2
  refine (specAtomValid_is _ _ _ _ _ _ _ false _ HV.out).mono ?_
  rintro e w2 ⟨rfl, hb2⟩
  have hb12 := below_on hbW2 hb2
  obtain ⟨t0, t1, t2, t3, t4, t5⟩ := c5_on ht2 hb2
  clear q0 q1 q2 q3 q4 q5 q6 q7
  obtain ⟨q0, q1, q2, q3, q4, q5, q6, q7⟩ := c7_on hx hb12
  obtain ⟨z0, z1, z2, z3, z4, z5, z6, z7⟩ := c7_on hz hb12
  have fz1 := fz7_on hz.1 fz hb12
  have fx1 := fz7_on hx.1 fx hb12
  have hbw1 := below_on hb0 hb12
  go_wp2
  refine bodyPost_ret (v := .tuple #[.agg #[.int .i64 0, .int .i64 0, .int .i64 0, .int .i64 0, .int .i64 0, .int .i64 0, .int .i64 0], .bool false]) (by simp [results, Try.results33, go_sem, z1, z2, z3, z4, z5, z6, z7]) rfl ⟨rfl, ?_⟩
  go_grown

set_option maxHeartbeats 400000 in
theorem toAtom_to (k m a b c d n : Int) (w : World) :
    Calls Try.prog 19 #[.agg #[.int .i64 k, .int .i64 m, .int .i64 a, .int .i64 b, .int .i64 c, .int .i64 d, .int .i64 n]] w fun e w' => e = .returned (.agg #[.int .i64 k, .int .i64 m, .int .i64 a, .int .i64 b, .int .i64 c, .int .i64 d, .int .i64 n]) ∧ (((((w.alloc (.cells #[.int .i64 k, .int .i64 m, .int .i64 a, .int .i64 b, .int .i64 c, .int .i64 d, .int .i64 n] 25)).alloc (.cells #[.int .i64 k, .int .i64 m, .int .i64 a, .int .i64 b, .int .i64 c, .int .i64 d, .int .i64 n] 29)).alloc (.cells #[.int .i64 k, .int .i64 m, .int .i64 a, .int .i64 b, .int .i64 c, .int .i64 d, .int .i64 n] 29)).alloc (.cells #[.int .i64 a, .int .i64 b, .int .i64 c, .int .i64 d, .int .i64 n] 23)).alloc (.cells #[.int .i64 a, .int .i64 b, .int .i64 c, .int .i64 d, .int .i64 n] 27)).alloc (.cells #[.int .i64 a, .int .i64 b, .int .i64 c, .int .i64 d, .int .i64 n] 27) = w' := by
  go_enter Try.func19, Try.ntmps19
  go_wp2_with (go_at_call 34; refine (toTerm_to _ _ _ _ _ _).mono ?_; rintro e w' ⟨rfl, rfl⟩)
  exact bodyPost_ret (v := .agg #[.int .i64 k, .int .i64 m, .int .i64 a, .int .i64 b, .int .i64 c, .int .i64 d, .int .i64 n]) (by simp [results, Try.results19, go_sem]) rfl ⟨rfl, rfl⟩

def ResA (W0 : World) (r0 r1 r2 r3 r4 r5 r6 : Int) (ok : Bool) (p q : Value) (W : World) : Prop :=
  ∃ z, p = .pointer (some ⟨z, 0, none⟩) ∧ q = .bool ok ∧ C7 W z r0 r1 r2 r3 r4 r5 r6 ∧ Below W0.heap.size W0 W
theorem c7_new {w : World} {r0 r1 r2 r3 r4 r5 r6 : Int} {t : TypeId} : C7 (w.alloc (.cells #[.int .i64 r0, .int .i64 r1, .int .i64 r2, .int .i64 r3, .int .i64 r4, .int .i64 r5, .int .i64 r6] t)) w.heap.size r0 r1 r2 r3 r4 r5 r6 := (by refine ⟨?_, ?_, ?_, ?_, ?_, ?_, ?_, ?_⟩ <;> first | (simp [go_sem]; done) | (simp; omega))
theorem c7_set2 {Wc w : World} {z : Nat} {c0 c1 c2 c3 c4 c5 c6 r0 r1 r2 r3 r4 r5 r6 : Int} (hb : Below Wc.heap.size Wc w) (h : C7 Wc z c0 c1 c2 c3 c4 c5 c6) :
    C7 (((((((w.setCell ⟨z, 0, none⟩ (.int .i64 r0)).setCell ⟨z, 1, none⟩ (.int .i64 r1)).setCell ⟨z, 2, none⟩ (.int .i64 r2)).setCell ⟨z, 3, none⟩ (.int .i64 r3)).setCell ⟨z, 4, none⟩ (.int .i64 r4)).setCell ⟨z, 5, none⟩ (.int .i64 r5)).setCell ⟨z, 6, none⟩ (.int .i64 r6)) z r0 r1 r2 r3 r4 r5 r6 := by
  obtain ⟨g, g0, g1, g2, g3, g4, g5, g6⟩ := c7_on h hb
  refine ⟨by simpa [World.setCell] using g, ?_, ?_, ?_, ?_, ?_, ?_, ?_⟩ <;> simp [go_sem, *]
theorem keep75 {W w' : World} {x y : Nat} {k m a b c d n a' b' c' d' n' : Int} (hx : C7 W x k m a b c d n) (hy : C5 W y a' b' c' d' n') (hB : Below W.heap.size W w') :
    Below W.heap.size W w' ∧ (w'.cell? ⟨x, 0, none⟩ = some (.int .i64 k) ∧ w'.cell? ⟨x, 1, none⟩ = some (.int .i64 m) ∧ w'.cell? ⟨x, 2, none⟩ = some (.int .i64 a) ∧ w'.cell? ⟨x, 3, none⟩ = some (.int .i64 b) ∧ w'.cell? ⟨x, 4, none⟩ = some (.int .i64 c) ∧ w'.cell? ⟨x, 5, none⟩ = some (.int .i64 d) ∧ w'.cell? ⟨x, 6, none⟩ = some (.int .i64 n)) ∧ (w'.cell? ⟨y, 0, none⟩ = some (.int .i64 a') ∧ w'.cell? ⟨y, 1, none⟩ = some (.int .i64 b') ∧ w'.cell? ⟨y, 2, none⟩ = some (.int .i64 c') ∧ w'.cell? ⟨y, 3, none⟩ = some (.int .i64 d') ∧ w'.cell? ⟨y, 4, none⟩ = some (.int .i64 n')) := ⟨hB, (c7_on hx hB).2, (c5_on hy hB).2⟩

set_option maxHeartbeats 2000000 in
theorem exactSubstAtom_some (k m a b c d n v a' b' c' d' n' r0 r1 r2 r3 r4 r5 r6 : Int) (ok : Bool) (w : World)
    (HS : Hid (∀ W, Calls Try.prog 33 #[.agg #[.int .i64 k, .int .i64 m, .int .i64 a, .int .i64 b, .int .i64 c, .int .i64 d, .int .i64 n], .int .i64 v, .agg #[.int .i64 a', .int .i64 b', .int .i64 c', .int .i64 d', .int .i64 n']] W fun e w' => e = .returned (.tuple #[.agg #[.int .i64 r0, .int .i64 r1, .int .i64 r2, .int .i64 r3, .int .i64 r4, .int .i64 r5, .int .i64 r6], .bool ok]) ∧ Below W.heap.size W w'))
    (HI : Hid (∀ W, Calls Try.prog 35 #[.agg #[.int .i64 k, .int .i64 m, .int .i64 a, .int .i64 b, .int .i64 c, .int .i64 d, .int .i64 n], .int .i64 v, .agg #[.int .i64 a', .int .i64 b', .int .i64 c', .int .i64 d', .int .i64 n']] W fun e w' => e = .returned (.tuple #[.agg #[.int .i64 r0, .int .i64 r1, .int .i64 r2, .int .i64 r3, .int .i64 r4, .int .i64 r5, .int .i64 r6], .bool ok]) ∧ Below W.heap.size W w')) :
    Calls Try.prog 8 #[.agg #[.int .i64 k, .int .i64 m, .int .i64 a, .int .i64 b, .int .i64 c, .int .i64 d, .int .i64 n], .int .i64 v, .agg #[.int .i64 a', .int .i64 b', .int .i64 c', .int .i64 d', .int .i64 n']] w fun e w' => e = .returned (.bool true) ∧ Below w.heap.size w w' := by
  go_enter Try.func8, Try.ntmps8
  go_wp2
  generalize hW : (w.alloc (.cells #[.int .i64 k, .int .i64 m, .int .i64 a, .int .i64 b, .int .i64 c, .int .i64 d, .int .i64 n] 25)).alloc (.cells #[.int .i64 a', .int .i64 b', .int .i64 c', .int .i64 d', .int .i64 n'] 23) = W0
  have hx : C7 W0 w.heap.size k m a b c d n := by subst hW; exact (by refine ⟨?_, ?_, ?_, ?_, ?_, ?_, ?_, ?_⟩ <;> first | (simp [go_sem]; done) | (simp; omega))
  have hy : C5 W0 (w.heap.size + 1) a' b' c' d' n' := by subst hW; exact (by refine ⟨?_, ?_, ?_, ?_, ?_, ?_⟩ <;> first | (simp [go_sem]; done) | (simp; omega))
  have hw0 : Below w.heap.size w W0 := by subst hW; go_grown
  clear hW
  go_upto_region 1 with fail
  go_cut [7, 8] (fun p q W => ResA W0 r0 r1 r2 r3 r4 r5 r6 ok p q W)
  case first =>
    go_region_held3 (fun w' => Below W0.heap.size W0 w' ∧ (w'.cell? ⟨w.heap.size, 0, none⟩ = some (.int .i64 k) ∧ w'.cell? ⟨w.heap.size, 1, none⟩ = some (.int .i64 m) ∧ w'.cell? ⟨w.heap.size, 2, none⟩ = some (.int .i64 a) ∧ w'.cell? ⟨w.heap.size, 3, none⟩ = some (.int .i64 b) ∧ w'.cell? ⟨w.heap.size, 4, none⟩ = some (.int .i64 c) ∧ w'.cell? ⟨w.heap.size, 5, none⟩ = some (.int .i64 d) ∧ w'.cell? ⟨w.heap.size, 6, none⟩ = some (.int .i64 n)) ∧ (w'.cell? ⟨w.heap.size + 1, 0, none⟩ = some (.int .i64 a') ∧ w'.cell? ⟨w.heap.size + 1, 1, none⟩ = some (.int .i64 b') ∧ w'.cell? ⟨w.heap.size + 1, 2, none⟩ = some (.int .i64 c') ∧ w'.cell? ⟨w.heap.size + 1, 3, none⟩ = some (.int .i64 d') ∧ w'.cell? ⟨w.heap.size + 1, 4, none⟩ = some (.int .i64 n'))) (exact keep75 hx hy (by go_grown)) (first | (go_at_call 19; refine (toAtom_to _ _ _ _ _ _ _ _).mono ?_; rintro e w' ⟨rfl, rfl⟩) | (go_at_call 34; refine (toTerm_to _ _ _ _ _ _).mono ?_; rintro e w' ⟨rfl, rfl⟩) | (go_at_call 33; refine (HS.out _).mono ?_; rintro e w1 ⟨rfl, hb1⟩; have hbb1 := below_on (w := W0) (by go_grown) hb1; have hs1 : W0.heap.size ≤ w1.heap.size := hbb1.size; obtain ⟨hc, hf⟩ := bcell hb1; have hz1 := hb1.size; simp at hz1))
    all_goals
      go_wp2_with fail
      go_meet
      refine ⟨_, rfl, rfl, ?_, by go_grown⟩
      first | (with_reducible exact c7_new) | ((with_reducible refine c7_set2 (c0 := 0) (c1 := 0) (c2 := 0) (c3 := 0) (c4 := 0) (c5 := 0) (c6 := 0) hb1 ?_); exact (by refine ⟨?_, ?_, ?_, ?_, ?_, ?_, ?_, ?_⟩ <;> first | (simp [go_sem]; done) | (simp; omega)))
  case rest =>
    obtain ⟨z, rfl, rfl, hr, hB⟩ := hcut
    have hx2 := c7_on hx hB
    have hy2 := c5_on hy hB
    go_upto_region 2 with fail
    obtain ⟨w2, hw2⟩ : ∃ w2, w2 = wc := ⟨_, rfl⟩
    go_cut [9, 10] (fun p q W => ResA w2 r0 r1 r2 r3 r4 r5 r6 ok p q W)
    case first =>
      subst hw2
      go_region_held3 (fun w' => Below w2.heap.size w2 w' ∧ (w'.cell? ⟨w.heap.size, 0, none⟩ = some (.int .i64 k) ∧ w'.cell? ⟨w.heap.size, 1, none⟩ = some (.int .i64 m) ∧ w'.cell? ⟨w.heap.size, 2, none⟩ = some (.int .i64 a) ∧ w'.cell? ⟨w.heap.size, 3, none⟩ = some (.int .i64 b) ∧ w'.cell? ⟨w.heap.size, 4, none⟩ = some (.int .i64 c) ∧ w'.cell? ⟨w.heap.size, 5, none⟩ = some (.int .i64 d) ∧ w'.cell? ⟨w.heap.size, 6, none⟩ = some (.int .i64 n)) ∧ (w'.cell? ⟨w.heap.size + 1, 0, none⟩ = some (.int .i64 a') ∧ w'.cell? ⟨w.heap.size + 1, 1, none⟩ = some (.int .i64 b') ∧ w'.cell? ⟨w.heap.size + 1, 2, none⟩ = some (.int .i64 c') ∧ w'.cell? ⟨w.heap.size + 1, 3, none⟩ = some (.int .i64 d') ∧ w'.cell? ⟨w.heap.size + 1, 4, none⟩ = some (.int .i64 n'))) (exact keep75 hx2 hy2 (by go_grown)) (first | (go_at_call 19; refine (toAtom_to _ _ _ _ _ _ _ _).mono ?_; rintro e w' ⟨rfl, rfl⟩) | (go_at_call 34; refine (toTerm_to _ _ _ _ _ _).mono ?_; rintro e w' ⟨rfl, rfl⟩) | (go_at_call 35; refine (HI.out _).mono ?_; rintro e w1 ⟨rfl, hb1⟩; have hbb1 := below_on (w := w2) (by go_grown) hb1; have hs1 : w2.heap.size ≤ w1.heap.size := hbb1.size; obtain ⟨hc, hf⟩ := bcell hb1; have hz1 := hb1.size; simp at hz1))
      all_goals
        go_wp2_with fail
        go_meet
        refine ⟨_, rfl, rfl, ?_, by go_grown⟩
        first | (with_reducible exact c7_new) | ((with_reducible refine c7_set2 (c0 := 0) (c1 := 0) (c2 := 0) (c3 := 0) (c4 := 0) (c5 := 0) (c6 := 0) hb1 ?_); exact (by refine ⟨?_, ?_, ?_, ?_, ?_, ?_, ?_, ?_⟩ <;> first | (simp [go_sem]; done) | (simp; omega)))
    case rest =>
      obtain ⟨z2, rfl, rfl, ⟨g0, g1, g2, g3, g4, g5, g6, g7⟩, hB2⟩ := hcut
      subst hw2
      obtain ⟨f0, f1, f2, f3, f4, f5, f6, f7⟩ := c7_on hr hB2
      go_wp2_with fail
      refine (eqAtom_same _ _ _ _ _ _ _ _).mono ?_
      rintro e w5 ⟨rfl, hb5⟩
      have hbb5 := below_on (below_on hB hB2) hb5
      go_wp2
      go_ret
      exact ⟨rfl, below_on hw0 hbb5⟩

theorem exactSubstAtom_walk (k m a b c d n v a' b' c' d' n' : Int) (w : World) :
    Calls Try.prog 8 #[.agg #[.int .i64 k, .int .i64 m, .int .i64 a, .int .i64 b, .int .i64 c, .int .i64 d, .int .i64 n], .int .i64 v, .agg #[.int .i64 a', .int .i64 b', .int .i64 c', .int .i64 d', .int .i64 n']] w fun e w' => e = .returned (.bool true) ∧ Below w.heap.size w w' := by
  have hst : ∃ x0 x1 x2 x3 x4 : Int, ∃ ok : Bool, (∀ W, Calls Try.prog 63 #[.agg #[.int .i64 a, .int .i64 b, .int .i64 c, .int .i64 d, .int .i64 n], .int .i64 v, .agg #[.int .i64 a', .int .i64 b', .int .i64 c', .int .i64 d', .int .i64 n']] W fun e w' => e = .returned (.tuple #[.agg #[.int .i64 x0, .int .i64 x1, .int .i64 x2, .int .i64 x3, .int .i64 x4], .bool ok]) ∧ Below W.heap.size W w') ∧ (∀ W, Calls Try.prog 64 #[.agg #[.int .i64 a, .int .i64 b, .int .i64 c, .int .i64 d, .int .i64 n], .int .i64 v, .agg #[.int .i64 a', .int .i64 b', .int .i64 c', .int .i64 d', .int .i64 n']] W fun e w' => e = .returned (.tuple #[.agg #[.int .i64 x0, .int .i64 x1, .int .i64 x2, .int .i64 x3, .int .i64 x4], .bool ok]) ∧ Below W.heap.size W w') := by
    by_cases h : (tvB a b c d n && tvB a' b' c' d' n' && varB v) = true
    · obtain ⟨⟨h1, h2⟩, hv⟩ : (tvB a b c d n = true ∧ tvB a' b' c' d' n' = true) ∧ varB v = true := by simpa using h
      have hv' : 0 ≤ v ∧ v < 4 := by simpa [varB] using hv
      by_cases h3 : tvB ((if v = 0 then 0 else a) + a' * sel a b c d v 0) ((if v = 1 then 0 else b) + b' * sel a b c d v 0) ((if v = 2 then 0 else c) + c' * sel a b c d v 0) ((if v = 3 then 0 else d) + d' * sel a b c d v 0) (n + n' * sel a b c d v 0) = true
      · exact ⟨_, _, _, _, _, true, fun W => SubstTerm_ok a b c d n v a' b' c' d' n' _ _ _ _ _ W h1 h2 hv' rfl rfl rfl rfl rfl h3, fun W => specSubstTerm_ok a b c d n v a' b' c' d' n' _ _ _ _ _ W h1 h2 hv' rfl rfl rfl rfl rfl h3⟩
      · have h4 := Bool.eq_false_iff.2 h3
        exact ⟨_, _, _, _, _, false, fun W => SubstTerm_far a b c d n v a' b' c' d' n' _ _ _ _ _ W h1 h2 hv' rfl rfl rfl rfl rfl h4, fun W => specSubstTerm_far a b c d n v a' b' c' d' n' _ _ _ _ _ W h1 h2 hv' rfl rfl rfl rfl rfl h4⟩
    · have h4 : (tvB a b c d n && tvB a' b' c' d' n' && varB v) = false := by simpa using h
      exact ⟨_, _, _, _, _, false, fun W => SubstTerm_bad a b c d n v a' b' c' d' n' W h4, fun W => specSubstTerm_bad a b c d n v a' b' c' d' n' W h4⟩
  obtain ⟨x0, x1, x2, x3, x4, ok, hi, hs⟩ := hst
  by_cases hv : avB k m a b c d n = true
  · cases ok
    · exact exactSubstAtom_some _ _ _ _ _ _ _ _ _ _ _ _ _ _ _ _ _ _ _ _ false w (Lib.hid fun W => specSubstAtom_no k m a b c d n v a' b' c' d' n' x0 x1 x2 x3 x4 W hv (Lib.hid hs)) (Lib.hid fun W => SubstAtom_no k m a b c d n v a' b' c' d' n' x0 x1 x2 x3 x4 W (Lib.hid hi))
    · exact exactSubstAtom_some _ _ _ _ _ _ _ _ _ _ _ _ _ _ _ _ _ _ _ _ true w (Lib.hid fun W => specSubstAtom_yes k m a b c d n v a' b' c' d' n' x0 x1 x2 x3 x4 W hv (Lib.hid hs)) (Lib.hid fun W => SubstAtom_yes k m a b c d n v a' b' c' d' n' x0 x1 x2 x3 x4 W hv (Lib.hid hi))
  · have hv' : avB k m a b c d n = false := by simpa using hv
    cases ok
    · exact exactSubstAtom_some _ _ _ _ _ _ _ _ _ _ _ _ _ _ _ _ _ _ _ _ false w (Lib.hid fun W => specSubstAtom_nooff k m a b c d n v a' b' c' d' n' x0 x1 x2 x3 x4 W hv' (Lib.hid hs)) (Lib.hid fun W => SubstAtom_no k m a b c d n v a' b' c' d' n' x0 x1 x2 x3 x4 W (Lib.hid hi))
    · exact exactSubstAtom_some _ _ _ _ _ _ _ _ _ _ _ _ _ _ _ _ _ _ _ _ false w (Lib.hid fun W => specSubstAtom_off k m a b c d n v a' b' c' d' n' x0 x1 x2 x3 x4 W hv' (Lib.hid hs)) (Lib.hid fun W => SubstAtom_off k m a b c d n v a' b' c' d' n' x0 x1 x2 x3 x4 W hv' (Lib.hid hi))

end Go.Proofs.Ythphlkfofbdncaa
