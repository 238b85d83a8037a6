/- Contracts of withSum and ScaleAtom of the program, and of l2One and ScaleAtom of the model; the walk of the law that says that ScaleAtom answers as its model does. -/
import Derived.Test.YtbjmnbpomgaioaaAtC
import Derived.Test.YtbjmnbpomgaioaaSpecD
import Derived.Deep.RegionHeld3
import Derived.Deep.RegionWith
namespace Go.Proofs.Ytbjmnbpomgaioaa
open Go.RowKit

set_option maxHeartbeats 1000000 in
theorem withSum_yes (k m a' b' c' d' n' a b c d n : Int) (bl : Nat) (w : World) (hl : C5 w bl a b c d n) (h : avB k m a b c d n = true) :
    Calls Try.prog 96 #[.agg #[.int .i64 k, .int .i64 m, .int .i64 a', .int .i64 b', .int .i64 c', .int .i64 d', .int .i64 n'], .slice (some ⟨bl, 0, none⟩) 5 5] w fun e w' => e = .returned (.tuple #[.agg #[.int .i64 k, .int .i64 m, .int .i64 a, .int .i64 b, .int .i64 c, .int .i64 d, .int .i64 n], .bool true]) ∧ Below w.heap.size w w' := by
  have htv := (avB_cases h).2
  have HT := Lib.hid htv
  have HA := Lib.hid h
  have HL := Lib.hid hl
  clear htv h
  go_enter Try.func96, Try.ntmps96
  go_wp2_with fail
  generalize hW : (w.alloc (.cells #[.int .i64 k, .int .i64 m, .int .i64 a', .int .i64 b', .int .i64 c', .int .i64 d', .int .i64 n'] 41)).alloc (.cells #[.int .i64 0, .int .i64 0, .int .i64 0, .int .i64 0, .int .i64 0, .int .i64 0, .int .i64 0] 41) = W
  have hx : C7 W w.heap.size k m a' b' c' d' n' := by subst hW; exact (by refine ⟨?_, ?_, ?_, ?_, ?_, ?_, ?_, ?_⟩ <;> first | (simp [go_sem]; done) | (simp; omega))
  have hz : C7 W (w.heap.size + 1) 0 0 0 0 0 0 0 := by subst hW; exact (by refine ⟨?_, ?_, ?_, ?_, ?_, ?_, ?_, ?_⟩ <;> first | (simp [go_sem]; done) | (simp; omega))
  have fx : Hid (∀ o, W.frozen? ⟨w.heap.size, o, none⟩ = false) := by intro o; subst hW; simp [go_sem]
  have fz : Hid (∀ o, W.frozen? ⟨w.heap.size + 1, o, none⟩ = false) := by intro o; subst hW; simp [go_sem]
  have hb0 : Below w.heap.size w W := by subst hW; go_grown
  have hl2 : C5 W bl a b c d n := c5_on hl hb0
  have hs0 : w.heap.size + 1 + 1 = W.heap.size := by subst hW; simp
  clear hW
  refine (term_ok a b c d n bl W hl2 HT.out).mono ?_
  rintro e w1 ⟨rfl, hb1⟩
  obtain ⟨x0, x1, x2, x3, x4, x5, x6, x7⟩ := c7_on hx hb1
  have fx1 := fz7_on hx.1 fx hb1
  obtain ⟨z0, z1, z2, z3, z4, z5, z6, z7⟩ := c7_on hz hb1
  have fz1 := fz7_on hz.1 fz hb1
  have hs1 := hb1.size
  have hbw1 := below_on hb0 hb1
  go_wp2_with fail
  generalize hW2 : World.setCell _ _ _ = W2
  have hx2 : C7 W2 w.heap.size k m a b c d n := by subst hW2; refine ⟨?_, ?_, ?_, ?_, ?_, ?_, ?_, ?_⟩ <;> first | (simp [go_sem, *]; done) | (simp [World.setCell]; omega)
  have hz2 : C7 W2 (w.heap.size + 1) 0 0 0 0 0 0 0 := by subst hW2; refine ⟨?_, ?_, ?_, ?_, ?_, ?_, ?_, ?_⟩ <;> first | (simp [go_sem, *]; done) | (simp [World.setCell]; omega)
  have fz2 : Hid (∀ o, W2.frozen? ⟨w.heap.size + 1, o, none⟩ = false) := by intro o; subst hW2; simp [go_sem, fz1]
  have hb2 : Below w.heap.size w W2 := by subst hW2; go_grown
  clear hW2
  refine (AtomValid_is _ _ _ _ _ _ _ true _ HA.out).mono ?_
  rintro e w4 ⟨rfl, hb4⟩
  clear x0 x1 x2 x3 x4 x5 x6 x7 z0 z1 z2 z3 z4 z5 z6 z7 fx1 fz1
  have hb24 : Below W2.heap.size W2 w4 := below_on (by go_grown) hb4
  obtain ⟨x0, x1, x2, x3, x4, x5, x6, x7⟩ := c7_on hx2 hb24
  obtain ⟨z0, z1, z2, z3, z4, z5, z6, z7⟩ := c7_on hz2 hb24
  have fz4 := fz7_on hz2.1 fz2 hb24
  have hb5 := below_on hb2 hb24
  go_wp2
  refine bodyPost_ret (v := .tuple #[.agg #[.int .i64 k, .int .i64 m, .int .i64 a, .int .i64 b, .int .i64 c, .int .i64 d, .int .i64 n], .bool true]) (by simp [results, Try.results96, go_sem, z1, z2, z3, z4, z5, z6, z7]) rfl ⟨rfl, ?_⟩
  go_grown

set_option maxHeartbeats 1000000 in
theorem withSum_off (k m a' b' c' d' n' a b c d n : Int) (bl : Nat) (w : World) (hl : C5 w bl a b c d n) (htv : tvB a b c d n = true) (h : avB k m a b c d n = false) :
    Calls Try.prog 96 #[.agg #[.int .i64 k, .int .i64 m, .int .i64 a', .int .i64 b', .int .i64 c', .int .i64 d', .int .i64 n'], .slice (some ⟨bl, 0, none⟩) 5 5] w fun e w' => e = .returned (.tuple #[.agg #[.int .i64 0, .int .i64 0, .int .i64 0, .int .i64 0, .int .i64 0, .int .i64 0, .int .i64 0], .bool false]) ∧ Below w.heap.size w w' := by
  have HT := Lib.hid htv
  have HA := Lib.hid h
  have HL := Lib.hid hl
  clear htv h
  go_enter Try.func96, Try.ntmps96
  go_wp2_with fail
  generalize hW : (w.alloc (.cells #[.int .i64 k, .int .i64 m, .int .i64 a', .int .i64 b', .int .i64 c', .int .i64 d', .int .i64 n'] 41)).alloc (.cells #[.int .i64 0, .int .i64 0, .int .i64 0, .int .i64 0, .int .i64 0, .int .i64 0, .int .i64 0] 41) = W
  have hx : C7 W w.heap.size k m a' b' c' d' n' := by subst hW; exact (by refine ⟨?_, ?_, ?_, ?_, ?_, ?_, ?_, ?_⟩ <;> first | (simp [go_sem]; done) | (simp; omega))
  have hz : C7 W (w.heap.size + 1) 0 0 0 0 0 0 0 := by subst hW; exact (by refine ⟨?_, ?_, ?_, ?_, ?_, ?_, ?_, ?_⟩ <;> first | (simp [go_sem]; done) | (simp; omega))
  have fx : Hid (∀ o, W.frozen? ⟨w.heap.size, o, none⟩ = false) := by intro o; subst hW; simp [go_sem]
  have fz : Hid (∀ o, W.frozen? ⟨w.heap.size + 1, o, none⟩ = false) := by intro o; subst hW; simp [go_sem]
  have hb0 : Below w.heap.size w W := by subst hW; go_grown
  have hl2 : C5 W bl a b c d n := c5_on hl hb0
  have hs0 : w.heap.size + 1 + 1 = W.heap.size := by subst hW; simp
  clear hW
  refine (term_ok a b c d n bl W hl2 HT.out).mono ?_
  rintro e w1 ⟨rfl, hb1⟩
  obtain ⟨x0, x1, x2, x3, x4, x5, x6, x7⟩ := c7_on hx hb1
  have fx1 := fz7_on hx.1 fx hb1
  obtain ⟨z0, z1, z2, z3, z4, z5, z6, z7⟩ := c7_on hz hb1
  have fz1 := fz7_on hz.1 fz hb1
  have hs1 := hb1.size
  have hbw1 := below_on hb0 hb1
  go_wp2_with fail
  generalize hW2 : World.setCell _ _ _ = W2
  have hx2 : C7 W2 w.heap.size k m a b c d n := by subst hW2; refine ⟨?_, ?_, ?_, ?_, ?_, ?_, ?_, ?_⟩ <;> first | (simp [go_sem, *]; done) | (simp [World.setCell]; omega)
  have hz2 : C7 W2 (w.heap.size + 1) 0 0 0 0 0 0 0 := by subst hW2; refine ⟨?_, ?_, ?_, ?_, ?_, ?_, ?_, ?_⟩ <;> first | (simp [go_sem, *]; done) | (simp [World.setCell]; omega)
  have fz2 : Hid (∀ o, W2.frozen? ⟨w.heap.size + 1, o, none⟩ = false) := by intro o; subst hW2; simp [go_sem, fz1]
  have hb2 : Below w.heap.size w W2 := by subst hW2; go_grown
  clear hW2
  refine (AtomValid_is _ _ _ _ _ _ _ false _ HA.out).mono ?_
  rintro e w4 ⟨rfl, hb4⟩
  clear x0 x1 x2 x3 x4 x5 x6 x7 z0 z1 z2 z3 z4 z5 z6 z7 fx1 fz1
  have hb24 : Below W2.heap.size W2 w4 := below_on (by go_grown) hb4
  obtain ⟨x0, x1, x2, x3, x4, x5, x6, x7⟩ := c7_on hx2 hb24
  obtain ⟨z0, z1, z2, z3, z4, z5, z6, z7⟩ := c7_on hz2 hb24
  have fz4 := fz7_on hz2.1 fz2 hb24
  have hb5 := below_on hb2 hb24
  go_wp2
  refine bodyPost_ret (v := .tuple #[.agg #[.int .i64 0, .int .i64 0, .int .i64 0, .int .i64 0, .int .i64 0, .int .i64 0, .int .i64 0], .bool false]) (by simp [results, Try.results96, go_sem, z1, z2, z3, z4, z5, z6, z7]) rfl ⟨rfl, ?_⟩
  go_grown

set_option maxHeartbeats 1000000 in
theorem withSum_far (k m a' b' c' d' n' a b c d n : Int) (bl : Nat) (w : World) (hl : C5 w bl a b c d n) (htv : tvB a b c d n = false) :
    Calls Try.prog 96 #[.agg #[.int .i64 k, .int .i64 m, .int .i64 a', .int .i64 b', .int .i64 c', .int .i64 d', .int .i64 n'], .slice (some ⟨bl, 0, none⟩) 5 5] w fun e w' => e = .returned (.tuple #[.agg #[.int .i64 0, .int .i64 0, .int .i64 0, .int .i64 0, .int .i64 0, .int .i64 0, .int .i64 0], .bool false]) ∧ Below w.heap.size w w' := by
  have HT := Lib.hid htv
  have HL := Lib.hid hl
  clear htv
  go_enter Try.func96, Try.ntmps96
  go_wp2_with fail
  generalize hW : (w.alloc (.cells #[.int .i64 k, .int .i64 m, .int .i64 a', .int .i64 b', .int .i64 c', .int .i64 d', .int .i64 n'] 41)).alloc (.cells #[.int .i64 0, .int .i64 0, .int .i64 0, .int .i64 0, .int .i64 0, .int .i64 0, .int .i64 0] 41) = W
  have hx : C7 W w.heap.size k m a' b' c' d' n' := by subst hW; exact (by refine ⟨?_, ?_, ?_, ?_, ?_, ?_, ?_, ?_⟩ <;> first | (simp [go_sem]; done) | (simp; omega))
  have hz : C7 W (w.heap.size + 1) 0 0 0 0 0 0 0 := by subst hW; exact (by refine ⟨?_, ?_, ?_, ?_, ?_, ?_, ?_, ?_⟩ <;> first | (simp [go_sem]; done) | (simp; omega))
  have fx : Hid (∀ o, W.frozen? ⟨w.heap.size, o, none⟩ = false) := by intro o; subst hW; simp [go_sem]
  have fz : Hid (∀ o, W.frozen? ⟨w.heap.size + 1, o, none⟩ = false) := by intro o; subst hW; simp [go_sem]
  have hb0 : Below w.heap.size w W := by subst hW; go_grown
  have hl2 : C5 W bl a b c d n := c5_on hl hb0
  have hs0 : w.heap.size + 1 + 1 = W.heap.size := by subst hW; simp
  clear hW
  refine (term_bad a b c d n bl W hl2 HT.out).mono ?_
  rintro e w1 ⟨rfl, hb1⟩
  obtain ⟨x0, x1, x2, x3, x4, x5, x6, x7⟩ := c7_on hx hb1
  have fx1 := fz7_on hx.1 fx hb1
  obtain ⟨z0, z1, z2, z3, z4, z5, z6, z7⟩ := c7_on hz hb1
  have fz1 := fz7_on hz.1 fz hb1
  have hs1 := hb1.size
  have hbw1 := below_on hb0 hb1
  go_upto_region 4 with fail
  generalize hW2 : World.setCell _ _ _ = W2
  have hz2 : C7 W2 (w.heap.size + 1) 0 0 0 0 0 0 0 := by subst hW2; refine ⟨?_, ?_, ?_, ?_, ?_, ?_, ?_, ?_⟩ <;> first | (simp [go_sem, *]; done) | (simp [World.setCell]; omega)
  have fz2 : Hid (∀ o, W2.frozen? ⟨w.heap.size + 1, o, none⟩ = false) := by intro o; subst hW2; simp [go_sem, fz1]
  have hb2 : Below w.heap.size w W2 := by subst hW2; go_grown
  clear hW2 x0 x1 x2 x3 x4 x5 x6 x7 z0 z1 z2 z3 z4 z5 z6 z7 fx1 fz1
  generalize hW3 : W2.alloc _ = W3
  have hb23 : Below W2.heap.size W2 W3 := by subst hW3; go_grown
  clear hW3
  have hb5 := below_on hb2 hb23
  obtain ⟨z0, z1, z2, z3, z4, z5, z6, z7⟩ := c7_on hz2 hb23
  have fz4 := fz7_on hz2.1 fz2 hb23
  clear hz2 hx hz hl hl2 hb0 hbw1 hb1 hb23 hb2
  go_wp2
  refine bodyPost_ret (v := .tuple #[.agg #[.int .i64 0, .int .i64 0, .int .i64 0, .int .i64 0, .int .i64 0, .int .i64 0, .int .i64 0], .bool false]) (by simp [results, Try.results96, go_sem, z1, z2, z3, z4, z5, z6, z7]) rfl ⟨rfl, ?_⟩
  go_grown

theorem withSum_no (k m a' b' c' d' n' a b c d n : Int) (bl : Nat) (w : World) (hl : C5 w bl a b c d n) (h : avB k m a b c d n = false) :
    Calls Try.prog 96 #[.agg #[.int .i64 k, .int .i64 m, .int .i64 a', .int .i64 b', .int .i64 c', .int .i64 d', .int .i64 n'], .slice (some ⟨bl, 0, none⟩) 5 5] w fun e w' => e = .returned (.tuple #[.agg #[.int .i64 0, .int .i64 0, .int .i64 0, .int .i64 0, .int .i64 0, .int .i64 0, .int .i64 0], .bool false]) ∧ Below w.heap.size w w' := by
  by_cases htv : tvB a b c d n = true
  · exact withSum_off k m a' b' c' d' n' a b c d n bl w hl htv h
  · exact withSum_far k m a' b' c' d' n' a b c d n bl w hl (by simpa using htv)

end Go.Proofs.Ytbjmnbpomgaioaa
