/- Contract of the model's ScaleAtom. -/
import Derived.Test.YtjbbknbnknhjhaaDoorAtC
import Derived.Test.YtjbbknbnknhjhaaDoorSpecD
import Derived.Deep.RegionHeld3
import Derived.Deep.RegionWith
namespace Go.Proofs.YtjbbknbnknhjhaaDoor
open Go.RowKit

theorem keep7b {W w' : World} {B p : Nat} {k m a b c d n : Int} (h1 : C7 W p k m a b c d n) (hp : p < B) (hB : Below B W w') :
    Below B W w' ∧ (w'.cell? ⟨p, 0, none⟩ = some (.int .i64 k) ∧ w'.cell? ⟨p, 1, none⟩ = some (.int .i64 m) ∧ w'.cell? ⟨p, 2, none⟩ = some (.int .i64 a) ∧ w'.cell? ⟨p, 3, none⟩ = some (.int .i64 b) ∧ w'.cell? ⟨p, 4, none⟩ = some (.int .i64 c) ∧ w'.cell? ⟨p, 5, none⟩ = some (.int .i64 d) ∧ w'.cell? ⟨p, 6, none⟩ = some (.int .i64 n)) :=
  have f : ∀ o, w'.cell? ⟨p, o, none⟩ = W.cell? ⟨p, o, none⟩ := fun o => hB.cell (p := ⟨p, o, none⟩) hp
  ⟨hB, (f 0).trans h1.2.1, (f 1).trans h1.2.2.1, (f 2).trans h1.2.2.2.1, (f 3).trans h1.2.2.2.2.1, (f 4).trans h1.2.2.2.2.2.1, (f 5).trans h1.2.2.2.2.2.2.1, (f 6).trans h1.2.2.2.2.2.2.2⟩

set_option maxHeartbeats 400000 in
theorem l2One_yes (k m a b c d n : Int) (w : World) (h : avB k m a b c d n = true) :
    Calls Tryd.prog 63 #[.agg #[.int .i64 k, .int .i64 m, .int .i64 a, .int .i64 b, .int .i64 c, .int .i64 d, .int .i64 n], .bool true] w fun e w' => e = .returned (.tuple #[.agg #[.int .i64 k, .int .i64 m, .int .i64 a, .int .i64 b, .int .i64 c, .int .i64 d, .int .i64 n], .bool true]) ∧ Below w.heap.size w w' := by
  have HV := Lib.hid h
  clear h
  go_enter Tryd.func63, Tryd.ntmps63
  go_wp2_with fail
  generalize hW : (w.alloc (.cells #[.int .i64 k, .int .i64 m, .int .i64 a, .int .i64 b, .int .i64 c, .int .i64 d, .int .i64 n] 33)).alloc (.cells #[.int .i64 0, .int .i64 0, .int .i64 0, .int .i64 0, .int .i64 0, .int .i64 0, .int .i64 0] 33) = W
  have hx : C7 W w.heap.size k m a b c d n := by subst hW; exact (by refine ⟨?_, ?_, ?_, ?_, ?_, ?_, ?_, ?_⟩ <;> first | (simp [go_sem]; done) | (simp; omega))
  have hz : C7 W (w.heap.size + 1) 0 0 0 0 0 0 0 := by subst hW; exact (by refine ⟨?_, ?_, ?_, ?_, ?_, ?_, ?_, ?_⟩ <;> first | (simp [go_sem]; done) | (simp; omega))
  have fz : Hid (∀ o, W.frozen? ⟨w.heap.size + 1, o, none⟩ = false) := by intro o; subst hW; simp [go_sem]
  have hb0 : Below w.heap.size w W := by subst hW; go_grown
  clear hW
  refine (specAtomValid_is _ _ _ _ _ _ _ true _ HV.out).mono ?_
  rintro e w1 ⟨rfl, hb1⟩
  obtain ⟨x0, x1, x2, x3, x4, x5, x6, x7⟩ := c7_on hx hb1
  obtain ⟨z0, z1, z2, z3, z4, z5, z6, z7⟩ := c7_on hz hb1
  have fz1 := fz7_on hz.1 fz hb1
  have hbw1 := below_on hb0 hb1
  go_wp2
  refine bodyPost_ret (v := .tuple #[.agg #[.int .i64 k, .int .i64 m, .int .i64 a, .int .i64 b, .int .i64 c, .int .i64 d, .int .i64 n], .bool true]) (by simp [results, Tryd.results63, go_sem, z1, z2, z3, z4, z5, z6, z7]) rfl ⟨rfl, ?_⟩
  go_grown

set_option maxHeartbeats 400000 in
theorem l2One_no (k m a b c d n : Int) (w : World) (h : avB k m a b c d n = false) :
    Calls Tryd.prog 63 #[.agg #[.int .i64 k, .int .i64 m, .int .i64 a, .int .i64 b, .int .i64 c, .int .i64 d, .int .i64 n], .bool true] w fun e w' => e = .returned (.tuple #[.agg #[.int .i64 0, .int .i64 0, .int .i64 0, .int .i64 0, .int .i64 0, .int .i64 0, .int .i64 0], .bool false]) ∧ Below w.heap.size w w' := by
  have HV := Lib.hid h
  clear h
  go_enter Tryd.func63, Tryd.ntmps63
  go_wp2_with fail
  generalize hW : (w.alloc (.cells #[.int .i64 k, .int .i64 m, .int .i64 a, .int .i64 b, .int .i64 c, .int .i64 d, .int .i64 n] 33)).alloc (.cells #[.int .i64 0, .int .i64 0, .int .i64 0, .int .i64 0, .int .i64 0, .int .i64 0, .int .i64 0] 33) = W
  have hx : C7 W w.heap.size k m a b c d n := by subst hW; exact (by refine ⟨?_, ?_, ?_, ?_, ?_, ?_, ?_, ?_⟩ <;> first | (simp [go_sem]; done) | (simp; omega))
  have hz : C7 W (w.heap.size + 1) 0 0 0 0 0 0 0 := by subst hW; exact (by refine ⟨?_, ?_, ?_, ?_, ?_, ?_, ?_, ?_⟩ <;> first | (simp [go_sem]; done) | (simp; omega))
  have fz : Hid (∀ o, W.frozen? ⟨w.heap.size + 1, o, none⟩ = false) := by intro o; subst hW; simp [go_sem]
  have hb0 : Below w.heap.size w W := by subst hW; go_grown
  clear hW
  refine (specAtomValid_is _ _ _ _ _ _ _ false _ HV.out).mono ?_
  rintro e w1 ⟨rfl, hb1⟩
  obtain ⟨x0, x1, x2, x3, x4, x5, x6, x7⟩ := c7_on hx hb1
  obtain ⟨z0, z1, z2, z3, z4, z5, z6, z7⟩ := c7_on hz hb1
  have fz1 := fz7_on hz.1 fz hb1
  have hbw1 := below_on hb0 hb1
  go_wp2
  refine bodyPost_ret (v := .tuple #[.agg #[.int .i64 0, .int .i64 0, .int .i64 0, .int .i64 0, .int .i64 0, .int .i64 0, .int .i64 0], .bool false]) (by simp [results, Tryd.results63, go_sem, z1, z2, z3, z4, z5, z6, z7]) rfl ⟨rfl, ?_⟩
  go_grown

set_option maxHeartbeats 2000000 in
theorem specScaleAtom_in (k m a b c d n K A B C D N r0 r1 r2 r3 r4 r5 r6 : Int) (ok : Bool) (w : World) (h : avB k m a b c d n = true) (k0 : 1 ≤ K) (k1 : K ≤ 100)
    (hA : a * K = A) (hB : b * K = B) (hC : c * K = C) (hD : d * K = D) (hN : n * K = N)
    (HW : Hid (∀ W, Calls Tryd.prog 63 #[.agg #[.int .i64 k, .int .i64 (m * K), .int .i64 A, .int .i64 B, .int .i64 C, .int .i64 D, .int .i64 N], .bool true] W fun e w' => e = .returned (.tuple #[.agg #[.int .i64 r0, .int .i64 r1, .int .i64 r2, .int .i64 r3, .int .i64 r4, .int .i64 r5, .int .i64 r6], .bool ok]) ∧ Below W.heap.size W w')) :
    Calls Tryd.prog 54 #[.agg #[.int .i64 k, .int .i64 m, .int .i64 a, .int .i64 b, .int .i64 c, .int .i64 d, .int .i64 n], .int .i64 K] w fun e w' => e = .returned (.tuple #[.agg #[.int .i64 r0, .int .i64 r1, .int .i64 r2, .int .i64 r3, .int .i64 r4, .int .i64 r5, .int .i64 r6], .bool ok]) ∧ Below w.heap.size w w' := by
  have hm : 0 ≤ m ∧ m ≤ 100 := by have := (avB_cases h).1; omega
  obtain ⟨⟨a0, a1⟩, ⟨b0, b1⟩, ⟨c0, c1⟩, ⟨d0, d1⟩, n0, n1⟩ := tv_bd (avB_cases h).2
  have e1 := mul_bd2 (K := 100) a0 a1 (show -100 ≤ K by omega) k1 (by omega)
  have e2 := mul_bd2 (K := 100) b0 b1 (show -100 ≤ K by omega) k1 (by omega)
  have e3 := mul_bd2 (K := 100) c0 c1 (show -100 ≤ K by omega) k1 (by omega)
  have e4 := mul_bd2 (K := 100) d0 d1 (show -100 ≤ K by omega) k1 (by omega)
  have e5 := mul_bd2 (K := 100) n0 n1 (show -100 ≤ K by omega) k1 (by omega)
  have hp := fun W => l1Plus_any 0 0 0 0 0 K a b c d n W (by rw [Int.mul_comm]; omega) (by rw [Int.mul_comm]; omega) (by rw [Int.mul_comm]; omega) (by rw [Int.mul_comm]; omega) (by rw [Int.mul_comm]; omega) (by omega) (by omega) (by omega) (by omega) (by omega)
  simp only [Int.zero_add] at hp
  rw [Int.mul_comm K a, Int.mul_comm K b, Int.mul_comm K c, Int.mul_comm K d, Int.mul_comm K n, hA, hB, hC, hD, hN] at hp
  have HP := Lib.hid hp
  have em := mul_bd (a := m) (x := K) (A := 100) (X := 100) (by omega) hm.2 (by omega) k1 (by omega)
  obtain ⟨M, hM⟩ : ∃ M, m * K = M := ⟨_, rfl⟩
  rw [hM] at HW em
  have HV := Lib.hid h
  have HK : Hid (inB K 1 100 = true) := Lib.hid (by simp [inB]; omega)
  have hmw : IntKind.i64.wrap (K * m) = M := by rw [IntKind.wrap_i64, Int.mul_comm, hM]; omega
  have HMW := Lib.hid hmw
  clear hp h hA hB hC hD hN a0 a1 b0 b1 c0 c1 d0 d1 n0 n1 hM hmw e1 e2 e3 e4 e5
  go_enter Tryd.func54, Tryd.ntmps54
  go_wp2_with fail
  generalize hW : (w.alloc (.cells #[.int .i64 k, .int .i64 m, .int .i64 a, .int .i64 b, .int .i64 c, .int .i64 d, .int .i64 n] 33)).alloc (.cells #[.int .i64 0, .int .i64 0, .int .i64 0, .int .i64 0, .int .i64 0, .int .i64 0, .int .i64 0] 33) = W
  have hx : C7 W w.heap.size k m a b c d n := by subst hW; exact (by refine ⟨?_, ?_, ?_, ?_, ?_, ?_, ?_, ?_⟩ <;> first | (simp [go_sem]; done) | (simp; omega))
  have hz : C7 W (w.heap.size + 1) 0 0 0 0 0 0 0 := by subst hW; exact (by refine ⟨?_, ?_, ?_, ?_, ?_, ?_, ?_, ?_⟩ <;> first | (simp [go_sem]; done) | (simp; omega))
  have fz : Hid (∀ o, W.frozen? ⟨w.heap.size + 1, o, none⟩ = false) := by intro o; subst hW; simp [go_sem]
  have hb0 : Below w.heap.size w W := by subst hW; go_grown
  clear hW
  refine (specAtomValid_is _ _ _ _ _ _ _ true _ HV.out).mono ?_
  rintro e W2 ⟨rfl, hb1⟩
  go_wp2_with fail
  refine (l1In_is _ _ _ true _ HK.out).mono ?_
  rintro e w' ⟨rfl, rfl⟩
  have hx2 := c7_on hx hb1
  have hz2 := c7_on hz hb1
  have fz2 : Hid (∀ o, W2.frozen? ⟨w.heap.size + 1, o, none⟩ = false) := fz7_on hz.1 fz hb1
  have hb2 := below_on hb0 hb1
  have hmw := HMW.out
  go_wp2_with fail
  have hsB : w.heap.size + 1 ≤ W2.heap.size := Nat.le_of_lt hz2.1
  clear hb1 hx hz fz hb0
  go_region_held3 (fun w' => Below (w.heap.size + 1) W2 w' ∧ (w'.cell? ⟨w.heap.size, 0, none⟩ = some (.int .i64 k) ∧ w'.cell? ⟨w.heap.size, 1, none⟩ = some (.int .i64 m) ∧ w'.cell? ⟨w.heap.size, 2, none⟩ = some (.int .i64 a) ∧ w'.cell? ⟨w.heap.size, 3, none⟩ = some (.int .i64 b) ∧ w'.cell? ⟨w.heap.size, 4, none⟩ = some (.int .i64 c) ∧ w'.cell? ⟨w.heap.size, 5, none⟩ = some (.int .i64 d) ∧ w'.cell? ⟨w.heap.size, 6, none⟩ = some (.int .i64 n))) (exact keep7b hx2 (by omega) (by go_grown)) (first | (go_at_call 64; refine (HP.out _).mono ?_; rintro e w6 ⟨rfl, hb6⟩; have hbb6 := below_on (w := W2) (by go_grown) hb6; have hs6 : W2.heap.size ≤ w6.heap.size := hbb6.size; have hB6 : Below (w.heap.size + 1) W2 w6 := hbb6.mono hsB) | (go_at_call 63; refine (HW.out _).mono ?_; rintro e w8 ⟨rfl, hb8⟩; have hbb8 := below_on (w := W2) (by go_grown) hb8; have hs8 : W2.heap.size ≤ w8.heap.size := hbb8.size; have hB8 : Below (w.heap.size + 1) W2 w8 := hbb8.mono hsB; obtain ⟨z0, z1, z2, z3, z4, z5, z6, z7⟩ := c7_on hz2 hbb8; have fz4 := fz7_on hz2.1 fz2 hbb8))
  all_goals
    go_wp2
    refine bodyPost_ret (v := .tuple #[.agg #[.int .i64 r0, .int .i64 r1, .int .i64 r2, .int .i64 r3, .int .i64 r4, .int .i64 r5, .int .i64 r6], .bool ok]) (by simp [results, Tryd.results54, go_sem, z1, z2, z3, z4, z5, z6, z7]) rfl ⟨rfl, ?_⟩
    have hbf := below_on hb2 hbb8
    go_grown

set_option maxHeartbeats 400000 in
theorem specScaleAtom_bad (k m a b c d n K : Int) (w : World) (h : (avB k m a b c d n && inB K 1 100) = false) :
    Calls Tryd.prog 54 #[.agg #[.int .i64 k, .int .i64 m, .int .i64 a, .int .i64 b, .int .i64 c, .int .i64 d, .int .i64 n], .int .i64 K] w fun e w' => e = .returned (.tuple #[.agg #[.int .i64 0, .int .i64 0, .int .i64 0, .int .i64 0, .int .i64 0, .int .i64 0, .int .i64 0], .bool false]) ∧ Below w.heap.size w w' := by
  by_cases hv : avB k m a b c d n = true
  · have hK : inB K 1 100 = false := by simpa [hv] using h
    have HV := Lib.hid hv
    have HK := Lib.hid hK
    clear hv h hK
    go_enter Tryd.func54, Tryd.ntmps54
    go_wp2_with fail
    generalize hW : (w.alloc (.cells #[.int .i64 k, .int .i64 m, .int .i64 a, .int .i64 b, .int .i64 c, .int .i64 d, .int .i64 n] 33)).alloc (.cells #[.int .i64 0, .int .i64 0, .int .i64 0, .int .i64 0, .int .i64 0, .int .i64 0, .int .i64 0] 33) = W
    have hz : C7 W (w.heap.size + 1) 0 0 0 0 0 0 0 := by subst hW; exact (by refine ⟨?_, ?_, ?_, ?_, ?_, ?_, ?_, ?_⟩ <;> first | (simp [go_sem]; done) | (simp; omega))
    have fz : Hid (∀ o, W.frozen? ⟨w.heap.size + 1, o, none⟩ = false) := by intro o; subst hW; simp [go_sem]
    have hb0 : Below w.heap.size w W := by subst hW; go_grown
    clear hW
    refine (specAtomValid_is _ _ _ _ _ _ _ true _ HV.out).mono ?_
    rintro e w1 ⟨rfl, hb1⟩
    go_wp2_with fail
    refine (l1In_is _ _ _ false _ HK.out).mono ?_
    rintro e w' ⟨rfl, rfl⟩
    obtain ⟨z0, z1, z2, z3, z4, z5, z6, z7⟩ := c7_on hz hb1
    have fz1 := fz7_on hz.1 fz hb1
    have hbw1 := below_on hb0 hb1
    go_wp2
    refine bodyPost_ret (v := .tuple #[.agg #[.int .i64 0, .int .i64 0, .int .i64 0, .int .i64 0, .int .i64 0, .int .i64 0, .int .i64 0], .bool false]) (by simp [results, Tryd.results54, go_sem, z1, z2, z3, z4, z5, z6, z7]) rfl ⟨rfl, ?_⟩
    go_grown
  · have hf : avB k m a b c d n = false := by simpa using hv
    have HV := Lib.hid hf
    clear hv h hf
    go_enter Tryd.func54, Tryd.ntmps54
    go_wp2_with fail
    generalize hW : (w.alloc (.cells #[.int .i64 k, .int .i64 m, .int .i64 a, .int .i64 b, .int .i64 c, .int .i64 d, .int .i64 n] 33)).alloc (.cells #[.int .i64 0, .int .i64 0, .int .i64 0, .int .i64 0, .int .i64 0, .int .i64 0, .int .i64 0] 33) = W
    have hz : C7 W (w.heap.size + 1) 0 0 0 0 0 0 0 := by subst hW; exact (by refine ⟨?_, ?_, ?_, ?_, ?_, ?_, ?_, ?_⟩ <;> first | (simp [go_sem]; done) | (simp; omega))
    have fz : Hid (∀ o, W.frozen? ⟨w.heap.size + 1, o, none⟩ = false) := by intro o; subst hW; simp [go_sem]
    have hb0 : Below w.heap.size w W := by subst hW; go_grown
    clear hW
    refine (specAtomValid_is _ _ _ _ _ _ _ false _ HV.out).mono ?_
    rintro e w1 ⟨rfl, hb1⟩
    obtain ⟨z0, z1, z2, z3, z4, z5, z6, z7⟩ := c7_on hz hb1
    have fz1 := fz7_on hz.1 fz hb1
    have hbw1 := below_on hb0 hb1
    go_wp2
    refine bodyPost_ret (v := .tuple #[.agg #[.int .i64 0, .int .i64 0, .int .i64 0, .int .i64 0, .int .i64 0, .int .i64 0, .int .i64 0], .bool false]) (by simp [results, Tryd.results54, go_sem, z1, z2, z3, z4, z5, z6, z7]) rfl ⟨rfl, ?_⟩
    go_grown


end Go.Proofs.YtjbbknbnknhjhaaDoor
