/- Contracts of ScaleAtom of the program and of the model, and the walk of the law that says that they agree. -/
import Derived.Test.YthphlkfofbdncaaAtF
import Derived.Test.YthphlkfofbdncaaLawP
namespace Go.Proofs.Ythphlkfofbdncaa
open Go.RowKit

def List5 (a b c d n : Int) (w : World) (e : Ending) (w' : World) : Prop := ∃ bl, e = .returned (.slice (some ⟨bl, 0, none⟩) 5 5) ∧ C5 w' bl a b c d n ∧ w.heap.size ≤ bl ∧ Below w.heap.size w w'

theorem multiples_t (a b c d n : Int) (w : World) : Calls Try.prog 75 #[.agg #[.int .i64 a, .int .i64 b, .int .i64 c, .int .i64 d, .int .i64 n]] w (List5 a b c d n w) :=
  (multiples_any a b c d n w).mono fun _ _ ⟨he, hw⟩ => ⟨w.heap.size + 1, he, by subst hw; exact (by refine ⟨?_, ?_, ?_, ?_, ?_, ?_⟩ <;> first | (simp [go_sem]; done) | (simp; omega)), by omega, by subst hw; go_grown⟩
theorem times_t (a b c d n k : Int) (bl : Nat) (w : World) (hl : C5 w bl a b c d n)
    (hs : (-100000000 ≤ a * k ∧ a * k ≤ 100000000) ∧ (-100000000 ≤ b * k ∧ b * k ≤ 100000000) ∧ (-100000000 ≤ c * k ∧ c * k ≤ 100000000) ∧ (-100000000 ≤ d * k ∧ d * k ≤ 100000000) ∧ (-100000000 ≤ n * k ∧ n * k ≤ 100000000)) :
    Calls Try.prog 77 #[.slice (some ⟨bl, 0, none⟩) 5 5, .int .i64 k] w (List5 (a * k) (b * k) (c * k) (d * k) (n * k) w) :=
  (times_of a b c d n k bl w hl hs).mono fun _ _ ⟨he, hw⟩ => ⟨w.heap.size, he, by subst hw; exact (by refine ⟨?_, ?_, ?_, ?_, ?_, ?_⟩ <;> first | (simp [go_sem]; done) | (simp; omega)), by omega, by subst hw; go_grown⟩

theorem keep7 {W w' : World} {p : Nat} {k m a b c d n : Int} (h1 : C7 W p k m a b c d n) (hB : Below W.heap.size W w') :
    Below W.heap.size W w' ∧ (w'.cell? ⟨p, 0, none⟩ = some (.int .i64 k) ∧ w'.cell? ⟨p, 1, none⟩ = some (.int .i64 m) ∧ w'.cell? ⟨p, 2, none⟩ = some (.int .i64 a) ∧ w'.cell? ⟨p, 3, none⟩ = some (.int .i64 b) ∧ w'.cell? ⟨p, 4, none⟩ = some (.int .i64 c) ∧ w'.cell? ⟨p, 5, none⟩ = some (.int .i64 d) ∧ w'.cell? ⟨p, 6, none⟩ = some (.int .i64 n)) := ⟨hB, (c7_on h1 hB).2⟩

theorem keep7b {W w' : World} {B p : Nat} {k m a b c d n : Int} (h1 : C7 W p k m a b c d n) (hp : p < B) (hB : Below B W w') :
    Below B W w' ∧ (w'.cell? ⟨p, 0, none⟩ = some (.int .i64 k) ∧ w'.cell? ⟨p, 1, none⟩ = some (.int .i64 m) ∧ w'.cell? ⟨p, 2, none⟩ = some (.int .i64 a) ∧ w'.cell? ⟨p, 3, none⟩ = some (.int .i64 b) ∧ w'.cell? ⟨p, 4, none⟩ = some (.int .i64 c) ∧ w'.cell? ⟨p, 5, none⟩ = some (.int .i64 d) ∧ w'.cell? ⟨p, 6, none⟩ = some (.int .i64 n)) :=
  have f : ∀ o, w'.cell? ⟨p, o, none⟩ = W.cell? ⟨p, o, none⟩ := fun o => hB.cell (p := ⟨p, o, none⟩) hp
  ⟨hB, (f 0).trans h1.2.1, (f 1).trans h1.2.2.1, (f 2).trans h1.2.2.2.1, (f 3).trans h1.2.2.2.2.1, (f 4).trans h1.2.2.2.2.2.1, (f 5).trans h1.2.2.2.2.2.2.1, (f 6).trans h1.2.2.2.2.2.2.2⟩

theorem c5_drew {W : World} {x k : Nat} {a b c d n : Int} (h : C5 W x a b c d n) : C5 (W.drewN k) x a b c d n := h
theorem c5_drew1 {W : World} {x : Nat} {a b c d n : Int} (h : C5 W x a b c d n) : C5 W.drew x a b c d n := h

set_option maxHeartbeats 2000000 in
theorem ScaleAtom_in (k m a b c d n K A B C D N r0 r1 r2 r3 r4 r5 r6 : Int) (ok : Bool) (w : World) (h : avB k m a b c d n = true) (k0 : 1 ≤ K) (k1 : K ≤ 100)
    (hA : a * K = A) (hB : b * K = B) (hC : c * K = C) (hD : d * K = D) (hN : n * K = N)
    (HW : Hid (∀ W bl, C5 W bl A B C D N → Calls Try.prog 83 #[.agg #[.int .i64 k, .int .i64 (m * K), .int .i64 a, .int .i64 b, .int .i64 c, .int .i64 d, .int .i64 n], .slice (some ⟨bl, 0, none⟩) 5 5] W fun e w' => e = .returned (.tuple #[.agg #[.int .i64 r0, .int .i64 r1, .int .i64 r2, .int .i64 r3, .int .i64 r4, .int .i64 r5, .int .i64 r6], .bool ok]) ∧ Below W.heap.size W w')) :
    Calls Try.prog 32 #[.agg #[.int .i64 k, .int .i64 m, .int .i64 a, .int .i64 b, .int .i64 c, .int .i64 d, .int .i64 n], .int .i64 K] w fun e w' => e = .returned (.tuple #[.agg #[.int .i64 r0, .int .i64 r1, .int .i64 r2, .int .i64 r3, .int .i64 r4, .int .i64 r5, .int .i64 r6], .bool ok]) ∧ Below w.heap.size w w' := by
  have hm : 0 ≤ m ∧ m ≤ 100 := by have := (avB_cases h).1; omega
  obtain ⟨⟨a0, a1⟩, ⟨b0, b1⟩, ⟨c0, c1⟩, ⟨d0, d1⟩, n0, n1⟩ := tv_bd (avB_cases h).2
  have ht := fun bl W (hl : C5 W bl a b c d n) => times_t a b c d n K bl W hl (by
    have e1 := mul_bd2 (K := 100) a0 a1 (show -100 ≤ K by omega) k1 (by omega)
    have e2 := mul_bd2 (K := 100) b0 b1 (show -100 ≤ K by omega) k1 (by omega)
    have e3 := mul_bd2 (K := 100) c0 c1 (show -100 ≤ K by omega) k1 (by omega)
    have e4 := mul_bd2 (K := 100) d0 d1 (show -100 ≤ K by omega) k1 (by omega)
    have e5 := mul_bd2 (K := 100) n0 n1 (show -100 ≤ K by omega) k1 (by omega)
    omega)
  rw [hA, hB, hC, hD, hN] at ht
  have em := mul_bd (a := m) (x := K) (A := 100) (X := 100) (by omega) hm.2 (by omega) k1 (by omega)
  obtain ⟨M, hM⟩ : ∃ M, m * K = M := ⟨_, rfl⟩
  rw [hM] at HW em
  have HT := Lib.hid ht
  have HV := Lib.hid h
  have hmw : IntKind.i64.wrap (m * K) = M := by rw [IntKind.wrap_i64, hM]; omega
  have HM := Lib.hid hM
  clear ht h hA hB hC hD hN a0 a1 b0 b1 c0 c1 d0 d1 n0 n1 hM hmw
  go_enter Try.func32, Try.ntmps32
  go_wp2_with fail
  generalize hW : (w.alloc (.cells #[.int .i64 k, .int .i64 m, .int .i64 a, .int .i64 b, .int .i64 c, .int .i64 d, .int .i64 n] 29)).alloc (.cells #[.int .i64 0, .int .i64 0, .int .i64 0, .int .i64 0, .int .i64 0, .int .i64 0, .int .i64 0] 29) = W
  have hx : C7 W w.heap.size k m a b c d n := by subst hW; exact (by refine ⟨?_, ?_, ?_, ?_, ?_, ?_, ?_, ?_⟩ <;> first | (simp [go_sem]; done) | (simp; omega))
  have hz : C7 W (w.heap.size + 1) 0 0 0 0 0 0 0 := by subst hW; exact (by refine ⟨?_, ?_, ?_, ?_, ?_, ?_, ?_, ?_⟩ <;> first | (simp [go_sem]; done) | (simp; omega))
  have fx : Hid (∀ o, W.frozen? ⟨w.heap.size, o, none⟩ = false) := by intro o; subst hW; simp [go_sem]
  have fz : Hid (∀ o, W.frozen? ⟨w.heap.size + 1, o, none⟩ = false) := by intro o; subst hW; simp [go_sem]
  have hb0 : Below w.heap.size w W := by subst hW; go_grown
  clear hW
  refine (AtomValid_is _ _ _ _ _ _ _ true _ HV.out).mono ?_
  rintro e w1 ⟨rfl, hb1⟩
  obtain ⟨x0, x1, x2, x3, x4, x5, x6, x7⟩ := c7_on hx hb1
  obtain ⟨z0, z1, z2, z3, z4, z5, z6, z7⟩ := c7_on hz hb1
  have fx1 := fz7_on hx.1 fx hb1
  have fz1 := fz7_on hz.1 fz hb1
  have hbw1 := below_on hb0 hb1
  have hm' := HM.out
  go_upto_region 4 with fail
  generalize hW2 : World.setCell _ _ _ = W2
  have hx2 : C7 W2 w.heap.size k M a b c d n := by subst hW2; refine ⟨?_, ?_, ?_, ?_, ?_, ?_, ?_, ?_⟩ <;> first | (simp [go_sem, *]; done) | (simp [World.setCell]; omega)
  have hz2 : C7 W2 (w.heap.size + 1) 0 0 0 0 0 0 0 := by subst hW2; refine ⟨?_, ?_, ?_, ?_, ?_, ?_, ?_, ?_⟩ <;> first | (simp [go_sem, *]; done) | (simp [World.setCell]; omega)
  have fz2 : Hid (∀ o, W2.frozen? ⟨w.heap.size + 1, o, none⟩ = false) := by intro o; subst hW2; simp [go_sem, fz1]
  have hb2 : Below w.heap.size w W2 := by subst hW2; go_grown
  clear hW2 x0 x1 x2 x3 x4 x5 x6 x7 z0 z1 z2 z3 z4 z5 z6 z7 fx1 fz1 hm' hbw1 hb1 hx hz fx fz hb0
  have hsB : w.heap.size + 1 ≤ W2.heap.size := Nat.le_of_lt hz2.1
  go_region_held3 (fun w' => Below (w.heap.size + 1) W2 w' ∧ (w'.cell? ⟨w.heap.size, 0, none⟩ = some (.int .i64 k) ∧ w'.cell? ⟨w.heap.size, 1, none⟩ = some (.int .i64 M) ∧ w'.cell? ⟨w.heap.size, 2, none⟩ = some (.int .i64 a) ∧ w'.cell? ⟨w.heap.size, 3, none⟩ = some (.int .i64 b) ∧ w'.cell? ⟨w.heap.size, 4, none⟩ = some (.int .i64 c) ∧ w'.cell? ⟨w.heap.size, 5, none⟩ = some (.int .i64 d) ∧ w'.cell? ⟨w.heap.size, 6, none⟩ = some (.int .i64 n))) (exact keep7b hx2 (by omega) (by go_grown)) (first | (go_at_call 75; refine (multiples_t a b c d n _).mono ?_; rintro e w6 ⟨b6, rfl, hC6, _, hb6⟩; have hbb6 := below_on (w := W2) (by go_grown) hb6; have hs6 : W2.heap.size ≤ w6.heap.size := hbb6.size; have hB6 : Below (w.heap.size + 1) W2 w6 := hbb6.mono hsB) | (go_at_call 77; refine (HT.out _ _ (by first | exact hC6 | exact c5_drew1 hC6 | exact c5_drew hC6)).mono ?_; rintro e w7 ⟨b7, rfl, hC7, _, hb7⟩; have hbb7 := below_on (w := W2) (by go_grown) hb7; have hs7 : W2.heap.size ≤ w7.heap.size := hbb7.size; have hB7 : Below (w.heap.size + 1) W2 w7 := hbb7.mono hsB) | (go_at_call 83; refine (HW.out _ _ (by first | exact hC7 | exact c5_drew1 hC7 | exact c5_drew hC7)).mono ?_; rintro e w8 ⟨rfl, hb8⟩; have hbb8 := below_on (w := W2) (by go_grown) hb8; have hs8 : W2.heap.size ≤ w8.heap.size := hbb8.size; have hB8 : Below (w.heap.size + 1) W2 w8 := hbb8.mono hsB; obtain ⟨z0, z1, z2, z3, z4, z5, z6, z7⟩ := c7_on hz2 hbb8; have fz4 := fz7_on hz2.1 fz2 hbb8))
  all_goals
    go_wp2
    refine bodyPost_ret (v := .tuple #[.agg #[.int .i64 r0, .int .i64 r1, .int .i64 r2, .int .i64 r3, .int .i64 r4, .int .i64 r5, .int .i64 r6], .bool ok]) (by simp [results, Try.results32, go_sem, z1, z2, z3, z4, z5, z6, z7]) rfl ⟨rfl, ?_⟩
    have hbf := below_on hb2 hbb8
    go_grown

set_option maxHeartbeats 400000 in
theorem ScaleAtom_bad (k m a b c d n K : Int) (w : World) (h : (avB k m a b c d n && inB K 1 100) = false) :
    Calls Try.prog 32 #[.agg #[.int .i64 k, .int .i64 m, .int .i64 a, .int .i64 b, .int .i64 c, .int .i64 d, .int .i64 n], .int .i64 K] w fun e w' => e = .returned (.tuple #[.agg #[.int .i64 0, .int .i64 0, .int .i64 0, .int .i64 0, .int .i64 0, .int .i64 0, .int .i64 0], .bool false]) ∧ Below w.heap.size w w' := by
  by_cases hv : avB k m a b c d n = true
  · have hK : ¬ (1 ≤ K ∧ K ≤ 100) := by simpa [hv, inB] using h
    have HV := Lib.hid hv
    clear hv h
    by_cases h1 : K < 1
    · go_enter Try.func32, Try.ntmps32
      go_wp2_with fail
      generalize hW : (w.alloc (.cells #[.int .i64 k, .int .i64 m, .int .i64 a, .int .i64 b, .int .i64 c, .int .i64 d, .int .i64 n] 29)).alloc (.cells #[.int .i64 0, .int .i64 0, .int .i64 0, .int .i64 0, .int .i64 0, .int .i64 0, .int .i64 0] 29) = W
      have hz : C7 W (w.heap.size + 1) 0 0 0 0 0 0 0 := by subst hW; exact (by refine ⟨?_, ?_, ?_, ?_, ?_, ?_, ?_, ?_⟩ <;> first | (simp [go_sem]; done) | (simp; omega))
      have fz : Hid (∀ o, W.frozen? ⟨w.heap.size + 1, o, none⟩ = false) := by intro o; subst hW; simp [go_sem]
      have hb0 : Below w.heap.size w W := by subst hW; go_grown
      clear hW
      refine (AtomValid_is _ _ _ _ _ _ _ true _ HV.out).mono ?_
      rintro e w1 ⟨rfl, hb1⟩
      obtain ⟨z0, z1, z2, z3, z4, z5, z6, z7⟩ := c7_on hz hb1
      have fz1 := fz7_on hz.1 fz hb1
      have hbw1 := below_on hb0 hb1
      go_wp2
      refine bodyPost_ret (v := .tuple #[.agg #[.int .i64 0, .int .i64 0, .int .i64 0, .int .i64 0, .int .i64 0, .int .i64 0, .int .i64 0], .bool false]) (by simp [results, Try.results32, go_sem, z1, z2, z3, z4, z5, z6, z7]) rfl ⟨rfl, ?_⟩
      go_grown
    · have h2 : ¬ K ≤ 100 := by omega
      clear hK
      go_enter Try.func32, Try.ntmps32
      go_wp2_with fail
      generalize hW : (w.alloc (.cells #[.int .i64 k, .int .i64 m, .int .i64 a, .int .i64 b, .int .i64 c, .int .i64 d, .int .i64 n] 29)).alloc (.cells #[.int .i64 0, .int .i64 0, .int .i64 0, .int .i64 0, .int .i64 0, .int .i64 0, .int .i64 0] 29) = W
      have hz : C7 W (w.heap.size + 1) 0 0 0 0 0 0 0 := by subst hW; exact (by refine ⟨?_, ?_, ?_, ?_, ?_, ?_, ?_, ?_⟩ <;> first | (simp [go_sem]; done) | (simp; omega))
      have fz : Hid (∀ o, W.frozen? ⟨w.heap.size + 1, o, none⟩ = false) := by intro o; subst hW; simp [go_sem]
      have hb0 : Below w.heap.size w W := by subst hW; go_grown
      clear hW
      refine (AtomValid_is _ _ _ _ _ _ _ true _ HV.out).mono ?_
      rintro e w1 ⟨rfl, hb1⟩
      obtain ⟨z0, z1, z2, z3, z4, z5, z6, z7⟩ := c7_on hz hb1
      have fz1 := fz7_on hz.1 fz hb1
      have hbw1 := below_on hb0 hb1
      go_wp2
      refine bodyPost_ret (v := .tuple #[.agg #[.int .i64 0, .int .i64 0, .int .i64 0, .int .i64 0, .int .i64 0, .int .i64 0, .int .i64 0], .bool false]) (by simp [results, Try.results32, go_sem, z1, z2, z3, z4, z5, z6, z7]) rfl ⟨rfl, ?_⟩
      go_grown
  · have hf : avB k m a b c d n = false := by simpa using hv
    have HV := Lib.hid hf
    clear hv h hf
    go_enter Try.func32, Try.ntmps32
    go_wp2_with fail
    generalize hW : (w.alloc (.cells #[.int .i64 k, .int .i64 m, .int .i64 a, .int .i64 b, .int .i64 c, .int .i64 d, .int .i64 n] 29)).alloc (.cells #[.int .i64 0, .int .i64 0, .int .i64 0, .int .i64 0, .int .i64 0, .int .i64 0, .int .i64 0] 29) = W
    have hz : C7 W (w.heap.size + 1) 0 0 0 0 0 0 0 := by subst hW; exact (by refine ⟨?_, ?_, ?_, ?_, ?_, ?_, ?_, ?_⟩ <;> first | (simp [go_sem]; done) | (simp; omega))
    have fz : Hid (∀ o, W.frozen? ⟨w.heap.size + 1, o, none⟩ = false) := by intro o; subst hW; simp [go_sem]
    have hb0 : Below w.heap.size w W := by subst hW; go_grown
    clear hW
    refine (AtomValid_is _ _ _ _ _ _ _ false _ HV.out).mono ?_
    rintro e w1 ⟨rfl, hb1⟩
    obtain ⟨z0, z1, z2, z3, z4, z5, z6, z7⟩ := c7_on hz hb1
    have fz1 := fz7_on hz.1 fz hb1
    have hbw1 := below_on hb0 hb1
    go_wp2
    refine bodyPost_ret (v := .tuple #[.agg #[.int .i64 0, .int .i64 0, .int .i64 0, .int .i64 0, .int .i64 0, .int .i64 0, .int .i64 0], .bool false]) (by simp [results, Try.results32, go_sem, z1, z2, z3, z4, z5, z6, z7]) rfl ⟨rfl, ?_⟩
    go_grown

end Go.Proofs.Ythphlkfofbdncaa
