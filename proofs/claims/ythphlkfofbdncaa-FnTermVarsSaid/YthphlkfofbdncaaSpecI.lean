/- Contracts of the model's SubstTerm. -/
import Derived.Test.YthphlkfofbdncaaSpecD
import Derived.Test.YthphlkfofbdncaaSpecE
import Derived.Test.YthphlkfofbdncaaHeld
import Derived.Test.YthphlkfofbdncaaImplE
namespace Go.Proofs.Ythphlkfofbdncaa
open Go.RowKit

set_option maxHeartbeats 1000000 in
theorem specSubstTerm_ok (a b c d n v a' b' c' d' n' K A B C D : Int) (w : World) (h1 : tvB a b c d n = true) (h2 : tvB a' b' c' d' n' = true) (hv : 0 ≤ v ∧ v < 4)
    (hK : sel a b c d v 0 = K) (hA : (if v = 0 then 0 else a) = A) (hB : (if v = 1 then 0 else b) = B) (hC : (if v = 2 then 0 else c) = C) (hD : (if v = 3 then 0 else d) = D)
    (h3 : tvB (A + a' * K) (B + b' * K) (C + c' * K) (D + d' * K) (n + n' * K) = true) :
    Calls Try.prog 64 #[.agg #[.int .i64 a, .int .i64 b, .int .i64 c, .int .i64 d, .int .i64 n], .int .i64 v, .agg #[.int .i64 a', .int .i64 b', .int .i64 c', .int .i64 d', .int .i64 n']] w fun e w' => e = .returned (.tuple #[.agg #[.int .i64 (A + a' * K), .int .i64 (B + b' * K), .int .i64 (C + c' * K), .int .i64 (D + d' * K), .int .i64 (n + n' * K)], .bool true]) ∧ Below w.heap.size w w' := by
  have q1 := tv_bd h1
  have q2 := tv_bd h2
  have qK := sel_bd (v := v) h1
  rw [hK] at qK
  have qA := drop_bd (v := v) (i := 0) q1.1.1 q1.1.2
  have qB := drop_bd (v := v) (i := 1) q1.2.1.1 q1.2.1.2
  have qC := drop_bd (v := v) (i := 2) q1.2.2.1.1 q1.2.2.1.2
  have qD := drop_bd (v := v) (i := 3) q1.2.2.2.1.1 q1.2.2.2.1.2
  rw [hA] at qA
  rw [hB] at qB
  rw [hC] at qC
  rw [hD] at qD
  have e1 := mul_bd2 q2.1.1 q2.1.2 qK.1 qK.2 (by omega)
  have e2 := mul_bd2 q2.2.1.1 q2.2.1.2 qK.1 qK.2 (by omega)
  have e3 := mul_bd2 q2.2.2.1.1 q2.2.2.1.2 qK.1 qK.2 (by omega)
  have e4 := mul_bd2 q2.2.2.2.1.1 q2.2.2.2.1.2 qK.1 qK.2 (by omega)
  have e5 := mul_bd2 q2.2.2.2.2.1 q2.2.2.2.2.2 qK.1 qK.2 (by omega)
  have hp := fun W => l1Plus_any A B C D n K a' b' c' d' n' W (by rw [Int.mul_comm]; omega) (by rw [Int.mul_comm]; omega) (by rw [Int.mul_comm]; omega) (by rw [Int.mul_comm]; omega) (by rw [Int.mul_comm]; omega) (by omega) (by omega) (by omega) (by omega) (by omega)
  rw [Int.mul_comm K a', Int.mul_comm K b', Int.mul_comm K c', Int.mul_comm K d', Int.mul_comm K n'] at hp
  have HP := Lib.hid hp
  have H1 := Lib.hid h1
  have H2 := Lib.hid h2
  have H3 := Lib.hid h3
  have hc := fun W => specCoefOf_any a b c d n v W
  rw [hK] at hc
  have HC := Lib.hid hc
  have hw := fun W => l1Without_any a b c d n v W hv
  rw [hA, hB, hC, hD] at hw
  have HW := Lib.hid hw
  have HV : Hid (∀ W, Calls Try.prog 94 #[.int .i64 v] W fun e w' => e = .returned (.bool true) ∧ W = w') := fun W => l1Var_is v true W (by simp [varB]; omega)
  clear h1 h2 h3 hv hK hA hB hC hD q1 q2 qK qA qB qC qD e1 e2 e3 e4 e5 hp hc hw
  go_enter Try.func64, Try.ntmps64
  go_wp2_with (first | (go_at_call 71; refine (specTermValid_is _ _ _ _ _ true _ (by first | exact H1.out | exact H2.out)).mono ?_; rintro e w' ⟨rfl, rfl⟩) | (go_at_call 94; refine (HV.out _).mono ?_; rintro e w' ⟨rfl, rfl⟩))
  generalize hW : (w.alloc (.cells #[.int .i64 a, .int .i64 b, .int .i64 c, .int .i64 d, .int .i64 n] 27)).alloc (.cells #[.int .i64 a', .int .i64 b', .int .i64 c', .int .i64 d', .int .i64 n'] 27) = W0
  have hx : C5 W0 w.heap.size a b c d n := by subst hW; exact (by refine ⟨?_, ?_, ?_, ?_, ?_, ?_⟩ <;> first | (simp [go_sem]; done) | (simp; omega))
  have hy : C5 W0 (w.heap.size + 1) a' b' c' d' n' := by subst hW; exact (by refine ⟨?_, ?_, ?_, ?_, ?_, ?_⟩ <;> first | (simp [go_sem]; done) | (simp; omega))
  have hw0 : Below w.heap.size w W0 := by subst hW; go_grown
  have hsz0 : w.heap.size + 1 + 1 = W0.heap.size := by subst hW; simp
  rw [hsz0]
  clear hW hsz0
  generalize hW : ((((((W0.alloc (.cells #[.int .i64 0, .int .i64 0, .int .i64 0, .int .i64 0, .int .i64 0] 27)).alloc (.cells #[.int .i64 a, .int .i64 b, .int .i64 c, .int .i64 d, .int .i64 n] 27)).alloc (.cells #[.int .i64 a, .int .i64 b, .int .i64 c, .int .i64 d, .int .i64 n] 27)).alloc (.cells #[.int .i64 a, .int .i64 b, .int .i64 c, .int .i64 d, .int .i64 n] 3)).alloc (.cells #[.int .i64 a', .int .i64 b', .int .i64 c', .int .i64 d', .int .i64 n'] 27)).alloc (.cells #[.int .i64 a', .int .i64 b', .int .i64 c', .int .i64 d', .int .i64 n'] 27)).alloc (.cells #[.int .i64 a', .int .i64 b', .int .i64 c', .int .i64 d', .int .i64 n'] 3) = W
  have hz : C5 W W0.heap.size 0 0 0 0 0 := by subst hW; exact (by refine ⟨?_, ?_, ?_, ?_, ?_, ?_⟩ <;> first | (simp [go_sem]; done) | (simp; omega))
  have fz0 : Hid (∀ o, W.frozen? ⟨W0.heap.size, o, none⟩ = false) := by intro o; subst hW; simp [go_sem]
  have hWW : Below W0.heap.size W0 W := by subst hW; go_grown
  have hlt : W0.heap.size < W.heap.size := by subst hW; simp only [World.size_alloc]; omega
  clear hW
  go_region_held3 (fun w' => Below W0.heap.size W0 w' ∧ w'.cell? ⟨w.heap.size, 0, none⟩ = some (.int .i64 a) ∧ w'.cell? ⟨w.heap.size, 1, none⟩ = some (.int .i64 b) ∧ w'.cell? ⟨w.heap.size, 2, none⟩ = some (.int .i64 c) ∧ w'.cell? ⟨w.heap.size, 3, none⟩ = some (.int .i64 d) ∧ w'.cell? ⟨w.heap.size, 4, none⟩ = some (.int .i64 n) ∧ w'.cell? ⟨w.heap.size + 1, 0, none⟩ = some (.int .i64 a') ∧ w'.cell? ⟨w.heap.size + 1, 1, none⟩ = some (.int .i64 b') ∧ w'.cell? ⟨w.heap.size + 1, 2, none⟩ = some (.int .i64 c') ∧ w'.cell? ⟨w.heap.size + 1, 3, none⟩ = some (.int .i64 d') ∧ w'.cell? ⟨w.heap.size + 1, 4, none⟩ = some (.int .i64 n')) (exact keep55 hx hy (by go_grown)) (first | (go_at_call 103; refine (HW.out _).mono ?_; rintro e w' ⟨rfl, hb⟩; have hbb := below_on (w := W) (by go_grown) hb; have hb0 := below_on (w := W0) hWW hbb; have hsy : W.heap.size ≤ w'.heap.size := hbb.size; have hsz : W0.heap.size < w'.heap.size := Nat.lt_of_lt_of_le hlt hbb.size) | (go_at_call 84; refine (HC.out _).mono ?_; rintro e w' ⟨rfl, hb⟩; have hbb := below_on (w := W) (by go_grown) hb; have hb0 := below_on (w := W0) hWW hbb; have hsy : W.heap.size ≤ w'.heap.size := hbb.size; have hsz : W0.heap.size < w'.heap.size := Nat.lt_of_lt_of_le hlt hbb.size) | (go_at_call 82; refine (HP.out _).mono ?_; rintro e w' ⟨rfl, hb⟩; have hbb := below_on (w := W) (by go_grown) hb; have hb0 := below_on (w := W0) hWW hbb; have hsy : W.heap.size ≤ w'.heap.size := hbb.size; have hsz : W0.heap.size < w'.heap.size := Nat.lt_of_lt_of_le hlt hbb.size) | (go_at_call 100; refine (l1Result_yes _ _ _ _ _ _ H3.out).mono ?_; rintro e w' ⟨rfl, hb⟩; have hbb := below_on (w := W) (by go_grown) hb; have hb0 := below_on (w := W0) hWW hbb; have hsy : W.heap.size ≤ w'.heap.size := hbb.size; have hsz : W0.heap.size < w'.heap.size := Nat.lt_of_lt_of_le hlt hbb.size; obtain ⟨z0, z1, z2, z3, z4, z5⟩ := c5_on hz hbb; have fz := fz_on hz fz0 hbb))
  all_goals
    go_wp2
    refine bodyPost_ret (v := .tuple #[.agg #[.int .i64 (A + a' * K), .int .i64 (B + b' * K), .int .i64 (C + c' * K), .int .i64 (D + d' * K), .int .i64 (n + n' * K)], .bool true]) (by simp [results, Try.results64, go_sem, z1, z2, z3, z4, z5]) rfl ⟨rfl, ?_⟩
    exact below_on hw0 (by go_grown)

set_option maxHeartbeats 1000000 in
theorem specSubstTerm_far (a b c d n v a' b' c' d' n' K A B C D : Int) (w : World) (h1 : tvB a b c d n = true) (h2 : tvB a' b' c' d' n' = true) (hv : 0 ≤ v ∧ v < 4)
    (hK : sel a b c d v 0 = K) (hA : (if v = 0 then 0 else a) = A) (hB : (if v = 1 then 0 else b) = B) (hC : (if v = 2 then 0 else c) = C) (hD : (if v = 3 then 0 else d) = D)
    (h3 : tvB (A + a' * K) (B + b' * K) (C + c' * K) (D + d' * K) (n + n' * K) = false) :
    Calls Try.prog 64 #[.agg #[.int .i64 a, .int .i64 b, .int .i64 c, .int .i64 d, .int .i64 n], .int .i64 v, .agg #[.int .i64 a', .int .i64 b', .int .i64 c', .int .i64 d', .int .i64 n']] w fun e w' => e = .returned (.tuple #[.agg #[.int .i64 0, .int .i64 0, .int .i64 0, .int .i64 0, .int .i64 0], .bool false]) ∧ Below w.heap.size w w' := by
  have q1 := tv_bd h1
  have q2 := tv_bd h2
  have qK := sel_bd (v := v) h1
  rw [hK] at qK
  have qA := drop_bd (v := v) (i := 0) q1.1.1 q1.1.2
  have qB := drop_bd (v := v) (i := 1) q1.2.1.1 q1.2.1.2
  have qC := drop_bd (v := v) (i := 2) q1.2.2.1.1 q1.2.2.1.2
  have qD := drop_bd (v := v) (i := 3) q1.2.2.2.1.1 q1.2.2.2.1.2
  rw [hA] at qA
  rw [hB] at qB
  rw [hC] at qC
  rw [hD] at qD
  have e1 := mul_bd2 q2.1.1 q2.1.2 qK.1 qK.2 (by omega)
  have e2 := mul_bd2 q2.2.1.1 q2.2.1.2 qK.1 qK.2 (by omega)
  have e3 := mul_bd2 q2.2.2.1.1 q2.2.2.1.2 qK.1 qK.2 (by omega)
  have e4 := mul_bd2 q2.2.2.2.1.1 q2.2.2.2.1.2 qK.1 qK.2 (by omega)
  have e5 := mul_bd2 q2.2.2.2.2.1 q2.2.2.2.2.2 qK.1 qK.2 (by omega)
  have hp := fun W => l1Plus_any A B C D n K a' b' c' d' n' W (by rw [Int.mul_comm]; omega) (by rw [Int.mul_comm]; omega) (by rw [Int.mul_comm]; omega) (by rw [Int.mul_comm]; omega) (by rw [Int.mul_comm]; omega) (by omega) (by omega) (by omega) (by omega) (by omega)
  rw [Int.mul_comm K a', Int.mul_comm K b', Int.mul_comm K c', Int.mul_comm K d', Int.mul_comm K n'] at hp
  have HP := Lib.hid hp
  have H1 := Lib.hid h1
  have H2 := Lib.hid h2
  have H3 := Lib.hid h3
  have hc := fun W => specCoefOf_any a b c d n v W
  rw [hK] at hc
  have HC := Lib.hid hc
  have hw := fun W => l1Without_any a b c d n v W hv
  rw [hA, hB, hC, hD] at hw
  have HW := Lib.hid hw
  have HV : Hid (∀ W, Calls Try.prog 94 #[.int .i64 v] W fun e w' => e = .returned (.bool true) ∧ W = w') := fun W => l1Var_is v true W (by simp [varB]; omega)
  clear h1 h2 h3 hv hK hA hB hC hD q1 q2 qK qA qB qC qD e1 e2 e3 e4 e5 hp hc hw
  go_enter Try.func64, Try.ntmps64
  go_wp2_with (first | (go_at_call 71; refine (specTermValid_is _ _ _ _ _ true _ (by first | exact H1.out | exact H2.out)).mono ?_; rintro e w' ⟨rfl, rfl⟩) | (go_at_call 94; refine (HV.out _).mono ?_; rintro e w' ⟨rfl, rfl⟩))
  generalize hW : (w.alloc (.cells #[.int .i64 a, .int .i64 b, .int .i64 c, .int .i64 d, .int .i64 n] 27)).alloc (.cells #[.int .i64 a', .int .i64 b', .int .i64 c', .int .i64 d', .int .i64 n'] 27) = W0
  have hx : C5 W0 w.heap.size a b c d n := by subst hW; exact (by refine ⟨?_, ?_, ?_, ?_, ?_, ?_⟩ <;> first | (simp [go_sem]; done) | (simp; omega))
  have hy : C5 W0 (w.heap.size + 1) a' b' c' d' n' := by subst hW; exact (by refine ⟨?_, ?_, ?_, ?_, ?_, ?_⟩ <;> first | (simp [go_sem]; done) | (simp; omega))
  have hw0 : Below w.heap.size w W0 := by subst hW; go_grown
  have hsz0 : w.heap.size + 1 + 1 = W0.heap.size := by subst hW; simp
  rw [hsz0]
  clear hW hsz0
  generalize hW : ((((((W0.alloc (.cells #[.int .i64 0, .int .i64 0, .int .i64 0, .int .i64 0, .int .i64 0] 27)).alloc (.cells #[.int .i64 a, .int .i64 b, .int .i64 c, .int .i64 d, .int .i64 n] 27)).alloc (.cells #[.int .i64 a, .int .i64 b, .int .i64 c, .int .i64 d, .int .i64 n] 27)).alloc (.cells #[.int .i64 a, .int .i64 b, .int .i64 c, .int .i64 d, .int .i64 n] 3)).alloc (.cells #[.int .i64 a', .int .i64 b', .int .i64 c', .int .i64 d', .int .i64 n'] 27)).alloc (.cells #[.int .i64 a', .int .i64 b', .int .i64 c', .int .i64 d', .int .i64 n'] 27)).alloc (.cells #[.int .i64 a', .int .i64 b', .int .i64 c', .int .i64 d', .int .i64 n'] 3) = W
  have hz : C5 W W0.heap.size 0 0 0 0 0 := by subst hW; exact (by refine ⟨?_, ?_, ?_, ?_, ?_, ?_⟩ <;> first | (simp [go_sem]; done) | (simp; omega))
  have fz0 : Hid (∀ o, W.frozen? ⟨W0.heap.size, o, none⟩ = false) := by intro o; subst hW; simp [go_sem]
  have hWW : Below W0.heap.size W0 W := by subst hW; go_grown
  have hlt : W0.heap.size < W.heap.size := by subst hW; simp only [World.size_alloc]; omega
  clear hW
  go_region_held3 (fun w' => Below W0.heap.size W0 w' ∧ w'.cell? ⟨w.heap.size, 0, none⟩ = some (.int .i64 a) ∧ w'.cell? ⟨w.heap.size, 1, none⟩ = some (.int .i64 b) ∧ w'.cell? ⟨w.heap.size, 2, none⟩ = some (.int .i64 c) ∧ w'.cell? ⟨w.heap.size, 3, none⟩ = some (.int .i64 d) ∧ w'.cell? ⟨w.heap.size, 4, none⟩ = some (.int .i64 n) ∧ w'.cell? ⟨w.heap.size + 1, 0, none⟩ = some (.int .i64 a') ∧ w'.cell? ⟨w.heap.size + 1, 1, none⟩ = some (.int .i64 b') ∧ w'.cell? ⟨w.heap.size + 1, 2, none⟩ = some (.int .i64 c') ∧ w'.cell? ⟨w.heap.size + 1, 3, none⟩ = some (.int .i64 d') ∧ w'.cell? ⟨w.heap.size + 1, 4, none⟩ = some (.int .i64 n')) (exact keep55 hx hy (by go_grown)) (first | (go_at_call 103; refine (HW.out _).mono ?_; rintro e w' ⟨rfl, hb⟩; have hbb := below_on (w := W) (by go_grown) hb; have hb0 := below_on (w := W0) hWW hbb; have hsy : W.heap.size ≤ w'.heap.size := hbb.size; have hsz : W0.heap.size < w'.heap.size := Nat.lt_of_lt_of_le hlt hbb.size) | (go_at_call 84; refine (HC.out _).mono ?_; rintro e w' ⟨rfl, hb⟩; have hbb := below_on (w := W) (by go_grown) hb; have hb0 := below_on (w := W0) hWW hbb; have hsy : W.heap.size ≤ w'.heap.size := hbb.size; have hsz : W0.heap.size < w'.heap.size := Nat.lt_of_lt_of_le hlt hbb.size) | (go_at_call 82; refine (HP.out _).mono ?_; rintro e w' ⟨rfl, hb⟩; have hbb := below_on (w := W) (by go_grown) hb; have hb0 := below_on (w := W0) hWW hbb; have hsy : W.heap.size ≤ w'.heap.size := hbb.size; have hsz : W0.heap.size < w'.heap.size := Nat.lt_of_lt_of_le hlt hbb.size) | (go_at_call 100; refine (l1Result_far _ _ _ _ _ _ H3.out).mono ?_; rintro e w' ⟨rfl, hb⟩; have hbb := below_on (w := W) (by go_grown) hb; have hb0 := below_on (w := W0) hWW hbb; have hsy : W.heap.size ≤ w'.heap.size := hbb.size; have hsz : W0.heap.size < w'.heap.size := Nat.lt_of_lt_of_le hlt hbb.size; obtain ⟨z0, z1, z2, z3, z4, z5⟩ := c5_on hz hbb; have fz := fz_on hz fz0 hbb))
  all_goals
    go_wp2
    refine bodyPost_ret (v := .tuple #[.agg #[.int .i64 0, .int .i64 0, .int .i64 0, .int .i64 0, .int .i64 0], .bool false]) (by simp [results, Try.results64, go_sem, z1, z2, z3, z4, z5]) rfl ⟨rfl, ?_⟩
    exact below_on hw0 (by go_grown)

set_option maxHeartbeats 400000 in
theorem specSubstTerm_bad (a b c d n v a' b' c' d' n' : Int) (w : World) (h : (tvB a b c d n && tvB a' b' c' d' n' && varB v) = false) :
    Calls Try.prog 64 #[.agg #[.int .i64 a, .int .i64 b, .int .i64 c, .int .i64 d, .int .i64 n], .int .i64 v, .agg #[.int .i64 a', .int .i64 b', .int .i64 c', .int .i64 d', .int .i64 n']] w fun e w' => e = .returned (.tuple #[.agg #[.int .i64 0, .int .i64 0, .int .i64 0, .int .i64 0, .int .i64 0], .bool false]) ∧ Below w.heap.size w w' := by
  by_cases h1 : tvB a b c d n = true
  · by_cases h2 : tvB a' b' c' d' n' = true
    · have h3 : varB v = false := by simpa [h1, h2] using h
      have H1 := Lib.hid h1
      have H2 := Lib.hid h2
      have HV := Lib.hid fun W => l1Var_is v false W h3
      clear h h1 h2 h3
      go_enter Try.func64, Try.ntmps64
      go_wp2_with (first | (go_at_call 71; refine (specTermValid_is _ _ _ _ _ true _ (by first | exact H1.out | exact H2.out)).mono ?_; rintro e w' ⟨rfl, rfl⟩) | (go_at_call 94; refine (HV.out _).mono ?_; rintro e w' ⟨rfl, rfl⟩))
      refine bodyPost_ret (v := .tuple #[.agg #[.int .i64 0, .int .i64 0, .int .i64 0, .int .i64 0, .int .i64 0], .bool false]) (by simp [results, Try.results64, go_sem]) rfl ⟨rfl, ?_⟩
      go_grown
    · have h3 : tvB a' b' c' d' n' = false := by simpa using h2
      have H1 := Lib.hid h1
      have H2 := Lib.hid h3
      clear h h1 h2 h3
      go_enter Try.func64, Try.ntmps64
      go_wp2_with fail
      refine (specTermValid_is _ _ _ _ _ true _ H1.out).mono ?_
      rintro e w' ⟨rfl, rfl⟩
      go_wp2_with fail
      refine (specTermValid_is _ _ _ _ _ false _ H2.out).mono ?_
      rintro e w' ⟨rfl, rfl⟩
      go_wp2
      refine bodyPost_ret (v := .tuple #[.agg #[.int .i64 0, .int .i64 0, .int .i64 0, .int .i64 0, .int .i64 0], .bool false]) (by simp [results, Try.results64, go_sem]) rfl ⟨rfl, ?_⟩
      go_grown
  · have h2 : tvB a b c d n = false := by simpa using h1
    have H2 := Lib.hid h2
    clear h h1 h2
    go_enter Try.func64, Try.ntmps64
    go_wp2_with (go_at_call 71; refine (specTermValid_is _ _ _ _ _ false _ H2.out).mono ?_; rintro e w' ⟨rfl, rfl⟩)
    refine bodyPost_ret (v := .tuple #[.agg #[.int .i64 0, .int .i64 0, .int .i64 0, .int .i64 0, .int .i64 0], .bool false]) (by simp [results, Try.results64, go_sem]) rfl ⟨rfl, ?_⟩
    go_grown

end Go.Proofs.Ythphlkfofbdncaa
