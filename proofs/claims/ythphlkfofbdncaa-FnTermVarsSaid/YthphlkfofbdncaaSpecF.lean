/- Contracts of the model's AddTerms. -/
import Derived.Test.YthphlkfofbdncaaSpecD
import Derived.Test.YthphlkfofbdncaaSpecE
import Derived.Test.YthphlkfofbdncaaHeld
import Derived.Test.YthphlkfofbdncaaSpecG
namespace Go.Proofs.Ythphlkfofbdncaa
open Go.RowKit

set_option maxHeartbeats 400000 in
theorem specAddTerms_ok (a b c d n a' b' c' d' n' : Int) (w : World) (h1 : tvB a b c d n = true) (h2 : tvB a' b' c' d' n' = true) (h3 : tvB (a + a') (b + b') (c + c') (d + d') (n + n') = true) :
    Calls Try.prog 56 #[.agg #[.int .i64 a, .int .i64 b, .int .i64 c, .int .i64 d, .int .i64 n], .agg #[.int .i64 a', .int .i64 b', .int .i64 c', .int .i64 d', .int .i64 n']] w fun e w' => e = .returned (.tuple #[.agg #[.int .i64 (a + a'), .int .i64 (b + b'), .int .i64 (c + c'), .int .i64 (d + d'), .int .i64 (n + n')], .bool true]) ∧ Below w.heap.size w w' := by
  have q1 := tv_bd h1
  have q2 := tv_bd h2
  have hp := fun W => l1Plus_any a b c d n 1 a' b' c' d' n' W (by omega) (by omega) (by omega) (by omega) (by omega) (by omega) (by omega) (by omega) (by omega) (by omega)
  simp only [Int.one_mul] at hp
  have HP := Lib.hid hp
  have H1 := Lib.hid h1
  have H2 := Lib.hid h2
  have H3 := Lib.hid h3
  clear h1 h2 h3 hp q1 q2
  go_enter Try.func56, Try.ntmps56
  go_wp2
  generalize hW : (w.alloc (.cells #[.int .i64 a, .int .i64 b, .int .i64 c, .int .i64 d, .int .i64 n] 27)).alloc (.cells #[.int .i64 a', .int .i64 b', .int .i64 c', .int .i64 d', .int .i64 n'] 27) = W0
  have hx : C5 W0 w.heap.size a b c d n := by subst hW; exact (by refine ⟨?_, ?_, ?_, ?_, ?_, ?_⟩ <;> first | (simp [go_sem]; done) | (simp; omega))
  have hy : C5 W0 (w.heap.size + 1) a' b' c' d' n' := by subst hW; exact (by refine ⟨?_, ?_, ?_, ?_, ?_, ?_⟩ <;> first | (simp [go_sem]; done) | (simp; omega))
  have hw0 : Below w.heap.size w W0 := by subst hW; go_grown
  have hsz0 : w.heap.size + 1 + 1 = W0.heap.size := by subst hW; simp
  rw [hsz0]
  clear hW hsz0
  generalize hW : W0.alloc (.cells #[.int .i64 0, .int .i64 0, .int .i64 0, .int .i64 0, .int .i64 0] 27) = W
  have hz : C5 W W0.heap.size 0 0 0 0 0 := by subst hW; exact (by refine ⟨?_, ?_, ?_, ?_, ?_, ?_⟩ <;> first | (simp [go_sem]; done) | (simp; omega))
  have fz0 : Hid (∀ o, W.frozen? ⟨W0.heap.size, o, none⟩ = false) := by intro o; subst hW; simp [go_sem]
  have hWW : Below W0.heap.size W0 W := by subst hW; go_grown
  have hlt : W0.heap.size < W.heap.size := by subst hW; simp
  clear hW
  go_region_held3 (fun w' => Below W0.heap.size W0 w' ∧ w'.cell? ⟨w.heap.size, 0, none⟩ = some (.int .i64 a) ∧ w'.cell? ⟨w.heap.size, 1, none⟩ = some (.int .i64 b) ∧ w'.cell? ⟨w.heap.size, 2, none⟩ = some (.int .i64 c) ∧ w'.cell? ⟨w.heap.size, 3, none⟩ = some (.int .i64 d) ∧ w'.cell? ⟨w.heap.size, 4, none⟩ = some (.int .i64 n) ∧ w'.cell? ⟨w.heap.size + 1, 0, none⟩ = some (.int .i64 a') ∧ w'.cell? ⟨w.heap.size + 1, 1, none⟩ = some (.int .i64 b') ∧ w'.cell? ⟨w.heap.size + 1, 2, none⟩ = some (.int .i64 c') ∧ w'.cell? ⟨w.heap.size + 1, 3, none⟩ = some (.int .i64 d') ∧ w'.cell? ⟨w.heap.size + 1, 4, none⟩ = some (.int .i64 n')) (exact keep55 hx hy (by go_grown)) (first | (go_at_call 82; refine (HP.out _).mono ?_; rintro e w' ⟨rfl, hb⟩; have hbb := below_on (w := W) (by go_grown) hb; have hb0 := below_on (w := W0) hWW hbb; have hsy : W.heap.size ≤ w'.heap.size := hbb.size; have hsz : W0.heap.size < w'.heap.size := Nat.lt_of_lt_of_le hlt hbb.size) | (go_at_call 71; refine (specTermValid_is _ _ _ _ _ true _ (by first | exact H1.out | exact H2.out)).mono ?_; rintro e w' ⟨rfl, rfl⟩) | (go_at_call 100; refine (l1Result_yes _ _ _ _ _ _ H3.out).mono ?_; rintro e w' ⟨rfl, hb⟩; have hbb := below_on (w := W) (by go_grown) hb; have hb0 := below_on (w := W0) hWW hbb; have hsy : W.heap.size ≤ w'.heap.size := hbb.size; have hsz : W0.heap.size < w'.heap.size := Nat.lt_of_lt_of_le hlt hbb.size; obtain ⟨z0, z1, z2, z3, z4, z5⟩ := c5_on hz hbb; have fz := fz_on hz fz0 hbb))
  all_goals
    go_wp2
    refine bodyPost_ret (v := .tuple #[.agg #[.int .i64 (a + a'), .int .i64 (b + b'), .int .i64 (c + c'), .int .i64 (d + d'), .int .i64 (n + n')], .bool true]) (by simp [results, Try.results56, go_sem, z1, z2, z3, z4, z5]) rfl ⟨rfl, ?_⟩
    exact below_on hw0 (by go_grown)

set_option maxHeartbeats 400000 in
theorem specAddTerms_far (a b c d n a' b' c' d' n' : Int) (w : World) (h1 : tvB a b c d n = true) (h2 : tvB a' b' c' d' n' = true) (h3 : tvB (a + a') (b + b') (c + c') (d + d') (n + n') = false) :
    Calls Try.prog 56 #[.agg #[.int .i64 a, .int .i64 b, .int .i64 c, .int .i64 d, .int .i64 n], .agg #[.int .i64 a', .int .i64 b', .int .i64 c', .int .i64 d', .int .i64 n']] w fun e w' => e = .returned (.tuple #[.agg #[.int .i64 0, .int .i64 0, .int .i64 0, .int .i64 0, .int .i64 0], .bool false]) ∧ Below w.heap.size w w' := by
  have q1 := tv_bd h1
  have q2 := tv_bd h2
  have hp := fun W => l1Plus_any a b c d n 1 a' b' c' d' n' W (by omega) (by omega) (by omega) (by omega) (by omega) (by omega) (by omega) (by omega) (by omega) (by omega)
  simp only [Int.one_mul] at hp
  have HP := Lib.hid hp
  have H1 := Lib.hid h1
  have H2 := Lib.hid h2
  have H3 := Lib.hid h3
  clear h1 h2 h3 hp q1 q2
  go_enter Try.func56, Try.ntmps56
  go_wp2
  generalize hW : (w.alloc (.cells #[.int .i64 a, .int .i64 b, .int .i64 c, .int .i64 d, .int .i64 n] 27)).alloc (.cells #[.int .i64 a', .int .i64 b', .int .i64 c', .int .i64 d', .int .i64 n'] 27) = W0
  have hx : C5 W0 w.heap.size a b c d n := by subst hW; exact (by refine ⟨?_, ?_, ?_, ?_, ?_, ?_⟩ <;> first | (simp [go_sem]; done) | (simp; omega))
  have hy : C5 W0 (w.heap.size + 1) a' b' c' d' n' := by subst hW; exact (by refine ⟨?_, ?_, ?_, ?_, ?_, ?_⟩ <;> first | (simp [go_sem]; done) | (simp; omega))
  have hw0 : Below w.heap.size w W0 := by subst hW; go_grown
  have hsz0 : w.heap.size + 1 + 1 = W0.heap.size := by subst hW; simp
  rw [hsz0]
  clear hW hsz0
  generalize hW : W0.alloc (.cells #[.int .i64 0, .int .i64 0, .int .i64 0, .int .i64 0, .int .i64 0] 27) = W
  have hz : C5 W W0.heap.size 0 0 0 0 0 := by subst hW; exact (by refine ⟨?_, ?_, ?_, ?_, ?_, ?_⟩ <;> first | (simp [go_sem]; done) | (simp; omega))
  have fz0 : Hid (∀ o, W.frozen? ⟨W0.heap.size, o, none⟩ = false) := by intro o; subst hW; simp [go_sem]
  have hWW : Below W0.heap.size W0 W := by subst hW; go_grown
  have hlt : W0.heap.size < W.heap.size := by subst hW; simp
  clear hW
  go_region_held3 (fun w' => Below W0.heap.size W0 w' ∧ w'.cell? ⟨w.heap.size, 0, none⟩ = some (.int .i64 a) ∧ w'.cell? ⟨w.heap.size, 1, none⟩ = some (.int .i64 b) ∧ w'.cell? ⟨w.heap.size, 2, none⟩ = some (.int .i64 c) ∧ w'.cell? ⟨w.heap.size, 3, none⟩ = some (.int .i64 d) ∧ w'.cell? ⟨w.heap.size, 4, none⟩ = some (.int .i64 n) ∧ w'.cell? ⟨w.heap.size + 1, 0, none⟩ = some (.int .i64 a') ∧ w'.cell? ⟨w.heap.size + 1, 1, none⟩ = some (.int .i64 b') ∧ w'.cell? ⟨w.heap.size + 1, 2, none⟩ = some (.int .i64 c') ∧ w'.cell? ⟨w.heap.size + 1, 3, none⟩ = some (.int .i64 d') ∧ w'.cell? ⟨w.heap.size + 1, 4, none⟩ = some (.int .i64 n')) (exact keep55 hx hy (by go_grown)) (first | (go_at_call 82; refine (HP.out _).mono ?_; rintro e w' ⟨rfl, hb⟩; have hbb := below_on (w := W) (by go_grown) hb; have hb0 := below_on (w := W0) hWW hbb; have hsy : W.heap.size ≤ w'.heap.size := hbb.size; have hsz : W0.heap.size < w'.heap.size := Nat.lt_of_lt_of_le hlt hbb.size) | (go_at_call 71; refine (specTermValid_is _ _ _ _ _ true _ (by first | exact H1.out | exact H2.out)).mono ?_; rintro e w' ⟨rfl, rfl⟩) | (go_at_call 100; refine (l1Result_far _ _ _ _ _ _ H3.out).mono ?_; rintro e w' ⟨rfl, hb⟩; have hbb := below_on (w := W) (by go_grown) hb; have hb0 := below_on (w := W0) hWW hbb; have hsy : W.heap.size ≤ w'.heap.size := hbb.size; have hsz : W0.heap.size < w'.heap.size := Nat.lt_of_lt_of_le hlt hbb.size; obtain ⟨z0, z1, z2, z3, z4, z5⟩ := c5_on hz hbb; have fz := fz_on hz fz0 hbb))
  all_goals
    go_wp2
    refine bodyPost_ret (v := .tuple #[.agg #[.int .i64 0, .int .i64 0, .int .i64 0, .int .i64 0, .int .i64 0], .bool false]) (by simp [results, Try.results56, go_sem, z1, z2, z3, z4, z5]) rfl ⟨rfl, ?_⟩
    exact below_on hw0 (by go_grown)

set_option maxHeartbeats 400000 in
theorem specAddTerms_bad (a b c d n a' b' c' d' n' : Int) (w : World) (h : (tvB a b c d n && tvB a' b' c' d' n') = false) :
    Calls Try.prog 56 #[.agg #[.int .i64 a, .int .i64 b, .int .i64 c, .int .i64 d, .int .i64 n], .agg #[.int .i64 a', .int .i64 b', .int .i64 c', .int .i64 d', .int .i64 n']] w fun e w' => e = .returned (.tuple #[.agg #[.int .i64 0, .int .i64 0, .int .i64 0, .int .i64 0, .int .i64 0], .bool false]) ∧ Below w.heap.size w w' := by
  have HP := Lib.hid fun W => l1Plus_raw a b c d n 1 a' b' c' d' n' W
  by_cases h1 : tvB a b c d n = true
  · have h2 : tvB a' b' c' d' n' = false := by simpa [h1] using h
    have H1 := Lib.hid h1
    have H2 := Lib.hid h2
    have HT : Hid (∀ (x0 x1 x2 x3 x4 : Int) (W : World), (x0 = a ∧ x1 = b ∧ x2 = c ∧ x3 = d ∧ x4 = n) → Calls Try.prog 71 #[.agg #[.int .i64 x0, .int .i64 x1, .int .i64 x2, .int .i64 x3, .int .i64 x4]] W fun e w' => e = .returned (.bool true) ∧
      ((W.alloc (.cells #[.int .i64 x0, .int .i64 x1, .int .i64 x2, .int .i64 x3, .int .i64 x4] 27)).alloc (.cells #[.int .i64 x0, .int .i64 x1, .int .i64 x2, .int .i64 x3, .int .i64 x4] 27)).alloc (.cells #[.int .i64 x0, .int .i64 x1, .int .i64 x2, .int .i64 x3, .int .i64 x4] 3) = w') := by
      rintro x0 x1 x2 x3 x4 W ⟨rfl, rfl, rfl, rfl, rfl⟩
      exact specTermValid_is _ _ _ _ _ true _ H1.out
    clear h h1 h2
    go_enter Try.func56, Try.ntmps56
    go_wp2
    generalize hW : (w.alloc (.cells #[.int .i64 a, .int .i64 b, .int .i64 c, .int .i64 d, .int .i64 n] 27)).alloc (.cells #[.int .i64 a', .int .i64 b', .int .i64 c', .int .i64 d', .int .i64 n'] 27) = W0
    have hx : C5 W0 w.heap.size a b c d n := by subst hW; exact (by refine ⟨?_, ?_, ?_, ?_, ?_, ?_⟩ <;> first | (simp [go_sem]; done) | (simp; omega))
    have hy : C5 W0 (w.heap.size + 1) a' b' c' d' n' := by subst hW; exact (by refine ⟨?_, ?_, ?_, ?_, ?_, ?_⟩ <;> first | (simp [go_sem]; done) | (simp; omega))
    have hw0 : Below w.heap.size w W0 := by subst hW; go_grown
    have hsz0 : w.heap.size + 1 + 1 = W0.heap.size := by subst hW; simp
    rw [hsz0]
    clear hW hsz0
    generalize hW : W0.alloc (.cells #[.int .i64 0, .int .i64 0, .int .i64 0, .int .i64 0, .int .i64 0] 27) = W
    have hz : C5 W W0.heap.size 0 0 0 0 0 := by subst hW; exact (by refine ⟨?_, ?_, ?_, ?_, ?_, ?_⟩ <;> first | (simp [go_sem]; done) | (simp; omega))
    have fz0 : Hid (∀ o, W.frozen? ⟨W0.heap.size, o, none⟩ = false) := by intro o; subst hW; simp [go_sem]
    have hWW : Below W0.heap.size W0 W := by subst hW; go_grown
    have hlt : W0.heap.size < W.heap.size := by subst hW; simp
    clear hW
    go_region_held3 (fun w' => Below W0.heap.size W0 w' ∧ w'.cell? ⟨w.heap.size, 0, none⟩ = some (.int .i64 a) ∧ w'.cell? ⟨w.heap.size, 1, none⟩ = some (.int .i64 b) ∧ w'.cell? ⟨w.heap.size, 2, none⟩ = some (.int .i64 c) ∧ w'.cell? ⟨w.heap.size, 3, none⟩ = some (.int .i64 d) ∧ w'.cell? ⟨w.heap.size, 4, none⟩ = some (.int .i64 n) ∧ w'.cell? ⟨w.heap.size + 1, 0, none⟩ = some (.int .i64 a') ∧ w'.cell? ⟨w.heap.size + 1, 1, none⟩ = some (.int .i64 b') ∧ w'.cell? ⟨w.heap.size + 1, 2, none⟩ = some (.int .i64 c') ∧ w'.cell? ⟨w.heap.size + 1, 3, none⟩ = some (.int .i64 d') ∧ w'.cell? ⟨w.heap.size + 1, 4, none⟩ = some (.int .i64 n')) (exact keep55 hx hy (by go_grown)) (first | (go_at_call 82; refine (HP.out _).mono ?_; rintro e w' ⟨rfl, hb⟩; have hbb := below_on (w := W) (by go_grown) hb; have hb0 := below_on (w := W0) hWW hbb; have hsy : W.heap.size ≤ w'.heap.size := hbb.size; have hsz : W0.heap.size < w'.heap.size := Nat.lt_of_lt_of_le hlt hbb.size) | (go_at_call 71; (first | (refine (HT.out _ _ _ _ _ _ ⟨by with_reducible rfl, by with_reducible rfl, by with_reducible rfl, by with_reducible rfl, by with_reducible rfl⟩).mono ?_) | (refine (specTermValid_is _ _ _ _ _ false _ H2.out).mono ?_)); rintro e w' ⟨rfl, rfl⟩) | (go_at_call 100; refine (l1Result_no _ _ _ _ _ _).mono ?_; rintro e w' ⟨rfl, hb⟩; have hbb := below_on (w := W) (by go_grown) hb; have hb0 := below_on (w := W0) hWW hbb; have hsy : W.heap.size ≤ w'.heap.size := hbb.size; have hsz : W0.heap.size < w'.heap.size := Nat.lt_of_lt_of_le hlt hbb.size; obtain ⟨z0, z1, z2, z3, z4, z5⟩ := c5_on hz hbb; have fz := fz_on hz fz0 hbb))
    all_goals
      go_wp2
      refine bodyPost_ret (v := .tuple #[.agg #[.int .i64 0, .int .i64 0, .int .i64 0, .int .i64 0, .int .i64 0], .bool false]) (by simp [results, Try.results56, go_sem, z1, z2, z3, z4, z5]) rfl ⟨rfl, ?_⟩
      exact below_on hw0 (by go_grown)
  · exact specAddTerms_none a b c d n a' b' c' d' n' w (by simpa using h1)

end Go.Proofs.Ythphlkfofbdncaa
