/- Contracts of SubstTerm of the program. -/
import Derived.Test.YthphlkfofbdncaaImplB
import Derived.Test.YthphlkfofbdncaaHeld
namespace Go.Proofs.Ythphlkfofbdncaa
open Go.RowKit

theorem sel_bd {a b c d n v : Int} (h : tvB a b c d n = true) : -100 ≤ sel a b c d v 0 ∧ sel a b c d v 0 ≤ 100 := by
  have q := tv_bd h
  unfold sel
  split <;> (try split) <;> (try split) <;> (try split) <;> omega

theorem drop_bd {v i x M : Int} (h0 : -M ≤ x) (h1 : x ≤ M) : -M ≤ (if v = i then 0 else x) ∧ (if v = i then 0 else x) ≤ M := by
  split <;> omega

set_option maxHeartbeats 1000000 in
theorem SubstTerm_ok (a b c d n v a' b' c' d' n' K A B C D : Int) (w : World) (h1 : tvB a b c d n = true) (h2 : tvB a' b' c' d' n' = true) (hv : 0 ≤ v ∧ v < 4)
    (hK : sel a b c d v 0 = K) (hA : (if v = 0 then 0 else a) = A) (hB : (if v = 1 then 0 else b) = B) (hC : (if v = 2 then 0 else c) = C) (hD : (if v = 3 then 0 else d) = D)
    (h3 : tvB (A + a' * K) (B + b' * K) (C + c' * K) (D + d' * K) (n + n' * K) = true) :
    Calls Try.prog 63 #[.agg #[.int .i64 a, .int .i64 b, .int .i64 c, .int .i64 d, .int .i64 n], .int .i64 v, .agg #[.int .i64 a', .int .i64 b', .int .i64 c', .int .i64 d', .int .i64 n']] w fun e w' => e = .returned (.tuple #[.agg #[.int .i64 (A + a' * K), .int .i64 (B + b' * K), .int .i64 (C + c' * K), .int .i64 (D + d' * K), .int .i64 (n + n' * K)], .bool true]) ∧ Below w.heap.size w w' := by
  have q1 := tv_bd h1
  have q2 := tv_bd h2
  have qK := sel_bd (v := v) h1
  rw [hK] at qK
  have qA := drop_bd (v := v) (i := 0) q1.1.1 q1.1.2
  have qB := drop_bd (v := v) (i := 1) q1.2.1.1 q1.2.1.2
  have qC := drop_bd (v := v) (i := 2) q1.2.2.1.1 q1.2.2.1.2
  have qD := drop_bd (v := v) (i := 3) q1.2.2.2.1.1 q1.2.2.2.1.2
  rw [hA] at qA
  rw [hB] at qB
  rw [hC] at qC
  rw [hD] at qD
  have e1 := mul_bd2 q2.1.1 q2.1.2 qK.1 qK.2 (by omega)
  have e2 := mul_bd2 q2.2.1.1 q2.2.1.2 qK.1 qK.2 (by omega)
  have e3 := mul_bd2 q2.2.2.1.1 q2.2.2.1.2 qK.1 qK.2 (by omega)
  have e4 := mul_bd2 q2.2.2.2.1.1 q2.2.2.2.1.2 qK.1 qK.2 (by omega)
  have e5 := mul_bd2 q2.2.2.2.2.1 q2.2.2.2.2.2 qK.1 qK.2 (by omega)
  have H1 := Lib.hid h1
  have H2 := Lib.hid h2
  have H3 := Lib.hid h3
  have HC := Lib.hid fun W => CoefOf_in a b c d n v W hv.1 hv.2
  rw [hK] at HC
  have HV := Lib.hid fun W => isVar_yes v W hv.1 hv.2
  have HW : Hid (∀ bl W, C5 W bl a b c d n → Calls Try.prog 102 #[.slice (some ⟨bl, 0, none⟩) 5 5, .int .i64 v] W fun e w' => e = .returned (.slice (some ⟨W.heap.size, 0, none⟩) 5 5) ∧ W.alloc (.cells #[.int .i64 A, .int .i64 B, .int .i64 C, .int .i64 D, .int .i64 n] 3) = w') := by
    intro bl W hl
    have := without_of a b c d n v bl W hl hv
    rw [hA, hB, hC, hD] at this
    exact this
  have HM : Hid (∀ bl W, C5 W bl a' b' c' d' n' → Calls Try.prog 77 #[.slice (some ⟨bl, 0, none⟩) 5 5, .int .i64 K] W fun e w' => e = .returned (.slice (some ⟨W.heap.size, 0, none⟩) 5 5) ∧ W.alloc (.cells #[.int .i64 (a' * K), .int .i64 (b' * K), .int .i64 (c' * K), .int .i64 (d' * K), .int .i64 (n' * K)] 3) = w') :=
    fun bl W hl => times_of a' b' c' d' n' K bl W hl (by omega)
  have HP : Hid (∀ bl bm W, C5 W bl A B C D n → C5 W bm (a' * K) (b' * K) (c' * K) (d' * K) (n' * K) → Calls Try.prog 76 #[.slice (some ⟨bl, 0, none⟩) 5 5, .slice (some ⟨bm, 0, none⟩) 5 5] W fun e w' => e = .returned (.slice (some ⟨W.heap.size, 0, none⟩) 5 5) ∧ W.alloc (.cells #[.int .i64 (A + a' * K), .int .i64 (B + b' * K), .int .i64 (C + c' * K), .int .i64 (D + d' * K), .int .i64 (n + n' * K)] 3) = w') :=
    fun bl bm W hl hm => plus_of A B C D n (a' * K) (b' * K) (c' * K) (d' * K) (n' * K) bl bm W hl hm (by omega)
  clear h1 h2 h3 hv hK hA hB hC hD q1 q2 qK qA qB qC qD e1 e2 e3 e4 e5
  go_enter Try.func63, Try.ntmps63
  go_wp2_with (first | (go_at_call 51; refine (TermValid_is _ _ _ _ _ true _ (by first | exact H1.out | exact H2.out)).mono ?_; rintro e w' ⟨rfl, rfl⟩) | (go_at_call 91; refine (HV.out _).mono ?_; rintro e w' ⟨rfl, rfl⟩))
  generalize hW : (w.alloc (.cells #[.int .i64 a, .int .i64 b, .int .i64 c, .int .i64 d, .int .i64 n] 27)).alloc (.cells #[.int .i64 a', .int .i64 b', .int .i64 c', .int .i64 d', .int .i64 n'] 27) = W0
  have hx : C5 W0 w.heap.size a b c d n := by subst hW; exact (by refine ⟨?_, ?_, ?_, ?_, ?_, ?_⟩ <;> first | (simp [go_sem]; done) | (simp; omega))
  have hy : C5 W0 (w.heap.size + 1) a' b' c' d' n' := by subst hW; exact (by refine ⟨?_, ?_, ?_, ?_, ?_, ?_⟩ <;> first | (simp [go_sem]; done) | (simp; omega))
  have hw0 : Below w.heap.size w W0 := by subst hW; go_grown
  have hsz0 : w.heap.size + 1 + 1 = W0.heap.size := by subst hW; simp
  rw [hsz0]
  clear hW hsz0
  obtain ⟨x0, x1, x2, x3, x4, x5⟩ := id hx
  go_region_held3 (fun w' => Below W0.heap.size W0 w' ∧ w'.cell? ⟨w.heap.size, 0, none⟩ = some (.int .i64 a) ∧ w'.cell? ⟨w.heap.size, 1, none⟩ = some (.int .i64 b) ∧ w'.cell? ⟨w.heap.size, 2, none⟩ = some (.int .i64 c) ∧ w'.cell? ⟨w.heap.size, 3, none⟩ = some (.int .i64 d) ∧ w'.cell? ⟨w.heap.size, 4, none⟩ = some (.int .i64 n) ∧ w'.cell? ⟨w.heap.size + 1, 0, none⟩ = some (.int .i64 a') ∧ w'.cell? ⟨w.heap.size + 1, 1, none⟩ = some (.int .i64 b') ∧ w'.cell? ⟨w.heap.size + 1, 2, none⟩ = some (.int .i64 c') ∧ w'.cell? ⟨w.heap.size + 1, 3, none⟩ = some (.int .i64 d') ∧ w'.cell? ⟨w.heap.size + 1, 4, none⟩ = some (.int .i64 n')) (exact keep55 hx hy (by go_grown)) (first | (go_at_call 75; refine (multiples_any _ _ _ _ _ _).mono ?_; rintro e w' ⟨rfl, rfl⟩) | (go_at_call 52; refine (HC.out _).mono ?_; rintro e w' ⟨rfl, rfl⟩) | (go_at_call 77; refine (HM.out _ _ (by refine ⟨?_, ?_, ?_, ?_, ?_, ?_⟩ <;> first | (simp [go_sem]; done) | (simp; omega))).mono ?_; rintro e w' ⟨rfl, rfl⟩))
  go_wp2_with (first | (go_at_call 75; refine (multiples_any _ _ _ _ _ _).mono ?_; rintro e w' ⟨rfl, rfl⟩) | (go_at_call 102; refine (HW.out _ _ (by refine ⟨?_, ?_, ?_, ?_, ?_, ?_⟩ <;> first | (simp [go_sem]; done) | (simp; omega))).mono ?_; rintro e w' ⟨rfl, rfl⟩) | (go_at_call 76; refine (HP.out _ _ _ (by refine ⟨?_, ?_, ?_, ?_, ?_, ?_⟩ <;> first | (simp [go_sem]; done) | (simp; omega)) (by refine ⟨?_, ?_, ?_, ?_, ?_, ?_⟩ <;> first | (simp [go_sem]; done) | (simp; omega))).mono ?_; rintro e w' ⟨rfl, rfl⟩))
  refine (term_ok _ _ _ _ _ _ _ (by refine ⟨?_, ?_, ?_, ?_, ?_, ?_⟩ <;> first | (simp [go_sem]; done) | (simp; omega)) H3.out).mono ?_
  rintro e w' ⟨rfl, hb⟩
  obtain ⟨hc, hf⟩ := bcell hb
  obtain ⟨z0, z1, z2, z3, z4, z5⟩ := c5_on (x := W0.heap.size) (a := 0) (b := 0) (c := 0) (d := 0) (n := 0) (by refine ⟨?_, ?_, ?_, ?_, ?_, ?_⟩ <;> first | (simp [go_sem]; done) | (simp; omega)) hb
  have hzz := hb.size
  simp at hzz
  have hbb := below_step (B := W0.heap.size) (w := W0) (by go_grown) hb (by simp; omega)
  go_wp2
  refine bodyPost_ret (v := .tuple #[.agg #[.int .i64 (A + a' * K), .int .i64 (B + b' * K), .int .i64 (C + c' * K), .int .i64 (D + d' * K), .int .i64 (n + n' * K)], .bool true]) (by simp [results, Try.results63, go_sem, z1, z2, z3, z4, z5]) rfl ⟨rfl, ?_⟩
  exact below_on hw0 (by go_grown)

set_option maxHeartbeats 1000000 in
theorem SubstTerm_far (a b c d n v a' b' c' d' n' K A B C D : Int) (w : World) (h1 : tvB a b c d n = true) (h2 : tvB a' b' c' d' n' = true) (hv : 0 ≤ v ∧ v < 4)
    (hK : sel a b c d v 0 = K) (hA : (if v = 0 then 0 else a) = A) (hB : (if v = 1 then 0 else b) = B) (hC : (if v = 2 then 0 else c) = C) (hD : (if v = 3 then 0 else d) = D)
    (h3 : tvB (A + a' * K) (B + b' * K) (C + c' * K) (D + d' * K) (n + n' * K) = false) :
    Calls Try.prog 63 #[.agg #[.int .i64 a, .int .i64 b, .int .i64 c, .int .i64 d, .int .i64 n], .int .i64 v, .agg #[.int .i64 a', .int .i64 b', .int .i64 c', .int .i64 d', .int .i64 n']] w fun e w' => e = .returned (.tuple #[.agg #[.int .i64 0, .int .i64 0, .int .i64 0, .int .i64 0, .int .i64 0], .bool false]) ∧ Below w.heap.size w w' := by
  have q1 := tv_bd h1
  have q2 := tv_bd h2
  have qK := sel_bd (v := v) h1
  rw [hK] at qK
  have qA := drop_bd (v := v) (i := 0) q1.1.1 q1.1.2
  have qB := drop_bd (v := v) (i := 1) q1.2.1.1 q1.2.1.2
  have qC := drop_bd (v := v) (i := 2) q1.2.2.1.1 q1.2.2.1.2
  have qD := drop_bd (v := v) (i := 3) q1.2.2.2.1.1 q1.2.2.2.1.2
  rw [hA] at qA
  rw [hB] at qB
  rw [hC] at qC
  rw [hD] at qD
  have e1 := mul_bd2 q2.1.1 q2.1.2 qK.1 qK.2 (by omega)
  have e2 := mul_bd2 q2.2.1.1 q2.2.1.2 qK.1 qK.2 (by omega)
  have e3 := mul_bd2 q2.2.2.1.1 q2.2.2.1.2 qK.1 qK.2 (by omega)
  have e4 := mul_bd2 q2.2.2.2.1.1 q2.2.2.2.1.2 qK.1 qK.2 (by omega)
  have e5 := mul_bd2 q2.2.2.2.2.1 q2.2.2.2.2.2 qK.1 qK.2 (by omega)
  have H1 := Lib.hid h1
  have H2 := Lib.hid h2
  have H3 := Lib.hid h3
  have HC := Lib.hid fun W => CoefOf_in a b c d n v W hv.1 hv.2
  rw [hK] at HC
  have HV := Lib.hid fun W => isVar_yes v W hv.1 hv.2
  have HW : Hid (∀ bl W, C5 W bl a b c d n → Calls Try.prog 102 #[.slice (some ⟨bl, 0, none⟩) 5 5, .int .i64 v] W fun e w' => e = .returned (.slice (some ⟨W.heap.size, 0, none⟩) 5 5) ∧ W.alloc (.cells #[.int .i64 A, .int .i64 B, .int .i64 C, .int .i64 D, .int .i64 n] 3) = w') := by
    intro bl W hl
    have := without_of a b c d n v bl W hl hv
    rw [hA, hB, hC, hD] at this
    exact this
  have HM : Hid (∀ bl W, C5 W bl a' b' c' d' n' → Calls Try.prog 77 #[.slice (some ⟨bl, 0, none⟩) 5 5, .int .i64 K] W fun e w' => e = .returned (.slice (some ⟨W.heap.size, 0, none⟩) 5 5) ∧ W.alloc (.cells #[.int .i64 (a' * K), .int .i64 (b' * K), .int .i64 (c' * K), .int .i64 (d' * K), .int .i64 (n' * K)] 3) = w') :=
    fun bl W hl => times_of a' b' c' d' n' K bl W hl (by omega)
  have HP : Hid (∀ bl bm W, C5 W bl A B C D n → C5 W bm (a' * K) (b' * K) (c' * K) (d' * K) (n' * K) → Calls Try.prog 76 #[.slice (some ⟨bl, 0, none⟩) 5 5, .slice (some ⟨bm, 0, none⟩) 5 5] W fun e w' => e = .returned (.slice (some ⟨W.heap.size, 0, none⟩) 5 5) ∧ W.alloc (.cells #[.int .i64 (A + a' * K), .int .i64 (B + b' * K), .int .i64 (C + c' * K), .int .i64 (D + d' * K), .int .i64 (n + n' * K)] 3) = w') :=
    fun bl bm W hl hm => plus_of A B C D n (a' * K) (b' * K) (c' * K) (d' * K) (n' * K) bl bm W hl hm (by omega)
  clear h1 h2 h3 hv hK hA hB hC hD q1 q2 qK qA qB qC qD e1 e2 e3 e4 e5
  go_enter Try.func63, Try.ntmps63
  go_wp2_with (first | (go_at_call 51; refine (TermValid_is _ _ _ _ _ true _ (by first | exact H1.out | exact H2.out)).mono ?_; rintro e w' ⟨rfl, rfl⟩) | (go_at_call 91; refine (HV.out _).mono ?_; rintro e w' ⟨rfl, rfl⟩))
  generalize hW : (w.alloc (.cells #[.int .i64 a, .int .i64 b, .int .i64 c, .int .i64 d, .int .i64 n] 27)).alloc (.cells #[.int .i64 a', .int .i64 b', .int .i64 c', .int .i64 d', .int .i64 n'] 27) = W0
  have hx : C5 W0 w.heap.size a b c d n := by subst hW; exact (by refine ⟨?_, ?_, ?_, ?_, ?_, ?_⟩ <;> first | (simp [go_sem]; done) | (simp; omega))
  have hy : C5 W0 (w.heap.size + 1) a' b' c' d' n' := by subst hW; exact (by refine ⟨?_, ?_, ?_, ?_, ?_, ?_⟩ <;> first | (simp [go_sem]; done) | (simp; omega))
  have hw0 : Below w.heap.size w W0 := by subst hW; go_grown
  have hsz0 : w.heap.size + 1 + 1 = W0.heap.size := by subst hW; simp
  rw [hsz0]
  clear hW hsz0
  obtain ⟨x0, x1, x2, x3, x4, x5⟩ := id hx
  go_region_held3 (fun w' => Below W0.heap.size W0 w' ∧ w'.cell? ⟨w.heap.size, 0, none⟩ = some (.int .i64 a) ∧ w'.cell? ⟨w.heap.size, 1, none⟩ = some (.int .i64 b) ∧ w'.cell? ⟨w.heap.size, 2, none⟩ = some (.int .i64 c) ∧ w'.cell? ⟨w.heap.size, 3, none⟩ = some (.int .i64 d) ∧ w'.cell? ⟨w.heap.size, 4, none⟩ = some (.int .i64 n) ∧ w'.cell? ⟨w.heap.size + 1, 0, none⟩ = some (.int .i64 a') ∧ w'.cell? ⟨w.heap.size + 1, 1, none⟩ = some (.int .i64 b') ∧ w'.cell? ⟨w.heap.size + 1, 2, none⟩ = some (.int .i64 c') ∧ w'.cell? ⟨w.heap.size + 1, 3, none⟩ = some (.int .i64 d') ∧ w'.cell? ⟨w.heap.size + 1, 4, none⟩ = some (.int .i64 n')) (exact keep55 hx hy (by go_grown)) (first | (go_at_call 75; refine (multiples_any _ _ _ _ _ _).mono ?_; rintro e w' ⟨rfl, rfl⟩) | (go_at_call 52; refine (HC.out _).mono ?_; rintro e w' ⟨rfl, rfl⟩) | (go_at_call 77; refine (HM.out _ _ (by refine ⟨?_, ?_, ?_, ?_, ?_, ?_⟩ <;> first | (simp [go_sem]; done) | (simp; omega))).mono ?_; rintro e w' ⟨rfl, rfl⟩))
  go_wp2_with (first | (go_at_call 75; refine (multiples_any _ _ _ _ _ _).mono ?_; rintro e w' ⟨rfl, rfl⟩) | (go_at_call 102; refine (HW.out _ _ (by refine ⟨?_, ?_, ?_, ?_, ?_, ?_⟩ <;> first | (simp [go_sem]; done) | (simp; omega))).mono ?_; rintro e w' ⟨rfl, rfl⟩) | (go_at_call 76; refine (HP.out _ _ _ (by refine ⟨?_, ?_, ?_, ?_, ?_, ?_⟩ <;> first | (simp [go_sem]; done) | (simp; omega)) (by refine ⟨?_, ?_, ?_, ?_, ?_, ?_⟩ <;> first | (simp [go_sem]; done) | (simp; omega))).mono ?_; rintro e w' ⟨rfl, rfl⟩))
  refine (term_bad _ _ _ _ _ _ _ (by refine ⟨?_, ?_, ?_, ?_, ?_, ?_⟩ <;> first | (simp [go_sem]; done) | (simp; omega)) H3.out).mono ?_
  rintro e w' ⟨rfl, hb⟩
  obtain ⟨hc, hf⟩ := bcell hb
  obtain ⟨z0, z1, z2, z3, z4, z5⟩ := c5_on (x := W0.heap.size) (a := 0) (b := 0) (c := 0) (d := 0) (n := 0) (by refine ⟨?_, ?_, ?_, ?_, ?_, ?_⟩ <;> first | (simp [go_sem]; done) | (simp; omega)) hb
  have hzz := hb.size
  simp at hzz
  have hbb := below_step (B := W0.heap.size) (w := W0) (by go_grown) hb (by simp; omega)
  go_wp2
  refine bodyPost_ret (v := .tuple #[.agg #[.int .i64 0, .int .i64 0, .int .i64 0, .int .i64 0, .int .i64 0], .bool false]) (by simp [results, Try.results63, go_sem, z1, z2, z3, z4, z5]) rfl ⟨rfl, ?_⟩
  exact below_on hw0 (by go_grown)

set_option maxHeartbeats 400000 in
theorem SubstTerm_bad (a b c d n v a' b' c' d' n' : Int) (w : World) (h : (tvB a b c d n && tvB a' b' c' d' n' && varB v) = false) :
    Calls Try.prog 63 #[.agg #[.int .i64 a, .int .i64 b, .int .i64 c, .int .i64 d, .int .i64 n], .int .i64 v, .agg #[.int .i64 a', .int .i64 b', .int .i64 c', .int .i64 d', .int .i64 n']] w fun e w' => e = .returned (.tuple #[.agg #[.int .i64 0, .int .i64 0, .int .i64 0, .int .i64 0, .int .i64 0], .bool false]) ∧ Below w.heap.size w w' := by
  by_cases h1 : tvB a b c d n = true
  · by_cases h2 : tvB a' b' c' d' n' = true
    · have h3 : varB v = false := by simpa [h1, h2] using h
      have H1 := Lib.hid h1
      have H2 := Lib.hid h2
      have HV := Lib.hid fun W => isVar_no v W (by simp [varB] at h3; omega)
      clear h h1 h2 h3
      go_enter Try.func63, Try.ntmps63
      go_wp2_with (first | (go_at_call 51; refine (TermValid_is _ _ _ _ _ true _ (by first | exact H1.out | exact H2.out)).mono ?_; rintro e w' ⟨rfl, rfl⟩) | (go_at_call 91; refine (HV.out _).mono ?_; rintro e w' ⟨rfl, rfl⟩))
      refine bodyPost_ret (v := .tuple #[.agg #[.int .i64 0, .int .i64 0, .int .i64 0, .int .i64 0, .int .i64 0], .bool false]) (by simp [results, Try.results63, go_sem]) rfl ⟨rfl, ?_⟩
      go_grown
    · have h3 : tvB a' b' c' d' n' = false := by simpa using h2
      have H1 := Lib.hid h1
      have H2 := Lib.hid h3
      clear h h1 h2 h3
      go_enter Try.func63, Try.ntmps63
      go_wp2_with fail
      refine (TermValid_is _ _ _ _ _ true _ H1.out).mono ?_
      rintro e w' ⟨rfl, rfl⟩
      go_wp2_with fail
      refine (TermValid_is _ _ _ _ _ false _ H2.out).mono ?_
      rintro e w' ⟨rfl, rfl⟩
      go_wp2
      refine bodyPost_ret (v := .tuple #[.agg #[.int .i64 0, .int .i64 0, .int .i64 0, .int .i64 0, .int .i64 0], .bool false]) (by simp [results, Try.results63, go_sem]) rfl ⟨rfl, ?_⟩
      go_grown
  · have h2 : tvB a b c d n = false := by simpa using h1
    have H2 := Lib.hid h2
    clear h h1 h2
    go_enter Try.func63, Try.ntmps63
    go_wp2_with (go_at_call 51; refine (TermValid_is _ _ _ _ _ false _ H2.out).mono ?_; rintro e w' ⟨rfl, rfl⟩)
    refine bodyPost_ret (v := .tuple #[.agg #[.int .i64 0, .int .i64 0, .int .i64 0, .int .i64 0, .int .i64 0], .bool false]) (by simp [results, Try.results63, go_sem]) rfl ⟨rfl, ?_⟩
    go_grown

end Go.Proofs.Ythphlkfofbdncaa
