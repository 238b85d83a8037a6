/- The walk of the law that says that SubstTerm answers as its model does. -/
import Derived.Test.YtcgolbkpfncgpaaLawB
import Derived.Test.YtcgolbkpfncgpaaIm
import Derived.Deep.DeepCutAuto
namespace Go.Proofs.Ytcgolbkpfncgpaa
open Go.RowKit

set_option maxHeartbeats 1000000 in
theorem exactSubstTerm_some (a b c d n v a' b' c' d' n' r0 r1 r2 r3 r4 : Int) (ok : Bool) (w : World)
    (HS : Hid (∀ W, Calls Try.prog 13 #[.agg #[.int .i64 a, .int .i64 b, .int .i64 c, .int .i64 d, .int .i64 n], .int .i64 v, .agg #[.int .i64 a', .int .i64 b', .int .i64 c', .int .i64 d', .int .i64 n']] W fun e w' => e = .returned (.tuple #[.agg #[.int .i64 r0, .int .i64 r1, .int .i64 r2, .int .i64 r3, .int .i64 r4], .bool ok]) ∧ Below W.heap.size W w'))
    (HI : Hid (∀ W, Calls Try.prog 12 #[.agg #[.int .i64 a, .int .i64 b, .int .i64 c, .int .i64 d, .int .i64 n], .int .i64 v, .agg #[.int .i64 a', .int .i64 b', .int .i64 c', .int .i64 d', .int .i64 n']] W fun e w' => e = .returned (.tuple #[.agg #[.int .i64 r0, .int .i64 r1, .int .i64 r2, .int .i64 r3, .int .i64 r4], .bool ok]) ∧ Below W.heap.size W w')) :
    Calls Try.prog 4 #[.agg #[.int .i64 a, .int .i64 b, .int .i64 c, .int .i64 d, .int .i64 n], .int .i64 v, .agg #[.int .i64 a', .int .i64 b', .int .i64 c', .int .i64 d', .int .i64 n']] w fun e w' => e = .returned (.bool true) ∧ Below w.heap.size w w' := by
  go_enter Try.func4, Try.ntmps4
  go_wp2
  generalize hW : (w.alloc (.cells #[.int .i64 a, .int .i64 b, .int .i64 c, .int .i64 d, .int .i64 n] 37)).alloc (.cells #[.int .i64 a', .int .i64 b', .int .i64 c', .int .i64 d', .int .i64 n'] 37) = W0
  have hx : C5 W0 w.heap.size a b c d n := by subst hW; exact (by refine ⟨?_, ?_, ?_, ?_, ?_, ?_⟩ <;> first | (simp [go_sem]; done) | (simp; omega))
  have hy : C5 W0 (w.heap.size + 1) a' b' c' d' n' := by subst hW; exact (by refine ⟨?_, ?_, ?_, ?_, ?_, ?_⟩ <;> first | (simp [go_sem]; done) | (simp; omega))
  have hw0 : Below w.heap.size w W0 := by subst hW; go_grown
  clear hW
  go_upto_region 1 with fail
  go_cut [7, 8] (fun p q W => ResAt W0 r0 r1 r2 r3 r4 ok p q W)
  case first =>
    go_region_held3 (fun w' => Below W0.heap.size W0 w' ∧ w'.cell? ⟨w.heap.size, 0, none⟩ = some (.int .i64 a) ∧ w'.cell? ⟨w.heap.size, 1, none⟩ = some (.int .i64 b) ∧ w'.cell? ⟨w.heap.size, 2, none⟩ = some (.int .i64 c) ∧ w'.cell? ⟨w.heap.size, 3, none⟩ = some (.int .i64 d) ∧ w'.cell? ⟨w.heap.size, 4, none⟩ = some (.int .i64 n) ∧ w'.cell? ⟨w.heap.size + 1, 0, none⟩ = some (.int .i64 a') ∧ w'.cell? ⟨w.heap.size + 1, 1, none⟩ = some (.int .i64 b') ∧ w'.cell? ⟨w.heap.size + 1, 2, none⟩ = some (.int .i64 c') ∧ w'.cell? ⟨w.heap.size + 1, 3, none⟩ = some (.int .i64 d') ∧ w'.cell? ⟨w.heap.size + 1, 4, none⟩ = some (.int .i64 n')) (exact keep55 hx hy (by go_grown)) (first | (go_at_call 18; refine (toTerm_to _ _ _ _ _ _).mono ?_; rintro e w' ⟨rfl, rfl⟩) | (go_at_call 13; refine (HS.out _).mono ?_; rintro e w1 ⟨rfl, hb1⟩; have hbb1 := below_on (w := W0) (by go_grown) hb1; have hs1 : W0.heap.size ≤ w1.heap.size := hbb1.size; obtain ⟨hc, hf⟩ := bcell hb1; have hz1 := hb1.size; simp at hz1))
    all_goals
      go_wp2_with fail
      go_meet
      refine ⟨_, rfl, rfl, ?_, by go_grown⟩
      first | (with_reducible exact c5_new) | ((with_reducible refine c5_set2 (c0 := 0) (c1 := 0) (c2 := 0) (c3 := 0) (c4 := 0) hb1 ?_); exact (by refine ⟨?_, ?_, ?_, ?_, ?_, ?_⟩ <;> first | (simp [go_sem]; done) | (simp; omega)))
  case rest =>
    obtain ⟨z, rfl, rfl, hr, hB⟩ := hcut
    have hx2 := c5_on hx hB
    have hy2 := c5_on hy hB
    go_upto_region 2 with fail
    obtain ⟨w2, hw2⟩ : ∃ w2, w2 = wc := ⟨_, rfl⟩
    go_cut [9, 10] (fun p q W => ResAt w2 r0 r1 r2 r3 r4 ok p q W)
    case first =>
      subst hw2
      go_region_held3 (fun w' => Below w2.heap.size w2 w' ∧ w'.cell? ⟨w.heap.size, 0, none⟩ = some (.int .i64 a) ∧ w'.cell? ⟨w.heap.size, 1, none⟩ = some (.int .i64 b) ∧ w'.cell? ⟨w.heap.size, 2, none⟩ = some (.int .i64 c) ∧ w'.cell? ⟨w.heap.size, 3, none⟩ = some (.int .i64 d) ∧ w'.cell? ⟨w.heap.size, 4, none⟩ = some (.int .i64 n) ∧ w'.cell? ⟨w.heap.size + 1, 0, none⟩ = some (.int .i64 a') ∧ w'.cell? ⟨w.heap.size + 1, 1, none⟩ = some (.int .i64 b') ∧ w'.cell? ⟨w.heap.size + 1, 2, none⟩ = some (.int .i64 c') ∧ w'.cell? ⟨w.heap.size + 1, 3, none⟩ = some (.int .i64 d') ∧ w'.cell? ⟨w.heap.size + 1, 4, none⟩ = some (.int .i64 n')) (exact keep55 hx2 hy2 (by go_grown)) (first | (go_at_call 18; refine (toTerm_to _ _ _ _ _ _).mono ?_; rintro e w' ⟨rfl, rfl⟩) | (go_at_call 12; refine (HI.out _).mono ?_; rintro e w1 ⟨rfl, hb1⟩; have hbb1 := below_on (w := w2) (by go_grown) hb1; have hs1 : w2.heap.size ≤ w1.heap.size := hbb1.size; obtain ⟨hc, hf⟩ := bcell hb1; have hz1 := hb1.size; simp at hz1))
      all_goals
        go_wp2_with fail
        go_meet
        refine ⟨_, rfl, rfl, ?_, by go_grown⟩
        first | (with_reducible exact c5_new) | ((with_reducible refine c5_set2 (c0 := 0) (c1 := 0) (c2 := 0) (c3 := 0) (c4 := 0) hb1 ?_); exact (by refine ⟨?_, ?_, ?_, ?_, ?_, ?_⟩ <;> first | (simp [go_sem]; done) | (simp; omega)))
    case rest =>
      obtain ⟨z2, rfl, rfl, ⟨g0, g1, g2, g3, g4, g5⟩, hB2⟩ := hcut
      subst hw2
      obtain ⟨f0, f1, f2, f3, f4, f5⟩ := c5_on hr hB2
      go_wp2_with (go_at_call 19; refine (eqTerm_same _ _ _ _ _ _).mono ?_; rintro e w' ⟨rfl, rfl⟩)
      go_ret
      have hf := below_on hw0 (below_on hB hB2)
      have hfs := hf.size
      exact ⟨rfl, by go_grown⟩

theorem exactSubstTerm_walk (a b c d n v a' b' c' d' n' : Int) (w : World) :
    Calls Try.prog 4 #[.agg #[.int .i64 a, .int .i64 b, .int .i64 c, .int .i64 d, .int .i64 n], .int .i64 v, .agg #[.int .i64 a', .int .i64 b', .int .i64 c', .int .i64 d', .int .i64 n']] w fun e w' => e = .returned (.bool true) ∧ Below w.heap.size w w' := by
  by_cases h : (tvB a b c d n && tvB a' b' c' d' n' && varB v) = true
  · have h' : (tvB a b c d n = true ∧ tvB a' b' c' d' n' = true) ∧ varB v = true := by simpa using h
    obtain ⟨⟨h1, h2⟩, hv⟩ := h'
    have hv' : 0 ≤ v ∧ v < 4 := by simpa [varB] using hv
    obtain ⟨K, hK⟩ : ∃ K, sel a b c d v 0 = K := ⟨_, rfl⟩
    obtain ⟨A, hA⟩ : ∃ A : Int, (if v = 0 then 0 else a) = A := ⟨_, rfl⟩
    obtain ⟨B, hB⟩ : ∃ B : Int, (if v = 1 then 0 else b) = B := ⟨_, rfl⟩
    obtain ⟨C, hC⟩ : ∃ C : Int, (if v = 2 then 0 else c) = C := ⟨_, rfl⟩
    obtain ⟨D, hD⟩ : ∃ D : Int, (if v = 3 then 0 else d) = D := ⟨_, rfl⟩
    by_cases h3 : tvB (A + a' * K) (B + b' * K) (C + c' * K) (D + d' * K) (n + n' * K) = true
    · exact exactSubstTerm_some _ _ _ _ _ _ _ _ _ _ _ _ _ _ _ _ true w (Lib.hid fun W => specSubstTerm_ok a b c d n v a' b' c' d' n' K A B C D W h1 h2 hv' hK hA hB hC hD h3) (Lib.hid fun W => SubstTerm_ok a b c d n v a' b' c' d' n' K A B C D W h1 h2 hv' hK hA hB hC hD h3)
    · have h4 : tvB (A + a' * K) (B + b' * K) (C + c' * K) (D + d' * K) (n + n' * K) = false := by simpa using h3
      exact exactSubstTerm_some _ _ _ _ _ _ _ _ _ _ _ _ _ _ _ _ false w (Lib.hid fun W => specSubstTerm_far a b c d n v a' b' c' d' n' K A B C D W h1 h2 hv' hK hA hB hC hD h4) (Lib.hid fun W => SubstTerm_far a b c d n v a' b' c' d' n' K A B C D W h1 h2 hv' hK hA hB hC hD h4)
  · have h4 : (tvB a b c d n && tvB a' b' c' d' n' && varB v) = false := by simpa using h
    exact exactSubstTerm_some _ _ _ _ _ _ _ _ _ _ _ _ _ _ _ _ false w (Lib.hid fun W => specSubstTerm_bad a b c d n v a' b' c' d' n' W h4) (Lib.hid fun W => SubstTerm_bad a b c d n v a' b' c' d' n' W h4)

end Go.Proofs.Ytcgolbkpfncgpaa
