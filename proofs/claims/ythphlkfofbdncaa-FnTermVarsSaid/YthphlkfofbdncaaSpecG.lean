/- The model's AddTerms of a term that is not valid. -/
import Derived.Test.YthphlkfofbdncaaSpecD
import Derived.Test.YthphlkfofbdncaaSpecE
import Derived.Test.YthphlkfofbdncaaHeld
namespace Go.Proofs.Ythphlkfofbdncaa
open Go.RowKit

set_option maxHeartbeats 4000000 in
theorem specAddTerms_none (a b c d n a' b' c' d' n' : Int) (w : World) (h2 : tvB a b c d n = false) :
    Calls Try.prog 56 #[.agg #[.int .i64 a, .int .i64 b, .int .i64 c, .int .i64 d, .int .i64 n], .agg #[.int .i64 a', .int .i64 b', .int .i64 c', .int .i64 d', .int .i64 n']] w fun e w' => e = .returned (.tuple #[.agg #[.int .i64 0, .int .i64 0, .int .i64 0, .int .i64 0, .int .i64 0], .bool false]) ∧ Below w.heap.size w w' := by
  have HP := Lib.hid fun W => l1Plus_raw a b c d n 1 a' b' c' d' n' W
  have H2 := Lib.hid h2
  clear h2
  go_enter Try.func56, Try.ntmps56
  go_wp2
  generalize hW : (w.alloc (.cells #[.int .i64 a, .int .i64 b, .int .i64 c, .int .i64 d, .int .i64 n] 27)).alloc (.cells #[.int .i64 a', .int .i64 b', .int .i64 c', .int .i64 d', .int .i64 n'] 27) = W0
  have hx : C5 W0 w.heap.size a b c d n := by subst hW; exact (by refine ⟨?_, ?_, ?_, ?_, ?_, ?_⟩ <;> first | (simp [go_sem]; done) | (simp; omega))
  have hy : C5 W0 (w.heap.size + 1) a' b' c' d' n' := by subst hW; exact (by refine ⟨?_, ?_, ?_, ?_, ?_, ?_⟩ <;> first | (simp [go_sem]; done) | (simp; omega))
  have hw0 : Below w.heap.size w W0 := by subst hW; go_grown
  have hsz0 : w.heap.size + 1 + 1 = W0.heap.size := by subst hW; simp
  rw [hsz0]
  clear hW hsz0
  generalize hW : W0.alloc (.cells #[.int .i64 0, .int .i64 0, .int .i64 0, .int .i64 0, .int .i64 0] 27) = W
  have hz : C5 W W0.heap.size 0 0 0 0 0 := by subst hW; exact (by refine ⟨?_, ?_, ?_, ?_, ?_, ?_⟩ <;> first | (simp [go_sem]; done) | (simp; omega))
  have fz0 : Hid (∀ o, W.frozen? ⟨W0.heap.size, o, none⟩ = false) := by intro o; subst hW; simp [go_sem]
  have hWW : Below W0.heap.size W0 W := by subst hW; go_grown
  have hlt : W0.heap.size < W.heap.size := by subst hW; simp
  clear hW
  obtain ⟨p0, p1, p2, p3, p4, p5⟩ := c5_on hx hWW
  obtain ⟨q0, q1, q2, q3, q4, q5⟩ := c5_on hy hWW
  go_region_with (first | (go_at_call 82; refine (HP.out _).mono ?_; rintro e w' ⟨rfl, hb⟩; have hbb := below_on (w := W) (by go_grown) hb; have hb0 := below_on (w := W0) hWW hbb; have hsy : W.heap.size ≤ w'.heap.size := hbb.size; have hsz : W0.heap.size < w'.heap.size := Nat.lt_of_lt_of_le hlt hbb.size; obtain ⟨x0, x1, x2, x3, x4, x5⟩ := c5_on hx hb0) | (go_at_call 71; refine (specTermValid_is _ _ _ _ _ false _ H2.out).mono ?_; rintro e w' ⟨rfl, rfl⟩) | (go_at_call 100; refine (l1Result_no _ _ _ _ _ _).mono ?_; rintro e w' ⟨rfl, hb⟩; have hbb := below_on (w := W) (by go_grown) hb; have hb0 := below_on (w := W0) hWW hbb; have hsy : W.heap.size ≤ w'.heap.size := hbb.size; have hsz : W0.heap.size < w'.heap.size := Nat.lt_of_lt_of_le hlt hbb.size; obtain ⟨z0, z1, z2, z3, z4, z5⟩ := c5_on hz hbb; have fz := fz_on hz fz0 hbb))
  all_goals
    go_wp2
    refine bodyPost_ret (v := .tuple #[.agg #[.int .i64 0, .int .i64 0, .int .i64 0, .int .i64 0, .int .i64 0], .bool false]) (by simp [results, Try.results56, go_sem, z1, z2, z3, z4, z5]) rfl ⟨rfl, ?_⟩
    exact below_on hw0 (by go_grown)

end Go.Proofs.Ythphlkfofbdncaa
