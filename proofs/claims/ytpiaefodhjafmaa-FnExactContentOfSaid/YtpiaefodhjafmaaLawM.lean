/- The walk of the law that says that ContentOf answers as its model does. -/
import Derived.Test.YtpiaefodhjafmaaCont2
namespace Go.Proofs.Ytpiaefodhjafmaa
open Go.RowKit

set_option maxHeartbeats 400000 in
theorem exactContentOf_some (a b c d n r : Int) (w : World)
    (HS : Hid (∀ W, Calls Try.prog 15 #[.agg #[.int .i64 a, .int .i64 b, .int .i64 c, .int .i64 d, .int .i64 n]] W fun e w' => e = .returned (.int .i64 r) ∧ Below W.heap.size W w'))
    (HI : Hid (∀ W, Calls Try.prog 17 #[.agg #[.int .i64 a, .int .i64 b, .int .i64 c, .int .i64 d, .int .i64 n]] W fun e w' => e = .returned (.int .i64 r) ∧ Below W.heap.size W w')) :
    Calls Try.prog 3 #[.agg #[.int .i64 a, .int .i64 b, .int .i64 c, .int .i64 d, .int .i64 n]] w fun e w' => e = .returned (.bool true) ∧ Below w.heap.size w w' := by
  go_enter Try.func3, Try.ntmps3
  go_wp2_with fail
  generalize hW : w.alloc (.cells #[.int .i64 a, .int .i64 b, .int .i64 c, .int .i64 d, .int .i64 n] 23) = W
  have hx : C5 W w.heap.size a b c d n := by subst hW; exact (by refine ⟨?_, ?_, ?_, ?_, ?_, ?_⟩ <;> first | (simp [go_sem]; done) | (simp; omega))
  have hw0 : Below w.heap.size w W := by subst hW; go_grown
  clear hW
  obtain ⟨x0, x1, x2, x3, x4, x5⟩ := id hx
  refine (toTerm_to a b c d n _).mono ?_
  rintro e w' ⟨rfl, rfl⟩
  go_wp2_with fail
  refine (HS.out _).mono ?_
  rintro e w1 ⟨rfl, hb1⟩
  have hbb1 := below_on (w := W) (by go_grown) hb1
  have hs1 : W.heap.size ≤ w1.heap.size := hbb1.size
  obtain ⟨x0, x1, x2, x3, x4, x5⟩ := c5_on hx hbb1
  go_wp2_with fail
  refine (toTerm_to a b c d n _).mono ?_
  rintro e w' ⟨rfl, rfl⟩
  go_wp2_with fail
  refine (HI.out _).mono ?_
  rintro e w3 ⟨rfl, hb3⟩
  have hbb3 := below_on (w := W) (by go_grown) hb3
  go_wp2
  go_ret
  exact ⟨rfl, below_on hw0 hbb3⟩

theorem exactContentOf_walk (a b c d n : Int) (w : World) :
    Calls Try.prog 3 #[.agg #[.int .i64 a, .int .i64 b, .int .i64 c, .int .i64 d, .int .i64 n]] w fun e w' => e = .returned (.bool true) ∧ Below w.heap.size w w' := by
  by_cases h : tvB a b c d n = true
  · exact exactContentOf_some a b c d n _ w (Lib.hid fun W => specContentOf_ok a b c d n W h) (Lib.hid fun W => ContentOf_ok a b c d n W h)
  · have h' : tvB a b c d n = false := by simpa using h
    exact exactContentOf_some a b c d n _ w (Lib.hid fun W => specContentOf_bad a b c d n W h') (Lib.hid fun W => ContentOf_bad a b c d n W h')

end Go.Proofs.Ytpiaefodhjafmaa
