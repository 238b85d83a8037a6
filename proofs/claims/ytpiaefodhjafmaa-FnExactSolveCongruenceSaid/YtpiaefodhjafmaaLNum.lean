/- The walks of the exact laws of chapter 5 over numbers. -/
import Derived.Test.YtpiaefodhjafmaaNbU
namespace Go.Proofs.Ytpiaefodhjafmaa
open Go.RowKit

theorem exactGcdOf_walk (a b : Int) (w : World) :
    Calls Try.prog 4 #[.int .i64 a, .int .i64 b] w fun e w' => e = .returned (.bool true) ∧ Below w.heap.size w w' := by
  have HS := Lib.hid fun W => specGcdOf_any a b W
  have HI := Lib.hid fun W => GcdOf_any a b W
  generalize gcdT a b = t at *
  go_enter Try.func4, Try.ntmps4
  go_wp2_with fail
  refine (HS.out _).mono ?_
  rintro e w1 ⟨rfl, rfl⟩
  go_wp2_with fail
  refine (HI.out _).mono ?_
  rintro e w2 ⟨rfl, hb2⟩
  go_wp2
  go_returns
  exact ⟨rfl, hb2⟩

theorem exactBezoutOf_walk (a b : Int) (w : World) :
    Calls Try.prog 6 #[.int .i64 a, .int .i64 b] w fun e w' => e = .returned (.bool true) ∧ Below w.heap.size w w' := by
  have HS := Lib.hid fun W => specBezoutOf_any a b W
  have HI := Lib.hid fun W => BezoutOf_any a b W
  generalize bezT a b = t at *
  obtain ⟨g, x, y, ok⟩ := t
  unfold T4 at HS HI
  dsimp only at HS HI
  go_enter Try.func6, Try.ntmps6
  go_wp2_with fail
  refine (HS.out _).mono ?_
  rintro e w1 ⟨rfl, hb1⟩
  go_wp2_with fail
  refine (HI.out _).mono ?_
  rintro e w2 ⟨rfl, hb2⟩
  go_wp2
  go_returns
  exact ⟨rfl, below_on hb1 hb2⟩

theorem exactFloorDiv_walk (a b : Int) (w : World) :
    Calls Try.prog 7 #[.int .i64 a, .int .i64 b] w fun e w' => e = .returned (.bool true) ∧ Below w.heap.size w w' := by
  have HS := Lib.hid fun W => specFloorDiv_any a b W
  have HI := Lib.hid fun W => FloorDiv_any a b W
  generalize flT a b = t at *
  obtain ⟨g, ok⟩ := t
  unfold T2 at HS HI
  dsimp only at HS HI
  go_enter Try.func7, Try.ntmps7
  go_wp2_with fail
  refine (HS.out _).mono ?_
  rintro e w1 ⟨rfl, rfl⟩
  go_wp2_with fail
  refine (HI.out _).mono ?_
  rintro e w2 ⟨rfl, hb2⟩
  go_wp2
  go_returns
  exact ⟨rfl, hb2⟩

theorem exactCeilDiv_walk (a b : Int) (w : World) (hr : -9223372036854775808 ≤ a ∧ a ≤ 9223372036854775807) :
    Calls Try.prog 8 #[.int .i64 a, .int .i64 b] w fun e w' => e = .returned (.bool true) ∧ Below w.heap.size w w' := by
  have HS := Lib.hid fun W => specCeilDiv_any a b W
  have HI := Lib.hid fun W => CeilDiv_any a b W hr.1 hr.2
  generalize ceT a b = t at *
  obtain ⟨g, ok⟩ := t
  unfold T2 at HS HI
  dsimp only at HS HI
  go_enter Try.func8, Try.ntmps8
  go_wp2_with fail
  refine (HS.out _).mono ?_
  rintro e w1 ⟨rfl, rfl⟩
  go_wp2_with fail
  refine (HI.out _).mono ?_
  rintro e w2 ⟨rfl, hb2⟩
  go_wp2
  go_returns
  exact ⟨rfl, hb2⟩

theorem exactInverseMod_walk (a m : Int) (w : World) :
    Calls Try.prog 9 #[.int .i64 a, .int .i64 m] w fun e w' => e = .returned (.bool true) ∧ Below w.heap.size w w' := by
  have HS := Lib.hid fun W => specInverseMod_any a m W
  have HI := Lib.hid fun W => InverseMod_any a m W
  generalize invT a m = t at *
  obtain ⟨g, ok⟩ := t
  unfold T2 at HS HI
  dsimp only at HS HI
  go_enter Try.func9, Try.ntmps9
  go_wp2_with fail
  refine (HS.out _).mono ?_
  rintro e w1 ⟨rfl, rfl⟩
  go_wp2_with fail
  refine (HI.out _).mono ?_
  rintro e w2 ⟨rfl, hb2⟩
  go_wp2
  go_returns
  exact ⟨rfl, hb2⟩

theorem exactSolveCongruence_walk (a b m : Int) (w : World) :
    Calls Try.prog 10 #[.int .i64 a, .int .i64 b, .int .i64 m] w fun e w' => e = .returned (.bool true) ∧ Below w.heap.size w w' := by
  have HS := Lib.hid fun W => specSolve_any a b m W
  have HI := Lib.hid fun W => SolveCongruence_any a b m W
  generalize solT a b m = t at *
  obtain ⟨g, x, ok⟩ := t
  unfold T3 at HS HI
  dsimp only at HS HI
  go_enter Try.func10, Try.ntmps10
  go_wp2_with fail
  refine (HS.out _).mono ?_
  rintro e w1 ⟨rfl, rfl⟩
  go_wp2_with fail
  refine (HI.out _).mono ?_
  rintro e w2 ⟨rfl, hb2⟩
  go_wp2
  go_returns
  exact ⟨rfl, hb2⟩

theorem exactCombineCongruences_walk (r m s n : Int) (w : World) :
    Calls Try.prog 11 #[.int .i64 r, .int .i64 m, .int .i64 s, .int .i64 n] w fun e w' => e = .returned (.bool true) ∧ Below w.heap.size w w' := by
  have HS := Lib.hid fun W => specCombine_any r m s n W
  have HI := Lib.hid fun W => CombineCongruences_any r m s n W
  generalize comT r m s n = t at *
  obtain ⟨g, x, ok⟩ := t
  unfold T3 at HS HI
  dsimp only at HS HI
  go_enter Try.func11, Try.ntmps11
  go_wp2_with fail
  refine (HS.out _).mono ?_
  rintro e w1 ⟨rfl, rfl⟩
  go_wp2_with fail
  refine (HI.out _).mono ?_
  rintro e w2 ⟨rfl, hb2⟩
  go_wp2
  go_returns
  exact ⟨rfl, hb2⟩

theorem exactLeastSolution_walk (a b c : Int) (w : World) :
    Calls Try.prog 12 #[.int .i64 a, .int .i64 b, .int .i64 c] w fun e w' => e = .returned (.bool true) ∧ Below w.heap.size w w' := by
  have HS := Lib.hid fun W => specLeast_any a b c W
  have HI := Lib.hid fun W => LeastSolution_any a b c W
  generalize lsT a b c = t at *
  obtain ⟨g, x, ok⟩ := t
  unfold T3 at HS HI
  dsimp only at HS HI
  go_enter Try.func12, Try.ntmps12
  go_wp2_with fail
  refine (HS.out _).mono ?_
  rintro e w1 ⟨rfl, hb1⟩
  go_wp2_with fail
  refine (HI.out _).mono ?_
  rintro e w2 ⟨rfl, hb2⟩
  go_wp2
  go_returns
  exact ⟨rfl, below_on hb1 hb2⟩

theorem exactCountSolutions_walk (a b c : Int) (w : World) :
    Calls Try.prog 13 #[.int .i64 a, .int .i64 b, .int .i64 c] w fun e w' => e = .returned (.bool true) ∧ Below w.heap.size w w' := by
  have HS := Lib.hid fun W => specCount_any a b c W
  have HI := Lib.hid fun W => CountSolutions_any a b c W
  generalize cntT a b c = t at *
  go_enter Try.func13, Try.ntmps13
  go_wp2_with fail
  refine (HS.out _).mono ?_
  rintro e w1 ⟨rfl, rfl⟩
  go_wp2_with fail
  refine (HI.out _).mono ?_
  rintro e w2 ⟨rfl, hb2⟩
  go_wp2
  go_returns
  exact ⟨rfl, hb2⟩

theorem exactGreatestGap_walk (a b : Int) (w : World) :
    Calls Try.prog 14 #[.int .i64 a, .int .i64 b] w fun e w' => e = .returned (.bool true) ∧ Below w.heap.size w w' := by
  have HS := Lib.hid fun W => specGap_any a b W
  have HI := Lib.hid fun W => GreatestGap_any a b W
  generalize gapT a b = t at *
  go_enter Try.func14, Try.ntmps14
  go_wp2_with fail
  refine (HS.out _).mono ?_
  rintro e w1 ⟨rfl, rfl⟩
  go_wp2_with fail
  refine (HI.out _).mono ?_
  rintro e w2 ⟨rfl, hb2⟩
  go_wp2
  go_returns
  exact ⟨rfl, hb2⟩

end Go.Proofs.Ytpiaefodhjafmaa
