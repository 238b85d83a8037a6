/- The contract of the model's ValueOf. -/
import Derived.Test.YthhbbfjmfcnmaabSpecB
namespace Go.Proofs.Ythhbbfjmfcnmaab
open Go.RowKit

set_option maxHeartbeats 400000 in
theorem specValueOf_any (a b c d v : Int) (w : World) :
    Calls Try.prog 12 #[.agg #[.int .i64 a, .int .i64 b, .int .i64 c, .int .i64 d], .int .i64 v] w fun e w' => e = .returned (.int .i64 (sel a b c d v (-1))) ∧ Below w.heap.size w w' := by
  by_cases h : 0 ≤ v ∧ v < 4
  · have hv : varB v = true := by simp [varB]; omega
    have HV := Lib.hid hv
    have h' : v = 0 ∨ v = 1 ∨ v = 2 ∨ v = 3 := by omega
    clear h hv
    rcases h' with rfl | rfl | rfl | rfl
    all_goals
      go_enter Try.func12, Try.ntmps12
      go_wp2_with (first | (go_at_call 37; refine (l1Var_is _ true _ HV.out).mono ?_; rintro e w' ⟨rfl, rfl⟩) | (go_at_call 38; refine (l1Values_any _ _ _ _ _).mono ?_; rintro e w' ⟨rfl, rfl⟩))
      go_ret
      exact ⟨rfl, by go_grown⟩
  · have hv : varB v = false := by simp [varB]; omega
    have HV := Lib.hid hv
    have hs : sel a b c d v (-1) = -1 := by unfold sel; repeat (rw [if_neg (by omega)])
    have Hs := Lib.hid hs
    clear hs hv h
    go_enter Try.func12, Try.ntmps12
    go_wp2_with (go_at_call 37; refine (l1Var_is _ false _ HV.out).mono ?_; rintro e w' ⟨rfl, rfl⟩)
    go_ret
    exact ⟨ret_int Hs.out.symm, by go_grown⟩

end Go.Proofs.Ythhbbfjmfcnmaab
