/- Contracts of the small functions of chapter 1: limits, lists of multiples and values, validity, coefficients. -/
import Derived.Test.YtcgolbkpfncgpaaRows
import Derived.WalkKit
import Derived.WalkSpells
import Derived.WalkLawsBesides
import Derived.Handy
import Derived.Lib.Hide
import Derived.Deep.Light
namespace Go.Proofs.Ytcgolbkpfncgpaa
open Go.RowKit

def wlB (n l : Int) : Bool := decide (-l ≤ n ∧ n ≤ l)
def varB (v : Int) : Bool := decide (0 ≤ v ∧ v < 4)
def inB (n l h : Int) : Bool := decide (l ≤ n ∧ n ≤ h)
def tvB (a b c d n : Int) : Bool := wlB a 100 && wlB b 100 && wlB c 100 && wlB d 100 && wlB n 10000
def pvB (a b c d : Int) : Bool := inB a 0 1000 && inB b 0 1000 && inB c 0 1000 && inB d 0 1000
def sel (a b c d v : Int) (z : Int) : Int := if v = 0 then a else if v = 1 then b else if v = 2 then c else if v = 3 then d else z
def wvB (a b c d v n : Int) : Bool := pvB a b c d && varB v && inB n 0 1000
def o5 (a b c d n : Int) (t : TypeId) : Obj := .cells #[.int .i64 a, .int .i64 b, .int .i64 c, .int .i64 d, .int .i64 n] t (0, 0)
def o4 (a b c d : Int) (t : TypeId) : Obj := .cells #[.int .i64 a, .int .i64 b, .int .i64 c, .int .i64 d] t (0, 0)

theorem ret_bool {a b : Bool} (h : a = b) : Ending.returned (.bool a) = .returned (.bool b) := by rw [h]
theorem ret_int {a b : Int} (h : a = b) : Ending.returned (.int .i64 a) = .returned (.int .i64 b) := by rw [h]

set_option maxHeartbeats 400000 in
theorem withinLimit_any (n l : Int) (w : World) (h0 : 0 ≤ l) (h1 : l ≤ 100000) :
    Calls Try.prog 88 #[.int .i64 n, .int .i64 l] w fun e w' => e = .returned (.bool (wlB n l)) ∧ w = w' := by
  go_enter Try.func88, Try.ntmps88
  go_wp2
  all_goals (go_ret; exact ⟨ret_bool (by simp only [wlB]; simp; try omega), rfl⟩)

set_option maxHeartbeats 400000 in
theorem isVar_any (v : Int) (w : World) :
    Calls Try.prog 53 #[.int .i64 v] w fun e w' => e = .returned (.bool (varB v)) ∧ w = w' := by
  go_enter Try.func53, Try.ntmps53
  go_wp2
  all_goals (go_ret; exact ⟨ret_bool (by simp only [varB]; simp; try omega), rfl⟩)

theorem isVar_yes (v : Int) (w : World) (h0 : 0 ≤ v) (h1 : v < 4) :
    Calls Try.prog 53 #[.int .i64 v] w fun e w' => e = .returned (.bool true) ∧ w = w' :=
  (isVar_any v w).mono fun _ _ ⟨he, hw⟩ => ⟨he.trans (ret_bool (by simp only [varB]; simp; omega)), hw⟩
theorem isVar_no (v : Int) (w : World) (h : v < 0 ∨ 4 ≤ v) :
    Calls Try.prog 53 #[.int .i64 v] w fun e w' => e = .returned (.bool false) ∧ w = w' :=
  (isVar_any v w).mono fun _ _ ⟨he, hw⟩ => ⟨he.trans (ret_bool (by simp only [varB]; simp; omega)), hw⟩

set_option maxHeartbeats 400000 in
theorem multiples_any (a b c d n : Int) (w : World) :
    Calls Try.prog 54 #[.agg #[.int .i64 a, .int .i64 b, .int .i64 c, .int .i64 d, .int .i64 n]] w fun e w' => e = .returned (.slice (some ⟨w.heap.size + 1, 0, none⟩) 5 5) ∧ (w.alloc (.cells #[.int .i64 a, .int .i64 b, .int .i64 c, .int .i64 d, .int .i64 n] 24)).alloc (.cells #[.int .i64 a, .int .i64 b, .int .i64 c, .int .i64 d, .int .i64 n] 3) = w' := by
  go_enter Try.func54, Try.ntmps54
  go_wp2
  go_ret
  exact ⟨rfl, rfl⟩

set_option maxHeartbeats 400000 in
theorem values_any (a b c d : Int) (w : World) :
    Calls Try.prog 66 #[.agg #[.int .i64 a, .int .i64 b, .int .i64 c, .int .i64 d]] w fun e w' => e = .returned (.slice (some ⟨w.heap.size + 1, 0, none⟩) 4 4) ∧ (w.alloc (.cells #[.int .i64 a, .int .i64 b, .int .i64 c, .int .i64 d] 30)).alloc (.cells #[.int .i64 a, .int .i64 b, .int .i64 c, .int .i64 d] 3) = w' := by
  go_enter Try.func66, Try.ntmps66
  go_wp2
  go_ret
  exact ⟨rfl, rfl⟩

set_option maxHeartbeats 400000 in
theorem TermValid_any (a b c d n : Int) (w : World) :
    Calls Try.prog 40 #[.agg #[.int .i64 a, .int .i64 b, .int .i64 c, .int .i64 d, .int .i64 n]] w fun e w' => e = .returned (.bool (tvB a b c d n)) ∧
      ((w.alloc (.cells #[.int .i64 a, .int .i64 b, .int .i64 c, .int .i64 d, .int .i64 n] 24)).alloc (.cells #[.int .i64 a, .int .i64 b, .int .i64 c, .int .i64 d, .int .i64 n] 24)).alloc (.cells #[.int .i64 a, .int .i64 b, .int .i64 c, .int .i64 d, .int .i64 n] 3) = w' := by
  go_enter Try.func40, Try.ntmps40
  go_wp2_with (go_at_call 54; refine (multiples_any _ _ _ _ _ _).mono ?_; rintro e w' ⟨rfl, rfl⟩)
  refine wp_loop_rounds 5 ?_
  repeat any_goals (rw [rounds_succ]; go_wp2_with (go_at_call 88; refine (withinLimit_any _ _ _ (by omega) (by omega)).mono ?_; rintro e w' ⟨rfl, rfl⟩))
  all_goals (go_ret; exact ⟨ret_bool (by go_light; simp_all [tvB]), rfl⟩)

theorem TermValid_is (a b c d n : Int) (t : Bool) (w : World) (h : tvB a b c d n = t) :
    Calls Try.prog 40 #[.agg #[.int .i64 a, .int .i64 b, .int .i64 c, .int .i64 d, .int .i64 n]] w fun e w' => e = .returned (.bool t) ∧
      ((w.alloc (.cells #[.int .i64 a, .int .i64 b, .int .i64 c, .int .i64 d, .int .i64 n] 24)).alloc (.cells #[.int .i64 a, .int .i64 b, .int .i64 c, .int .i64 d, .int .i64 n] 24)).alloc (.cells #[.int .i64 a, .int .i64 b, .int .i64 c, .int .i64 d, .int .i64 n] 3) = w' :=
  (TermValid_any a b c d n w).mono fun _ _ ⟨he, hw⟩ => ⟨he.trans (ret_bool h), hw⟩

set_option maxHeartbeats 400000 in
theorem CoefOf_any (a b c d n v : Int) (w : World) :
    Calls Try.prog 17 #[.agg #[.int .i64 a, .int .i64 b, .int .i64 c, .int .i64 d, .int .i64 n], .int .i64 v] w fun e w' => e = .returned (.int .i64 (sel a b c d v 0)) ∧ Below w.heap.size w w' := by
  by_cases h : 0 ≤ v ∧ v < 4
  · have h' : v = 0 ∨ v = 1 ∨ v = 2 ∨ v = 3 := by omega
    clear h
    rcases h' with rfl | rfl | rfl | rfl
    all_goals
      go_enter Try.func17, Try.ntmps17
      go_wp2_with (first | (go_at_call 53; refine (isVar_yes _ _ (by omega) (by omega)).mono ?_; rintro e w' ⟨rfl, rfl⟩) | (go_at_call 54; refine (multiples_any _ _ _ _ _ _).mono ?_; rintro e w' ⟨rfl, rfl⟩))
      go_ret
      exact ⟨rfl, by go_grown⟩
  · have hs : sel a b c d v 0 = 0 := by unfold sel; repeat (rw [if_neg (by omega)])
    have Hs := Lib.hid hs
    clear hs
    go_enter Try.func17, Try.ntmps17
    go_wp2_with (go_at_call 53; refine (isVar_no _ _ (by omega)).mono ?_; rintro e w' ⟨rfl, rfl⟩)
    go_ret
    exact ⟨ret_int Hs.out.symm, by go_grown⟩

end Go.Proofs.Ytcgolbkpfncgpaa
