/- Contracts of the small functions of chapter 1: limits, lists of multiples and values, validity, coefficients. -/
import Derived.Test.YtohldjooioapjaaDoorRows
import Derived.WalkKit
import Derived.WalkSpells
import Derived.WalkLawsBesides
import Derived.Handy
import Derived.Lib.Hide
import Derived.Deep.Light
namespace Go.Proofs.YtohldjooioapjaaDoor
open Go.RowKit

def wlB (n l : Int) : Bool := decide (-l ≤ n ∧ n ≤ l)
def varB (v : Int) : Bool := decide (0 ≤ v ∧ v < 4)
def inB (n l h : Int) : Bool := decide (l ≤ n ∧ n ≤ h)
def tvB (a b c d n : Int) : Bool := wlB a 100 && wlB b 100 && wlB c 100 && wlB d 100 && wlB n 10000
def pvB (a b c d : Int) : Bool := inB a 0 1000 && inB b 0 1000 && inB c 0 1000 && inB d 0 1000
def sel (a b c d v : Int) (z : Int) : Int := if v = 0 then a else if v = 1 then b else if v = 2 then c else if v = 3 then d else z
def wvB (a b c d v n : Int) : Bool := pvB a b c d && varB v && inB n 0 1000
def o5 (a b c d n : Int) (t : TypeId) : Obj := .cells #[.int .i64 a, .int .i64 b, .int .i64 c, .int .i64 d, .int .i64 n] t (0, 0)
def o4 (a b c d : Int) (t : TypeId) : Obj := .cells #[.int .i64 a, .int .i64 b, .int .i64 c, .int .i64 d] t (0, 0)

theorem ret_bool {a b : Bool} (h : a = b) : Ending.returned (.bool a) = .returned (.bool b) := by rw [h]
theorem ret_int {a b : Int} (h : a = b) : Ending.returned (.int .i64 a) = .returned (.int .i64 b) := by rw [h]

set_option maxHeartbeats 400000 in
theorem withinLimit_any (n l : Int) (w : World) (h0 : 0 ≤ l) (h1 : l ≤ 100000) :
    Calls Tryd.prog 54 #[.int .i64 n, .int .i64 l] w fun e w' => e = .returned (.bool (wlB n l)) ∧ w = w' := by
  go_enter Tryd.func54, Tryd.ntmps54
  go_wp2
  all_goals (go_ret; exact ⟨ret_bool (by simp only [wlB]; simp; try omega), rfl⟩)

set_option maxHeartbeats 400000 in
theorem isVar_any (v : Int) (w : World) :
    Calls Tryd.prog 144 #[.int .i64 v] w fun e w' => e = .returned (.bool (varB v)) ∧ w = w' := by
  go_enter Tryd.func144, Tryd.ntmps144
  go_wp2
  all_goals (go_ret; exact ⟨ret_bool (by simp only [varB]; simp; try omega), rfl⟩)

theorem isVar_yes (v : Int) (w : World) (h0 : 0 ≤ v) (h1 : v < 4) :
    Calls Tryd.prog 144 #[.int .i64 v] w fun e w' => e = .returned (.bool true) ∧ w = w' :=
  (isVar_any v w).mono fun _ _ ⟨he, hw⟩ => ⟨he.trans (ret_bool (by simp only [varB]; simp; omega)), hw⟩
theorem isVar_no (v : Int) (w : World) (h : v < 0 ∨ 4 ≤ v) :
    Calls Tryd.prog 144 #[.int .i64 v] w fun e w' => e = .returned (.bool false) ∧ w = w' :=
  (isVar_any v w).mono fun _ _ ⟨he, hw⟩ => ⟨he.trans (ret_bool (by simp only [varB]; simp; omega)), hw⟩

set_option maxHeartbeats 400000 in
theorem multiples_any (a b c d n : Int) (w : World) :
    Calls Tryd.prog 48 #[.agg #[.int .i64 a, .int .i64 b, .int .i64 c, .int .i64 d, .int .i64 n]] w fun e w' => e = .returned (.slice (some ⟨w.heap.size + 1, 0, none⟩) 5 5) ∧ (w.alloc (.cells #[.int .i64 a, .int .i64 b, .int .i64 c, .int .i64 d, .int .i64 n] 24)).alloc (.cells #[.int .i64 a, .int .i64 b, .int .i64 c, .int .i64 d, .int .i64 n] 3) = w' := by
  go_enter Tryd.func48, Tryd.ntmps48
  go_wp2
  go_ret
  exact ⟨rfl, rfl⟩

set_option maxHeartbeats 400000 in
theorem TermValid_any (a b c d n : Int) (w : World) :
    Calls Tryd.prog 16 #[.agg #[.int .i64 a, .int .i64 b, .int .i64 c, .int .i64 d, .int .i64 n]] w fun e w' => e = .returned (.bool (tvB a b c d n)) ∧
      ((w.alloc (.cells #[.int .i64 a, .int .i64 b, .int .i64 c, .int .i64 d, .int .i64 n] 24)).alloc (.cells #[.int .i64 a, .int .i64 b, .int .i64 c, .int .i64 d, .int .i64 n] 24)).alloc (.cells #[.int .i64 a, .int .i64 b, .int .i64 c, .int .i64 d, .int .i64 n] 3) = w' := by
  go_enter Tryd.func16, Tryd.ntmps16
  go_wp2_with (go_at_call 48; refine (multiples_any _ _ _ _ _ _).mono ?_; rintro e w' ⟨rfl, rfl⟩)
  refine wp_loop_rounds 5 ?_
  repeat any_goals (rw [rounds_succ]; go_wp2_with (go_at_call 54; refine (withinLimit_any _ _ _ (by omega) (by omega)).mono ?_; rintro e w' ⟨rfl, rfl⟩))
  all_goals (go_ret; exact ⟨ret_bool (by go_light; simp_all [tvB]), rfl⟩)

theorem TermValid_is (a b c d n : Int) (t : Bool) (w : World) (h : tvB a b c d n = t) :
    Calls Tryd.prog 16 #[.agg #[.int .i64 a, .int .i64 b, .int .i64 c, .int .i64 d, .int .i64 n]] w fun e w' => e = .returned (.bool t) ∧
      ((w.alloc (.cells #[.int .i64 a, .int .i64 b, .int .i64 c, .int .i64 d, .int .i64 n] 24)).alloc (.cells #[.int .i64 a, .int .i64 b, .int .i64 c, .int .i64 d, .int .i64 n] 24)).alloc (.cells #[.int .i64 a, .int .i64 b, .int .i64 c, .int .i64 d, .int .i64 n] 3) = w' :=
  (TermValid_any a b c d n w).mono fun _ _ ⟨he, hw⟩ => ⟨he.trans (ret_bool h), hw⟩

end Go.Proofs.YtohldjooioapjaaDoor
