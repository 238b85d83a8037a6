/- Contracts of the small functions of chapter 1: limits, lists of multiples and values, validity, coefficients. -/
import Derived.Test.YtkhnninnmpffmaaDoorRows
import Derived.WalkKit
import Derived.WalkSpells
import Derived.WalkLawsBesides
import Derived.Handy
import Derived.Lib.Hide
import Derived.Deep.Light
namespace Go.Proofs.YtkhnninnmpffmaaDoor
open Go.RowKit

def wlB (n l : Int) : Bool := decide (-l ≤ n ∧ n ≤ l)
def varB (v : Int) : Bool := decide (0 ≤ v ∧ v < 4)
def inB (n l h : Int) : Bool := decide (l ≤ n ∧ n ≤ h)
def tvB (a b c d n : Int) : Bool := wlB a 100 && wlB b 100 && wlB c 100 && wlB d 100 && wlB n 10000
def pvB (a b c d : Int) : Bool := inB a 0 1000 && inB b 0 1000 && inB c 0 1000 && inB d 0 1000
def sel (a b c d v : Int) (z : Int) : Int := if v = 0 then a else if v = 1 then b else if v = 2 then c else if v = 3 then d else z
def wvB (a b c d v n : Int) : Bool := pvB a b c d && varB v && inB n 0 1000
def o5 (a b c d n : Int) (t : TypeId) : Obj := .cells #[.int .i64 a, .int .i64 b, .int .i64 c, .int .i64 d, .int .i64 n] t (0, 0)
def o4 (a b c d : Int) (t : TypeId) : Obj := .cells #[.int .i64 a, .int .i64 b, .int .i64 c, .int .i64 d] t (0, 0)

theorem ret_bool {a b : Bool} (h : a = b) : Ending.returned (.bool a) = .returned (.bool b) := by rw [h]
theorem ret_int {a b : Int} (h : a = b) : Ending.returned (.int .i64 a) = .returned (.int .i64 b) := by rw [h]

end Go.Proofs.YtkhnninnmpffmaaDoor
