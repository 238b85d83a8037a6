/- What the model draws as the arguments of the functions of chapter 5. -/
import Derived.Test.YtpheihejgnlanaaDoorDrN
namespace Go.Proofs.YtpheihejgnlanaaDoor
open Go.RowKit

def Big (x : Int) : Prop := -9223372036854775808 ≤ x ∧ x ≤ 9223372036854775807
def Bet (lo hi x : Int) : Prop := lo ≤ x ∧ x ≤ hi
theorem open_below {w w1 w2 : World} {r : Nat} {p K : Int} (hb : Below w.heap.size w w1) (hr : w.heap.size ≤ r) (ht : Turned r p K w1 w2) : Below w.heap.size w w2 :=
  hb.trans (below_only ht.1 hb.size hr)

theorem wrap_big (x : Int) : Big (IntKind.i64.wrap x) := by
  unfold Big
  rw [IntKind.wrap_i64]
  omega

theorem DrawGap_t (sp : Option Addr) (n cap : Nat) (w : World) (h : Code w sp n cap) :
    Calls Tryd.prog 36 #[.slice sp n cap] w fun e w' => ∃ a b : Int, e = .returned (.tuple #[.int .i64 a, .int .i64 b]) ∧ Bet (-101) 101 a ∧ Bet (-101) 101 b ∧ Below w.heap.size w w' := by
  have H := Lib.hid h
  clear h
  go_enter Tryd.func36, Tryd.ntmps36
  go_wp2_with fail
  refine (l17Open_t sp n cap w H.out).mono ?_
  rintro e w1 ⟨r, rfl, hr, hR, hb1⟩
  have HR := Lib.hid hR
  have HB := Lib.hid hb1
  clear hR
  go_wp2_with fail
  refine (l5Coef_t r 0 w1 HR.out (by omega)).mono ?_
  rintro e w2 ⟨a, rfl, a0, a1, ht2⟩
  have HT2 := Lib.hid ht2
  obtain ⟨_, q2, q20, q21, hR2⟩ := ht2
  have HR2 := Lib.hid hR2
  clear hR2
  go_wp2_with fail
  refine (l5Coef_t r q2 w2 HR2.out (by omega)).mono ?_
  rintro e w3 ⟨b, rfl, b0, b1, ht3⟩
  have HT3 := Lib.hid (turned_two HT2.out HR2.out ht3 (by omega) (by omega))
  obtain ⟨_, q3, q30, q31, hR3⟩ := ht3
  have HR3 := Lib.hid hR3
  clear hR3
  go_wp2_with fail
  refine (pick_t r q3 4 w3 HR3.out (by omega)).mono ?_
  rintro e w4 ⟨x, rfl, x0, x1, ht4⟩
  have HT4 := Lib.hid (turned_two HT3.out HR3.out ht4 (by omega) (by omega))
  clear ht4
  go_wp2
  all_goals
    go_returns
    exact ⟨_, _, rfl, ⟨by omega, by omega⟩, ⟨by omega, by omega⟩, open_below HB.out hr HT4.out⟩

end Go.Proofs.YtpheihejgnlanaaDoor
