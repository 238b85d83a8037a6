/- What the model draws as the arguments of ProgressionSet: two numbers. -/
import Derived.Test.YtpheihejgnlanaaDoorCode
namespace Go.Proofs.YtpheihejgnlanaaDoor
open Go.RowKit

def BigN (x : Int) : Prop := -9223372036854775808 ≤ x ∧ x ≤ 9223372036854775807
theorem opened_below {w w1 w2 : World} {r : Nat} {p K : Int} (hb : Below w.heap.size w w1) (hr : w.heap.size ≤ r) (ht : Turned r p K w1 w2) : Below w.heap.size w w2 :=
  hb.trans (below_only ht.1 hb.size hr)

set_option maxHeartbeats 1000000 in
theorem l7Number_t (r : Nat) (p : Int) (w : World) (h : Rd w r p) (hp : p ≤ 900000) :
    Calls Tryd.prog 69 #[.pointer (some ⟨r, 0, none⟩)] w fun e w' => ∃ x : Int, e = .returned (.int .i64 x) ∧ BigN x ∧ Turned r p 2 w w' := by
  have H := Lib.hid h
  clear h
  go_enter Tryd.func69, Tryd.ntmps69
  go_wp2_with fail
  refine (pick_t r p 16 w H.out (by omega)).mono ?_
  rintro e w1 ⟨x, rfl, x0, x1, ht1⟩
  have HT := Lib.hid ht1
  obtain ⟨_, q, q0, q1, hR1⟩ := ht1
  have HR := Lib.hid hR1
  clear hR1 x1
  by_cases hx : x = 0
  · subst hx
    go_wp2_with fail
    refine (num_new r q [-1, 240, 241, 400, 401, 1000000, 9223372036854775807] 7 _ w1 HR.out (by omega) rfl rfl (by simp) (by simp)).mono ?_
    rintro e w2 ⟨y, rfl, hy, ht2⟩
    have HT2 := Lib.hid ht2
    have HY := Lib.hid (show BigN y from by simp at hy; constructor <;> omega)
    clear ht2 hy
    go_wp2
    go_ret
    exact ⟨y, rfl, HY.out, turned_more (turned_two HT.out HR.out HT2.out q0 q1) (by omega)⟩
  · have hx' : (x == 0) = false := by simpa using hx
    go_wp2_with fail
    refine (pick_t r q 30 w1 HR.out (by omega)).mono ?_
    rintro e w2 ⟨y, rfl, y0, y1, ht2⟩
    have HT2 := Lib.hid ht2
    have HY := Lib.hid (show BigN y from by constructor <;> omega)
    clear ht2 y0 y1
    go_wp2
    go_ret
    exact ⟨y, rfl, HY.out, turned_more (turned_two HT.out HR.out HT2.out q0 q1) (by omega)⟩

theorem DrawProgressionSet_t (sp : Option Addr) (n cap : Nat) (w : World) (h : Code w sp n cap) :
    Calls Tryd.prog 32 #[.slice sp n cap] w fun e w' => ∃ a b : Int, e = .returned (.tuple #[.int .i64 a, .int .i64 b]) ∧ BigN a ∧ BigN b ∧ Below w.heap.size w w' := by
  have H := Lib.hid h
  clear h
  go_enter Tryd.func32, Tryd.ntmps32
  go_wp2_with fail
  refine (l17Open_t sp n cap w H.out).mono ?_
  rintro e w1 ⟨r, rfl, hr, hR, hb1⟩
  have HR := Lib.hid hR
  have HB := Lib.hid hb1
  clear hR
  go_wp2_with fail
  refine (l7Number_t r 0 w1 HR.out (by omega)).mono ?_
  rintro e w2 ⟨a, rfl, ha, ht2⟩
  have HA := Lib.hid ha
  have HT2 := Lib.hid ht2
  obtain ⟨_, q2, q20, q21, hR2⟩ := ht2
  have HR2 := Lib.hid hR2
  clear hR2 ha
  go_wp2_with fail
  refine (l7Number_t r q2 w2 HR2.out (by omega)).mono ?_
  rintro e w3 ⟨b, rfl, hb, ht3⟩
  have HBB := Lib.hid hb
  have HT3 := Lib.hid (turned_two HT2.out HR2.out ht3 (by omega) (by omega))
  clear ht3 hb
  go_wp2
  go_returns
  exact ⟨a, b, rfl, HA.out, HBB.out, opened_below HB.out hr HT3.out⟩
end Go.Proofs.YtpheihejgnlanaaDoor
