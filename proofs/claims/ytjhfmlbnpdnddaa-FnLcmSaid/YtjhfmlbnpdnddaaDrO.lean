/- What the model draws as the arguments of the functions of chapter 5. -/
import Derived.Test.YtjhfmlbnpdnddaaDrN
namespace Go.Proofs.Ytjhfmlbnpdnddaa
open Go.RowKit

def Big (x : Int) : Prop := -9223372036854775808 ≤ x ∧ x ≤ 9223372036854775807
def Bet (lo hi x : Int) : Prop := lo ≤ x ∧ x ≤ hi
theorem open_below {w w1 w2 : World} {r : Nat} {p K : Int} (hb : Below w.heap.size w w1) (hr : w.heap.size ≤ r) (ht : Turned r p K w1 w2) : Below w.heap.size w w2 :=
  hb.trans (below_only ht.1 hb.size hr)

theorem DrawGcdOf_t (sp : Option Addr) (n cap : Nat) (w : World) (h : Code w sp n cap) :
    Calls Try.prog 74 #[.slice sp n cap] w fun e w' => ∃ a b : Int, e = .returned (.tuple #[.int .i64 a, .int .i64 b]) ∧ Big a ∧ Big b ∧ Below w.heap.size w w' := by
  have H := Lib.hid h
  clear h
  go_enter Try.func74, Try.ntmps74
  go_wp2_with fail
  refine (l17Open_t sp n cap w H.out).mono ?_
  rintro e w1 ⟨r, rfl, hr, hR, hb1⟩
  have HR := Lib.hid hR
  have HB := Lib.hid hb1
  clear hR
  go_wp2_with fail
  refine (l5Draw_t r 0 w1 HR.out (by omega)).mono ?_
  rintro e w2 ⟨a, rfl, a0, a1, ht2⟩
  have HA := Lib.hid (show Big a from ⟨a0, a1⟩)
  have HT2 := Lib.hid ht2
  obtain ⟨_, q2, q20, q21, hR2⟩ := ht2
  have HR2 := Lib.hid hR2
  clear hR2 a0 a1
  go_wp2_with fail
  refine (l5Draw_t r q2 w2 HR2.out (by omega)).mono ?_
  rintro e w3 ⟨b, rfl, b0, b1, ht3⟩
  have HBB := Lib.hid (show Big b from ⟨b0, b1⟩)
  have HT3 := Lib.hid (turned_two HT2.out HR2.out ht3 (by omega) (by omega))
  clear ht3 b0 b1
  go_wp2
  go_returns
  exact ⟨a, b, rfl, HA.out, HBB.out, open_below HB.out hr HT3.out⟩

theorem DrawBezoutOf_t (sp : Option Addr) (n cap : Nat) (w : World) (h : Code w sp n cap) :
    Calls Try.prog 25 #[.slice sp n cap] w fun e w' => ∃ a b : Int, e = .returned (.tuple #[.int .i64 a, .int .i64 b]) ∧ Big a ∧ Big b ∧ Below w.heap.size w w' := by
  have H := Lib.hid h
  clear h
  go_enter Try.func25, Try.ntmps25
  go_wp2_with fail
  refine (DrawGcdOf_t sp n cap w H.out).mono ?_
  rintro e w1 ⟨a, b, rfl, ha, hb, hb1⟩
  have HA := Lib.hid ha
  have HB := Lib.hid hb
  clear ha hb
  go_wp2
  go_returns
  exact ⟨a, b, rfl, HA.out, HB.out, hb1⟩

theorem DrawFloorDiv_t (sp : Option Addr) (n cap : Nat) (w : World) (h : Code w sp n cap) :
    Calls Try.prog 33 #[.slice sp n cap] w fun e w' => ∃ a b : Int, e = .returned (.tuple #[.int .i64 a, .int .i64 b]) ∧ Big a ∧ Big b ∧ Below w.heap.size w w' := by
  have H := Lib.hid h
  clear h
  go_enter Try.func33, Try.ntmps33
  go_wp2_with fail
  refine (l17Open_t sp n cap w H.out).mono ?_
  rintro e w1 ⟨r, rfl, hr, hR, hb1⟩
  have HR := Lib.hid hR
  have HB := Lib.hid hb1
  clear hR
  go_wp2_with fail
  refine (l5Draw_t r 0 w1 HR.out (by omega)).mono ?_
  rintro e w2 ⟨a, rfl, a0, a1, ht2⟩
  have HA := Lib.hid (show Big a from ⟨a0, a1⟩)
  have HT2 := Lib.hid ht2
  obtain ⟨_, q2, q20, q21, hR2⟩ := ht2
  have HR2 := Lib.hid hR2
  clear hR2 a0 a1
  go_wp2_with fail
  refine (pick_t r q2 8 w2 HR2.out (by omega)).mono ?_
  rintro e w3 ⟨x, rfl, x0, x1, ht3⟩
  have HT3 := Lib.hid (turned_two HT2.out HR2.out ht3 (by omega) (by omega))
  obtain ⟨_, q3, q30, q31, hR3⟩ := ht3
  have HR3 := Lib.hid hR3
  clear hR3 x1
  by_cases hx : x = 0
  · subst hx
    go_wp2_with fail
    refine (l5Draw_t r q3 w3 HR3.out (by omega)).mono ?_
    rintro e w4 ⟨b, rfl, b0, b1, ht4⟩
    have HBB := Lib.hid (show Big b from ⟨b0, b1⟩)
    have HT4 := Lib.hid (turned_two HT3.out HR3.out ht4 (by omega) (by omega))
    clear ht4 b0 b1
    go_wp2
    go_returns
    exact ⟨a, b, rfl, HA.out, HBB.out, open_below HB.out hr HT4.out⟩
  · have hx' : (x == 0) = false := by simpa using hx
    go_wp2_with fail
    refine (pick_t r q3 20 w3 HR3.out (by omega)).mono ?_
    rintro e w4 ⟨b, rfl, b0, b1, ht4⟩
    have b2 : b < 20 := by omega
    have HT4 := Lib.hid (turned_two HT3.out HR3.out ht4 (by omega) (by omega))
    clear ht4 b1
    go_wp2
    go_returns
    exact ⟨a, 1 + b, rfl, HA.out, ⟨by omega, by omega⟩, open_below HB.out hr HT4.out⟩

theorem DrawInverseMod_t (sp : Option Addr) (n cap : Nat) (w : World) (h : Code w sp n cap) :
    Calls Try.prog 38 #[.slice sp n cap] w fun e w' => ∃ a b : Int, e = .returned (.tuple #[.int .i64 a, .int .i64 b]) ∧ Big a ∧ Bet (-1) 10001 b ∧ Below w.heap.size w w' := by
  have H := Lib.hid h
  clear h
  go_enter Try.func38, Try.ntmps38
  go_wp2_with fail
  refine (l17Open_t sp n cap w H.out).mono ?_
  rintro e w1 ⟨r, rfl, hr, hR, hb1⟩
  have HR := Lib.hid hR
  have HB := Lib.hid hb1
  clear hR
  go_wp2_with fail
  refine (l5Draw_t r 0 w1 HR.out (by omega)).mono ?_
  rintro e w2 ⟨a, rfl, a0, a1, ht2⟩
  have HA := Lib.hid (show Big a from ⟨a0, a1⟩)
  have HT2 := Lib.hid ht2
  obtain ⟨_, q2, q20, q21, hR2⟩ := ht2
  have HR2 := Lib.hid hR2
  clear hR2 a0 a1
  go_wp2_with fail
  refine (l5Module_t r q2 w2 HR2.out (by omega)).mono ?_
  rintro e w3 ⟨b, rfl, b0, b1, ht3⟩
  have HBB := Lib.hid (show Bet (-1) 10001 b from ⟨b0, b1⟩)
  have HT3 := Lib.hid (turned_two HT2.out HR2.out ht3 (by omega) (by omega))
  clear ht3 b0 b1
  go_wp2
  go_returns
  exact ⟨a, b, rfl, HA.out, HBB.out, open_below HB.out hr HT3.out⟩

theorem DrawSolve_t (sp : Option Addr) (n cap : Nat) (w : World) (h : Code w sp n cap) :
    Calls Try.prog 42 #[.slice sp n cap] w fun e w' => ∃ a b m : Int, e = .returned (.tuple #[.int .i64 a, .int .i64 b, .int .i64 m]) ∧ Big a ∧ Big b ∧ Bet (-1) 10001 m ∧ Below w.heap.size w w' := by
  have H := Lib.hid h
  clear h
  go_enter Try.func42, Try.ntmps42
  go_wp2_with fail
  refine (l17Open_t sp n cap w H.out).mono ?_
  rintro e w1 ⟨r, rfl, hr, hR, hb1⟩
  have HR := Lib.hid hR
  have HB := Lib.hid hb1
  clear hR
  go_wp2_with fail
  refine (l5Draw_t r 0 w1 HR.out (by omega)).mono ?_
  rintro e w2 ⟨a, rfl, a0, a1, ht2⟩
  have HA := Lib.hid (show Big a from ⟨a0, a1⟩)
  have HT2 := Lib.hid ht2
  obtain ⟨_, q2, q20, q21, hR2⟩ := ht2
  have HR2 := Lib.hid hR2
  clear hR2 a0 a1
  go_wp2_with fail
  refine (l5Draw_t r q2 w2 HR2.out (by omega)).mono ?_
  rintro e w3 ⟨b, rfl, b0, b1, ht3⟩
  have HBB := Lib.hid (show Big b from ⟨b0, b1⟩)
  have HT3 := Lib.hid (turned_two HT2.out HR2.out ht3 (by omega) (by omega))
  obtain ⟨_, q3, q30, q31, hR3⟩ := ht3
  have HR3 := Lib.hid hR3
  clear hR3 b0 b1
  go_wp2_with fail
  refine (l5Module_t r q3 w3 HR3.out (by omega)).mono ?_
  rintro e w4 ⟨m, rfl, m0, m1, ht4⟩
  have HM := Lib.hid (show Bet (-1) 10001 m from ⟨m0, m1⟩)
  have HT4 := Lib.hid (turned_two HT3.out HR3.out ht4 (by omega) (by omega))
  clear ht4 m0 m1
  go_wp2
  go_returns
  exact ⟨a, b, m, rfl, HA.out, HBB.out, HM.out, open_below HB.out hr HT4.out⟩

theorem wrap_big (x : Int) : Big (IntKind.i64.wrap x) := by
  unfold Big
  rw [IntKind.wrap_i64]
  omega

theorem DrawCombine_t (sp : Option Addr) (n cap : Nat) (w : World) (h : Code w sp n cap) :
    Calls Try.prog 45 #[.slice sp n cap] w fun e w' => ∃ a m b k : Int, e = .returned (.tuple #[.int .i64 a, .int .i64 m, .int .i64 b, .int .i64 k]) ∧ Big a ∧ Bet (-1) 10001 m ∧ Big b ∧ Bet (-1) 10001 k ∧ Below w.heap.size w w' := by
  have H := Lib.hid h
  clear h
  go_enter Try.func45, Try.ntmps45
  go_wp2_with fail
  refine (l17Open_t sp n cap w H.out).mono ?_
  rintro e w1 ⟨r, rfl, hr, hR, hb1⟩
  have HR := Lib.hid hR
  have HB := Lib.hid hb1
  clear hR
  go_wp2_with fail
  refine (l5Draw_t r 0 w1 HR.out (by omega)).mono ?_
  rintro e w2 ⟨a, rfl, a0, a1, ht2⟩
  have HA := Lib.hid (show Big a from ⟨a0, a1⟩)
  have HT2 := Lib.hid ht2
  obtain ⟨_, q2, q20, q21, hR2⟩ := ht2
  have HR2 := Lib.hid hR2
  clear hR2 a0 a1
  go_wp2_with fail
  refine (l5Module_t r q2 w2 HR2.out (by omega)).mono ?_
  rintro e w3 ⟨m, rfl, m0, m1, ht3⟩
  have HM := Lib.hid (show Bet (-1) 10001 m from ⟨m0, m1⟩)
  have HT3 := Lib.hid (turned_two HT2.out HR2.out ht3 (by omega) (by omega))
  obtain ⟨_, q3, q30, q31, hR3⟩ := ht3
  have HR3 := Lib.hid hR3
  clear hR3 m0 m1
  go_wp2_with fail
  refine (l5Draw_t r q3 w3 HR3.out (by omega)).mono ?_
  rintro e w4 ⟨b, rfl, b0, b1, ht4⟩
  have HBB := Lib.hid (show Big b from ⟨b0, b1⟩)
  have HT4 := Lib.hid (turned_two HT3.out HR3.out ht4 (by omega) (by omega))
  obtain ⟨_, q4, q40, q41, hR4⟩ := ht4
  have HR4 := Lib.hid hR4
  clear hR4 b0 b1
  go_wp2_with fail
  refine (pick_t r q4 2 w4 HR4.out (by omega)).mono ?_
  rintro e w5 ⟨x, rfl, x0, x1, ht5⟩
  have HT5 := Lib.hid (turned_two HT4.out HR4.out ht5 (by omega) (by omega))
  obtain ⟨_, q5, q50, q51, hR5⟩ := ht5
  have HR5 := Lib.hid hR5
  clear hR5 x1
  by_cases hx : x = 0
  · subst hx
    obtain ⟨s, hs⟩ : ∃ s, IntKind.i64.wrap (a + m) = s := ⟨_, rfl⟩
    have HS := Lib.hid (show Big s from by rw [← hs]; exact wrap_big _)
    go_wp2_with fail
    refine (l5Module_t r q5 w5 HR5.out (by omega)).mono ?_
    rintro e w6 ⟨k, rfl, k0, k1, ht6⟩
    have HK := Lib.hid (show Bet (-1) 10001 k from ⟨k0, k1⟩)
    have HT6 := Lib.hid (turned_two HT5.out HR5.out ht6 (by omega) (by omega))
    clear ht6 k0 k1
    go_wp2
    go_returns
    exact ⟨a, m, _, k, rfl, HA.out, HM.out, (by first | exact HS.out | exact wrap_big _), HK.out, open_below HB.out hr HT6.out⟩
  · have hx' : (x == 0) = false := by simpa using hx
    go_wp2_with fail
    refine (l5Module_t r q5 w5 HR5.out (by omega)).mono ?_
    rintro e w6 ⟨k, rfl, k0, k1, ht6⟩
    have HK := Lib.hid (show Bet (-1) 10001 k from ⟨k0, k1⟩)
    have HT6 := Lib.hid (turned_two HT5.out HR5.out ht6 (by omega) (by omega))
    clear ht6 k0 k1
    go_wp2
    go_returns
    exact ⟨a, m, b, k, rfl, HA.out, HM.out, HBB.out, HK.out, open_below HB.out hr HT6.out⟩

theorem DrawLeast_t (sp : Option Addr) (n cap : Nat) (w : World) (h : Code w sp n cap) :
    Calls Try.prog 48 #[.slice sp n cap] w fun e w' => ∃ a b c : Int, e = .returned (.tuple #[.int .i64 a, .int .i64 b, .int .i64 c]) ∧ Bet (-101) 101 a ∧ Bet (-101) 101 b ∧ Bet (-10001) 10001 c ∧ Below w.heap.size w w' := by
  have H := Lib.hid h
  clear h
  go_enter Try.func48, Try.ntmps48
  go_wp2_with fail
  refine (l17Open_t sp n cap w H.out).mono ?_
  rintro e w1 ⟨r, rfl, hr, hR, hb1⟩
  have HR := Lib.hid hR
  have HB := Lib.hid hb1
  clear hR
  go_wp2_with fail
  refine (l5Coef_t r 0 w1 HR.out (by omega)).mono ?_
  rintro e w2 ⟨a, rfl, a0, a1, ht2⟩
  have HA := Lib.hid (show Bet (-101) 101 a from ⟨a0, a1⟩)
  have HT2 := Lib.hid ht2
  obtain ⟨_, q2, q20, q21, hR2⟩ := ht2
  have HR2 := Lib.hid hR2
  clear hR2 a0 a1
  go_wp2_with fail
  refine (l5Coef_t r q2 w2 HR2.out (by omega)).mono ?_
  rintro e w3 ⟨b, rfl, b0, b1, ht3⟩
  have HBB := Lib.hid (show Bet (-101) 101 b from ⟨b0, b1⟩)
  have HT3 := Lib.hid (turned_two HT2.out HR2.out ht3 (by omega) (by omega))
  obtain ⟨_, q3, q30, q31, hR3⟩ := ht3
  have HR3 := Lib.hid hR3
  clear hR3 b0 b1
  go_wp2_with fail
  refine (pick_t r q3 16 w3 HR3.out (by omega)).mono ?_
  rintro e w4 ⟨x, rfl, x0, x1, ht4⟩
  have HT4 := Lib.hid (turned_two HT3.out HR3.out ht4 (by omega) (by omega))
  obtain ⟨_, q4, q40, q41, hR4⟩ := ht4
  have HR4 := Lib.hid hR4
  clear hR4 x1
  by_cases hx : x = 0
  · subst hx
    go_wp2_with fail
    refine (num_new r q4 [10000, 10001, -10000, -10001, 0] 5 _ w4 HR4.out (by omega) rfl rfl (by simp) (by simp)).mono ?_
    rintro e w5 ⟨c, rfl, hc, ht5⟩
    have HC := Lib.hid (show Bet (-10001) 10001 c from by unfold Bet; simp at hc; omega)
    have HT5 := Lib.hid (turned_two HT4.out HR4.out ht5 (by omega) (by omega))
    clear ht5 hc
    go_wp2
    go_returns
    exact ⟨a, b, c, rfl, HA.out, HBB.out, HC.out, open_below HB.out hr HT5.out⟩
  · have hx' : (x == 0) = false := by simpa using hx
    go_wp2_with fail
    refine (pick_t r q4 256 w4 HR4.out (by omega)).mono ?_
    rintro e w5 ⟨c, rfl, c0, c1, ht5⟩
    have HT5 := Lib.hid (turned_two HT4.out HR4.out ht5 (by omega) (by omega))
    have c2 : c < 256 := by omega
    clear ht5 c1
    go_wp2
    go_returns
    exact ⟨a, b, c - 60, rfl, HA.out, HBB.out, ⟨by omega, by omega⟩, open_below HB.out hr HT5.out⟩

theorem DrawCount_t (sp : Option Addr) (n cap : Nat) (w : World) (h : Code w sp n cap) :
    Calls Try.prog 51 #[.slice sp n cap] w fun e w' => ∃ a b c : Int, e = .returned (.tuple #[.int .i64 a, .int .i64 b, .int .i64 c]) ∧ Bet (-101) 101 a ∧ Bet (-101) 101 b ∧ Bet (-10001) 10001 c ∧ Below w.heap.size w w' := by
  have hcap := h.1
  have hcap2 := h.2.1
  have H := Lib.hid h
  clear h
  go_enter Try.func51, Try.ntmps51
  go_wp2_with fail
  refine (DrawLeast_t sp n cap w H.out).mono ?_
  rintro e w1 ⟨a, b, c, rfl, ⟨a0, a1⟩, ⟨b0, b1⟩, hc, hb1⟩
  have HC := Lib.hid hc
  clear hc
  go_wp2
  all_goals
    go_returns
    exact ⟨_, _, c, rfl, ⟨by omega, by omega⟩, ⟨by omega, by omega⟩, HC.out, hb1⟩

theorem DrawGap_t (sp : Option Addr) (n cap : Nat) (w : World) (h : Code w sp n cap) :
    Calls Try.prog 54 #[.slice sp n cap] w fun e w' => ∃ a b : Int, e = .returned (.tuple #[.int .i64 a, .int .i64 b]) ∧ Bet (-101) 101 a ∧ Bet (-101) 101 b ∧ Below w.heap.size w w' := by
  have H := Lib.hid h
  clear h
  go_enter Try.func54, Try.ntmps54
  go_wp2_with fail
  refine (l17Open_t sp n cap w H.out).mono ?_
  rintro e w1 ⟨r, rfl, hr, hR, hb1⟩
  have HR := Lib.hid hR
  have HB := Lib.hid hb1
  clear hR
  go_wp2_with fail
  refine (l5Coef_t r 0 w1 HR.out (by omega)).mono ?_
  rintro e w2 ⟨a, rfl, a0, a1, ht2⟩
  have HT2 := Lib.hid ht2
  obtain ⟨_, q2, q20, q21, hR2⟩ := ht2
  have HR2 := Lib.hid hR2
  clear hR2
  go_wp2_with fail
  refine (l5Coef_t r q2 w2 HR2.out (by omega)).mono ?_
  rintro e w3 ⟨b, rfl, b0, b1, ht3⟩
  have HT3 := Lib.hid (turned_two HT2.out HR2.out ht3 (by omega) (by omega))
  obtain ⟨_, q3, q30, q31, hR3⟩ := ht3
  have HR3 := Lib.hid hR3
  clear hR3
  go_wp2_with fail
  refine (pick_t r q3 4 w3 HR3.out (by omega)).mono ?_
  rintro e w4 ⟨x, rfl, x0, x1, ht4⟩
  have HT4 := Lib.hid (turned_two HT3.out HR3.out ht4 (by omega) (by omega))
  clear ht4
  go_wp2
  all_goals
    go_returns
    exact ⟨_, _, rfl, ⟨by omega, by omega⟩, ⟨by omega, by omega⟩, open_below HB.out hr HT4.out⟩

end Go.Proofs.Ytjhfmlbnpdnddaa
