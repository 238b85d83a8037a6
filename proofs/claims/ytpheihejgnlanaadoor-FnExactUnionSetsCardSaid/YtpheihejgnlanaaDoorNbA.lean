/- Small functions of chapter 5, and Euclid's rule for bare numbers. -/
import Derived.Test.YtpheihejgnlanaaDoorGcd
import Derived.Test.YtpheihejgnlanaaDoorSpecB
import Derived.Test.YtpheihejgnlanaaDoorNumC
namespace Go.Proofs.YtpheihejgnlanaaDoor
open Go.RowKit

def numB (n : Int) : Bool := wlB n 100000
def modB (n : Int) : Bool := inB n 1 10000
def pcB (n : Int) : Bool := inB n 1 100
theorem numB_yes {n : Int} (h : numB n = true) : -100000 ≤ n ∧ n ≤ 100000 := by simpa [numB, wlB] using h
theorem modB_yes {n : Int} (h : modB n = true) : 1 ≤ n ∧ n ≤ 10000 := by simpa [modB, inB] using h
theorem pcB_yes {n : Int} (h : pcB n = true) : 1 ≤ n ∧ n ≤ 100 := by simpa [pcB, inB] using h

theorem isPositiveCoef_any (n : Int) (w : World) :
    Calls Tryd.prog 76 #[.int .i64 n] w fun e w' => e = .returned (.bool (pcB n)) ∧ w = w' := by
  go_enter Tryd.func76, Tryd.ntmps76
  go_wp2
  all_goals (go_ret; exact ⟨ret_bool (by simp only [pcB, inB]; simp; try omega), rfl⟩)
theorem isPositiveCoef_is (n : Int) (t : Bool) (w : World) (h : pcB n = t) :
    Calls Tryd.prog 76 #[.int .i64 n] w fun e w' => e = .returned (.bool t) ∧ w = w' :=
  (isPositiveCoef_any n w).mono fun _ _ ⟨he, hw⟩ => ⟨he.trans (ret_bool h), hw⟩

theorem withinLimit_is (n l : Int) (t : Bool) (w : World) (h0 : 0 ≤ l) (h1 : l ≤ 100000) (h : wlB n l = t) :
    Calls Tryd.prog 78 #[.int .i64 n, .int .i64 l] w fun e w' => e = .returned (.bool t) ∧ w = w' :=
  (withinLimit_any n l w h0 h1).mono fun _ _ ⟨he, hw⟩ => ⟨he.trans (ret_bool h), hw⟩

set_option maxHeartbeats 400000 in
theorem size_any (n : Int) (w : World) (h0 : -1000000000000 ≤ n) (h1 : n ≤ 1000000000000) :
    Calls Tryd.prog 86 #[.int .i64 n] w fun e w' => e = .returned (.int .i64 n.natAbs) ∧ w = w' := by
  go_enter Tryd.func86, Tryd.ntmps86
  go_wp2
  all_goals (go_ret; exact ⟨ret_int (by omega), rfl⟩)

theorem emod_tmod {n d : Int} (hd : 0 < d) : n % d = if n.tmod d < 0 then n.tmod d + d else n.tmod d := by
  have e := Int.tmod_add_mul_tdiv n d
  have h : (n.tmod d).natAbs < d.natAbs := by
    rw [Int.natAbs_tmod]
    exact Nat.mod_lt _ (by omega)
  have e2 : n % d = (n.tmod d) % d := by
    conv => lhs; rw [← e]
    exact Int.add_mul_emod_self_left _ _ _
  rw [e2]
  split
  · rw [← Int.add_emod_right]
    exact Int.emod_eq_of_lt (by omega) (by omega)
  · exact Int.emod_eq_of_lt (by omega) (by omega)
theorem tmod_small {n d : Int} (hd : 0 < d) : -d < n.tmod d ∧ n.tmod d < d := by
  have h : (n.tmod d).natAbs < d.natAbs := by
    rw [Int.natAbs_tmod]
    exact Nat.mod_lt _ (by omega)
  omega

set_option maxHeartbeats 400000 in
theorem remainder_any (n d : Int) (w : World) (hd : 0 < d) (hd1 : d ≤ 1000000000000) :
    Calls Tryd.prog 94 #[.int .i64 n, .int .i64 d] w fun e w' => e = .returned (.int .i64 (n % d)) ∧ w = w' := by
  have hd0 : ¬ d = 0 := by omega
  obtain ⟨t0, t1⟩ := tmod_small (n := n) hd
  have HM := Lib.hid (emod_tmod (n := n) hd)
  go_enter Tryd.func94, Tryd.ntmps94
  go_wp2
  all_goals (go_ret; exact ⟨ret_int (by rw [HM.out]; split <;> omega), rfl⟩)

theorem floor_tdiv {n d : Int} (hd : 0 < d) : (n - n % d).tdiv d = n / d := by
  have e := Int.emod_add_mul_ediv n d
  have : n - n % d = d * (n / d) := by omega
  rw [this, Int.mul_tdiv_cancel_left _ (by omega)]

set_option maxHeartbeats 400000 in
theorem divided_any (n d : Int) (w : World) (hd : 0 < d) (hd1 : d ≤ 1000000000000) (h0 : -1000000000000 ≤ n) (h1 : n ≤ 1000000000000) :
    Calls Tryd.prog 79 #[.int .i64 n, .int .i64 d] w fun e w' => e = .returned (.tuple #[.int .i64 (n / d), .int .i64 (n % d)]) ∧ w = w' := by
  have hd0 : ¬ d = 0 := by omega
  have hm0 := Int.emod_nonneg n hd0
  have hm1 := Int.emod_lt_of_pos n hd
  have hf := floor_tdiv (n := n) hd
  have q0 : -1000000000000 ≤ n / d := by
    by_cases hn : 0 ≤ n
    · have := Int.ediv_nonneg hn (Int.le_of_lt hd); omega
    · have : n ≤ n / d := (Int.le_ediv_iff_mul_le hd).2 (by
        have : n * d ≤ n * 1 := Int.mul_le_mul_of_nonpos_left (by omega) (by omega)
        omega)
      omega
  have q1 : n / d ≤ 1000000000000 := by
    by_cases hn : 0 ≤ n
    · have := Int.ediv_le_self d hn; omega
    · have h2 : n / d < 0 := Int.ediv_neg_of_neg_of_pos (by omega) hd
      omega
  go_enter Tryd.func79, Tryd.ntmps79
  go_wp2_with (go_at_call 94; refine (remainder_any _ _ _ hd hd1).mono ?_; rintro e w' ⟨rfl, rfl⟩)
  go_ret2
  exact ⟨rfl, rfl⟩

set_option maxHeartbeats 400000 in
theorem divided_zero (n : Int) (w : World) :
    Calls Tryd.prog 79 #[.int .i64 n, .int .i64 0] w fun e w' => e = .panicked [{ v := .iface 9 (.string ⟨#[100, 105, 118, 105, 115, 105, 111, 110, 32, 98, 121, 32, 110, 111, 116, 104, 105, 110, 103]⟩), recovered := false }] ∧ w = w' := by
  go_enter Tryd.func79, Tryd.ntmps79
  go_wp2
  exact ⟨rfl, rfl, rfl⟩

set_option maxHeartbeats 400000 in
theorem restBy_some (n d : Int) (w : World) (hd : d ≠ 0) (h0 : -1000000 ≤ d) (h1 : d ≤ 1000000) :
    Calls Tryd.prog 88 #[.int .i64 n, .int .i64 d] w fun e w' => e = .returned (.tuple #[.int .i64 (n.tmod d), .bool true]) ∧ w = w' := by
  obtain ⟨t0, t1, _⟩ := tmod_bd (a := n) hd h0 h1
  go_enter Tryd.func88, Tryd.ntmps88
  go_wp2
  go_ret2
  exact ⟨rfl, rfl⟩
theorem restBy_none (n : Int) (w : World) :
    Calls Tryd.prog 88 #[.int .i64 n, .int .i64 0] w fun e w' => e = .returned (.tuple #[.int .i64 0, .bool false]) ∧ w = w' := by
  go_enter Tryd.func88, Tryd.ntmps88
  go_wp2
  go_ret2
  exact ⟨rfl, rfl⟩

def Gn (a b : Int) (W : World) (x y : Value) (w : World) : Prop := Gc a b x y ∧ W = w

set_option maxHeartbeats 400000 in
theorem euclidInt_any (a b : Int) (w : World) (a0 : -1000000 ≤ a) (a1 : a ≤ 1000000) (b0 : -1000000 ≤ b) (b1 : b ≤ 1000000) :
    Calls Tryd.prog 87 #[.int .i64 a, .int .i64 b, .func (.func 88) #[] #[]] w fun e w' => (∃ c : Int, e = .returned (.int .i64 c) ∧ c.natAbs = Int.gcd a b ∧ -1000000 ≤ c ∧ c ≤ 1000000) ∧ w = w' := by
  go_enter Tryd.func87, Tryd.ntmps87
  go_wp2
  go_loopw [0, 1] (fun x y wr => Gn a b w x y wr) (fun _ y _ => (intOf y).natAbs)
  case atStart => exact ⟨⟨a, b, rfl, rfl, a0, a1, b0, b1, rfl⟩, rfl⟩
  case round =>
    obtain ⟨⟨c, d, rfl, rfl, c0, c1, d0, d1, hg⟩, rfl⟩ := hrel
    by_cases hd : d = 0
    · subst hd
      have hr : c.natAbs = Int.gcd a b := by rw [← hg]; simp
      have HR := Lib.hid hr
      clear hr hg
      go_wp2_with (go_at_call 88; refine (restBy_none _ _).mono ?_; rintro e w' ⟨rfl, rfl⟩)
      go_ret
      exact ⟨⟨c, rfl, HR.out, c0, c1⟩, rfl⟩
    · have hs := gcd_step c d
      rw [hg] at hs
      obtain ⟨t0, t1, t2⟩ := tmod_bd (a := c) hd d0 d1
      have HS := Lib.hid hs
      clear hg hs
      go_wp2_with (go_at_call 88; refine (restBy_some _ _ _ hd d0 d1).mono ?_; rintro e w' ⟨rfl, rfl⟩)
      go_roundw
      case rel => exact ⟨⟨d, _, rfl, rfl, d0, d1, t0, t1, HS.out⟩, rfl⟩
      case measure => exact t2

set_option maxHeartbeats 400000 in
theorem commonDivisor_any (a b : Int) (w : World) (a0 : -1000000 ≤ a) (a1 : a ≤ 1000000) (b0 : -1000000 ≤ b) (b1 : b ≤ 1000000) :
    Calls Tryd.prog 62 #[.int .i64 a, .int .i64 b] w fun e w' => e = .returned (.int .i64 (Int.gcd a b : Nat)) ∧ Below w.heap.size w w' := by
  go_enter Tryd.func62, Tryd.ntmps62
  go_wp2_with fail
  refine (euclidInt_any a b w a0 a1 b0 b1).mono ?_
  rintro e w' ⟨⟨c, rfl, hc, c0, c1⟩, rfl⟩
  go_wp2_with (go_at_call 86; refine (size_any _ _ (by omega) (by omega)).mono ?_; rintro e w' ⟨rfl, rfl⟩)
  go_ret
  exact ⟨ret_int (by rw [← hc]), Below.refl _ _⟩

end Go.Proofs.YtpheihejgnlanaaDoor
