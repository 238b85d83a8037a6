/- The greatest common divisor, as both programs reckon it. -/
import Derived.Test.YtpheihejgnlanaaDoorBas
import Derived.Deep.QuietTactic
import Derived.BigQuiet
namespace Go.Proofs.YtpheihejgnlanaaDoor
open Go.RowKit

theorem tmod_bd {a b M : Int} (hb : b ≠ 0) (h0 : -M ≤ b) (h1 : b ≤ M) : -M ≤ a.tmod b ∧ a.tmod b ≤ M ∧ (a.tmod b).natAbs < b.natAbs := by
  have h : (a.tmod b).natAbs < b.natAbs := by
    rw [Int.natAbs_tmod]
    exact Nat.mod_lt _ (by omega)
  omega

theorem gcd_step (a b : Int) : Int.gcd b (a.tmod b) = Int.gcd a b := by
  unfold Int.gcd
  rw [Int.natAbs_tmod, Nat.gcd_comm b.natAbs, ← Nat.gcd_rec, Nat.gcd_comm]

theorem gcd_end (a : Int) : ((Int.gcd a 0 : Nat) : Int) = max a (-a) := by
  unfold Int.gcd
  simp
  omega

def Gc (a b : Int) (x y : Value) : Prop := ∃ c d : Int, x = .int .i64 c ∧ y = .int .i64 d ∧ -1000000 ≤ c ∧ c ≤ 1000000 ∧ -1000000 ≤ d ∧ d ≤ 1000000 ∧ Int.gcd c d = Int.gcd a b

set_option maxHeartbeats 400000 in
theorem l1Gcd_any (a b : Int) (w : World) (a0 : -1000000 ≤ a) (a1 : a ≤ 1000000) (b0 : -1000000 ≤ b) (b1 : b ≤ 1000000) :
    Calls Tryd.prog 77 #[.int .i64 a, .int .i64 b] w fun e w' => e = .returned (.int .i64 (Int.gcd a b : Nat)) ∧ w = w' := by
  go_enter Tryd.func77, Tryd.ntmps77
  go_wp2
  go_loop [0, 1] (fun x y => Gc a b x y) (fun _ y => (intOf y).natAbs)
  case atStart => exact ⟨a, b, rfl, rfl, a0, a1, b0, b1, rfl⟩
  case round =>
    obtain ⟨c, d, rfl, rfl, c0, c1, d0, d1, hg⟩ := hrel
    by_cases hd : d = 0
    · subst hd
      have hr : ((Int.gcd a b : Nat) : Int) = max c (-c) := by rw [← hg]; exact gcd_end c
      have HR := Lib.hid hr
      clear hr hg
      go_wp2
      all_goals (go_ret; exact ⟨ret_int (by rw [HR.out]; omega), rfl⟩)
    · have hs := gcd_step c d
      rw [hg] at hs
      obtain ⟨t0, t1, t2⟩ := tmod_bd (a := c) hd d0 d1
      have HS := Lib.hid hs
      clear hg hs
      go_wp2
      go_round
      case rel => exact ⟨d, _, rfl, rfl, d0, d1, t0, t1, HS.out⟩
      case measure => exact t2

end Go.Proofs.YtpheihejgnlanaaDoor
