/- The program's functions of chapter 5 that need no recovering: congruences, common divisors, gaps, counts. -/
import Derived.Test.YtpheihejgnlanaaDoorNb1
import Derived.Test.YtpheihejgnlanaaDoorNumB
namespace Go.Proofs.YtpheihejgnlanaaDoor
open Go.RowKit

noncomputable def solT (a b m : Int) : Int × Int × Bool := if (numB a && numB b && modB m) = true then solV a b m else (0, 0, false)
noncomputable def invT (a m : Int) : Int × Bool := if (numB a && modB m) = true then invV a m else (0, false)
noncomputable def comT (r m s n : Int) : Int × Int × Bool := if (numB r && modB m && numB s && modB n) = true then comV r m s n else (0, 0, false)
def gcdT (a b : Int) : Int := if (numB a && numB b) = true then (Int.gcd a b : Nat) else -1
def gapT (a b : Int) : Int := if (pcB a && pcB b && decide (Int.gcd a b = 1)) = true then a * b - a - b else -2
def cntT (a b c : Int) : Int := if (pcB a && pcB b && wlB c 10000) = true then (cntV a b c : Nat) else -1
def T3 (t : Int × Int × Bool) : Value := .tuple #[.int .i64 t.1, .int .i64 t.2.1, .bool t.2.2]
def T2 (t : Int × Bool) : Value := .tuple #[.int .i64 t.1, .bool t.2]

theorem inv_sol {a m x : Int} (h : IsInv a m x) : IsSol a 1 m x m := by
  have hg := isInv_gcd h
  exact ⟨by rw [hg]; simp, h.1, h.2.1, h.2.2⟩

/-- A number and its inverse, by the congruence. -/
theorem inv_T (a m : Int) : invT a m = ((solT a 1 m).1, (solT a 1 m).2.2) := by
  have h1 : numB 1 = true := by decide
  unfold invT solT
  rw [h1, Bool.and_true]
  by_cases h : (numB a && modB m) = true
  · rw [if_pos h, if_pos h]
    simp only [Bool.and_eq_true] at h
    have hm := modB_yes h.2
    by_cases hg : Int.gcd a m = 1
    · obtain ⟨x, hx⟩ := isInv_exists (show 0 < m by omega) hg
      rw [invV_yes hx, solV_yes (by omega) (inv_sol hx)]
    · rw [invV_no hg, solV_no]
      intro hd
      have : Int.gcd a m ∣ 1 := Int.ofNat_dvd.1 (by simpa using hd)
      exact hg (Nat.dvd_one.1 this)
  · rw [if_neg h, if_neg h]

end Go.Proofs.YtpheihejgnlanaaDoor
