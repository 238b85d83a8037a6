/- Small functions of chapter 5, and Euclid's rule for bare numbers. -/
import Derived.Test.YtmkflokcficmoaaDoorGcd
import Derived.Test.YtmkflokcficmoaaDoorSpecB
import Derived.Test.YtmkflokcficmoaaDoorNum1
namespace Go.Proofs.YtmkflokcficmoaaDoor
open Go.RowKit

def numB (n : Int) : Bool := wlB n 100000
def modB (n : Int) : Bool := inB n 1 10000
def pcB (n : Int) : Bool := inB n 1 100
theorem numB_yes {n : Int} (h : numB n = true) : -100000 ≤ n ∧ n ≤ 100000 := by simpa [numB, wlB] using h
theorem modB_yes {n : Int} (h : modB n = true) : 1 ≤ n ∧ n ≤ 10000 := by simpa [modB, inB] using h
theorem pcB_yes {n : Int} (h : pcB n = true) : 1 ≤ n ∧ n ≤ 100 := by simpa [pcB, inB] using h

theorem withinLimit_is (n l : Int) (t : Bool) (w : World) (h0 : 0 ≤ l) (h1 : l ≤ 100000) (h : wlB n l = t) :
    Calls Tryd.prog 62 #[.int .i64 n, .int .i64 l] w fun e w' => e = .returned (.bool t) ∧ w = w' :=
  (withinLimit_any n l w h0 h1).mono fun _ _ ⟨he, hw⟩ => ⟨he.trans (ret_bool h), hw⟩

theorem emod_tmod {n d : Int} (hd : 0 < d) : n % d = if n.tmod d < 0 then n.tmod d + d else n.tmod d := by
  have e := Int.tmod_add_mul_tdiv n d
  have h : (n.tmod d).natAbs < d.natAbs := by
    rw [Int.natAbs_tmod]
    exact Nat.mod_lt _ (by omega)
  have e2 : n % d = (n.tmod d) % d := by
    conv => lhs; rw [← e]
    exact Int.add_mul_emod_self_left _ _ _
  rw [e2]
  split
  · rw [← Int.add_emod_right]
    exact Int.emod_eq_of_lt (by omega) (by omega)
  · exact Int.emod_eq_of_lt (by omega) (by omega)
theorem tmod_small {n d : Int} (hd : 0 < d) : -d < n.tmod d ∧ n.tmod d < d := by
  have h : (n.tmod d).natAbs < d.natAbs := by
    rw [Int.natAbs_tmod]
    exact Nat.mod_lt _ (by omega)
  omega

theorem floor_tdiv {n d : Int} (hd : 0 < d) : (n - n % d).tdiv d = n / d := by
  have e := Int.emod_add_mul_ediv n d
  have : n - n % d = d * (n / d) := by omega
  rw [this, Int.mul_tdiv_cancel_left _ (by omega)]

def Gn (a b : Int) (W : World) (x y : Value) (w : World) : Prop := Gc a b x y ∧ W = w

end Go.Proofs.YtmkflokcficmoaaDoor
