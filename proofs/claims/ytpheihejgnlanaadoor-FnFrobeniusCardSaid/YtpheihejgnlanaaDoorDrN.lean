/- What the model draws as numbers, moduli and coefficients. -/
import Derived.Test.YtpheihejgnlanaaDoorCode
namespace Go.Proofs.YtpheihejgnlanaaDoor
open Go.RowKit

def IntB (r : Nat) (p K lo hi : Int) (w : World) (e : Ending) (w' : World) : Prop := ∃ x : Int, e = .returned (.int .i64 x) ∧ lo ≤ x ∧ x ≤ hi ∧ Turned r p K w w'

theorem prod_bd {y x A X : Int} (h0 : -A ≤ y) (h1 : y ≤ A) (g0 : -X ≤ x) (g1 : x ≤ X) (hA : 0 ≤ A) : ∃ p, y * x = p ∧ -(A * X) ≤ p ∧ p ≤ A * X :=
  ⟨_, rfl, mul_bd2 h0 h1 g0 g1 hA⟩

set_option maxHeartbeats 1000000 in
theorem l5Coef_t (r : Nat) (p : Int) (w : World) (h : Rd w r p) (hp : p ≤ 900000) :
    Calls Tryd.prog 74 #[.pointer (some ⟨r, 0, none⟩)] w (IntB r p 3 (-101) 101 w) := by
  have H := Lib.hid h
  clear h
  go_enter Tryd.func74, Tryd.ntmps74
  go_wp2_with fail
  refine (pick_t r p 16 w H.out (by omega)).mono ?_
  rintro e w1 ⟨x, rfl, x0, x1, ht1⟩
  have HT := Lib.hid ht1
  obtain ⟨_, q, q0, q1, hR1⟩ := ht1
  have HR := Lib.hid hR1
  clear hR1 x1
  by_cases hx : x = 0
  · subst hx
    go_wp2_with fail
    refine (num_new r q [0, 100, 101, -101, -100] 5 _ w1 HR.out (by omega) rfl rfl (by simp) (by simp)).mono ?_
    rintro e w2 ⟨y, rfl, hy, ht2⟩
    have HT2 := Lib.hid ht2
    have HY := Lib.hid (show -101 ≤ y ∧ y ≤ 101 from by simp at hy; omega)
    clear ht2 hy
    go_wp2
    go_ret
    exact ⟨y, rfl, HY.out.1, HY.out.2, turned_more (turned_two HT.out HR.out HT2.out q0 q1) (by omega)⟩
  · have hx' : (x == 0) = false := by simpa using hx
    go_wp2_with fail
    refine (num_new r q [1, 1, -1, 2] 4 _ w1 HR.out (by omega) rfl rfl (by simp) (by simp)).mono ?_
    rintro e w2 ⟨y, rfl, hy, ht2⟩
    have HT2 := Lib.hid (turned_two HT.out HR.out ht2 q0 q1)
    obtain ⟨_, q2, q20, q21, hR2⟩ := ht2
    have HR2 := Lib.hid hR2
    have hyb : -2 ≤ y ∧ y ≤ 2 := by simp at hy; omega
    obtain ⟨y0, y1⟩ := hyb
    clear hR2 hy
    go_wp2_with fail
    refine (pick_t r q2 12 w2 HR2.out (by omega)).mono ?_
    rintro e w3 ⟨z, rfl, z0, z1, ht3⟩
    have HT3 := Lib.hid (turned_two HT2.out HR2.out ht3 (by omega) (by omega))
    have z2 : z < 12 := by omega
    obtain ⟨u, hu, u0, u1⟩ := prod_bd (y := y) (x := 1 + z) (A := 2) (X := 12) (by omega) (by omega) (by omega) (by omega) (by omega)
    have hwu : IntKind.i64.wrap u = u := by rw [IntKind.wrap_i64]; omega
    clear ht3 z1
    go_wp2
    go_ret
    exact ⟨u, rfl, by omega, by omega, turned_more HT3.out (by omega)⟩

def bigL : List Int := [0, 1, -1, 100000, 100001, -100000, -100001, 9223372036854775807, -9223372036854775808]
theorem num9_new (r : Nat) (p : Int) (w : World) (h : Rd w r p) (hp : p ≤ 1000000) : Calls Tryd.prog 90 #[.pointer (some ⟨r, 0, none⟩), .slice (some ⟨w.heap.size, 0, none⟩) 9 9] (w.alloc (.cells #[.int .i64 0, .int .i64 1, .int .i64 (-1), .int .i64 100000, .int .i64 100001, .int .i64 (-100000), .int .i64 (-100001), .int .i64 9223372036854775807, .int .i64 (-9223372036854775808)] 3)) (IntB r p 1 (-9223372036854775808) 9223372036854775807 w) :=
  (num_new r p bigL 9 _ w h hp rfl rfl (by simp [bigL]) (by simp [bigL])).mono fun _ _ ⟨x, he, hx, ht⟩ => by
    have : -9223372036854775808 ≤ x ∧ x ≤ 9223372036854775807 := by simp [bigL] at hx; omega
    exact ⟨x, he, this.1, this.2, ht⟩

end Go.Proofs.YtpheihejgnlanaaDoor
