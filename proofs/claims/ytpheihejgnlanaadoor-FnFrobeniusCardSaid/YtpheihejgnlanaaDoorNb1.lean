/- Several texts in one: NbB NbC NbD NbE. -/
import Derived.Test.YtpheihejgnlanaaDoorNbA
import Derived.Test.YtpheihejgnlanaaDoorLeastN
import Derived.BigQuiet
import Derived.Deep.RegionHeld3
import Derived.BigGuardPart

/- Euclid's rule for numbers that know how they are made. -/
namespace Go.Proofs.YtpheihejgnlanaaDoor
open Go.RowKit

def C3 (w : World) (bl : Nat) (a b c : Int) : Prop := bl < w.heap.size ∧ w.cell? ⟨bl, 0, none⟩ = some (.int .i64 a) ∧ w.cell? ⟨bl, 1, none⟩ = some (.int .i64 b) ∧ w.cell? ⟨bl, 2, none⟩ = some (.int .i64 c) ∧ ∀ o, w.frozen? ⟨bl, o, none⟩ = false
theorem c3_on {W w' : World} {x : Nat} {a b c : Int} (h : C3 W x a b c) (hb : Below W.heap.size W w') : C3 w' x a b c :=
  ⟨Nat.lt_of_lt_of_le h.1 hb.size, ((bcell hb).1 x 0 h.1).trans h.2.1, ((bcell hb).1 x 1 h.1).trans h.2.2.1, ((bcell hb).1 x 2 h.1).trans h.2.2.2.1, fun o => ((bcell hb).2 x o h.1).trans (h.2.2.2.2 o)⟩
/-- A store of three into a box: the box, the others, what was below. -/
theorem three_put {W W' : World} {x : Nat} {a' b' c' : Int} (hW : ((W.setCell ⟨x, 0, none⟩ (.int .i64 a')).setCell ⟨x, 1, none⟩ (.int .i64 b')).setCell ⟨x, 2, none⟩ (.int .i64 c') = W') (a b c : Int) (hx : C3 W x a b c) :
    C3 W' x a' b' c' ∧ W'.heap.size = W.heap.size ∧ (∀ y d e f, y ≠ x → C3 W y d e f → C3 W' y d e f) ∧ (∀ (w : World), Below w.heap.size w W → w.heap.size ≤ x → Below w.heap.size w W') := by
  obtain ⟨x0, c0, c1, c2, fz⟩ := hx
  subst hW
  have hsz : (((W.setCell ⟨x, 0, none⟩ (.int .i64 a')).setCell ⟨x, 1, none⟩ (.int .i64 b')).setCell ⟨x, 2, none⟩ (.int .i64 c')).heap.size = W.heap.size := by simp [World.setCell]
  refine ⟨⟨by rw [hsz]; exact x0, by simp [go_sem, *], by simp [go_sem, *], by simp [go_sem, *], fun o => by simp [go_sem, *]⟩, hsz, fun y d e f hy hc => ?_, fun w hw hx => ?_⟩
  · obtain ⟨y0, d0, d1, d2, gz⟩ := hc
    exact ⟨by rw [hsz]; exact y0, by simp [go_sem, *], by simp [go_sem, *], by simp [go_sem, *], fun o => by simp [go_sem, *]⟩
  · exact ((hw.setCell hx _).setCell hx _).setCell hx _

theorem mixKeep {W w' : World} {p q : Nat} {n x y d u v : Int} (hx : C3 W p n x y) (hy : C3 W q d u v) (hB : Below W.heap.size W w') :
    w'.cell? ⟨p, 0, none⟩ = some (.int .i64 n) ∧ w'.cell? ⟨q, 0, none⟩ = some (.int .i64 d) ∧ w'.cell? ⟨q, 1, none⟩ = some (.int .i64 u) ∧ w'.cell? ⟨q, 2, none⟩ = some (.int .i64 v) :=
  have h1 := c3_on hx hB
  have h2 := c3_on hy hB
  ⟨h1.2.1, h2.2.1, h2.2.2.1, h2.2.2.2.1⟩

end Go.Proofs.YtpheihejgnlanaaDoor

/- Euclid's rule for numbers that know how they are made: the loop. -/
namespace Go.Proofs.YtpheihejgnlanaaDoor
open Go.RowKit

def EuR (a b : Int) (w : World) (n : Nat) (wr : World) : Prop :=
  ∃ c x y d u v : Int, d.natAbs = n ∧ Eu a b c x y d u v ∧ C3 wr w.heap.size c x y ∧ C3 wr (w.heap.size + 1) d u v ∧ C3 wr (w.heap.size + 1 + 1) 0 0 0 ∧ Below w.heap.size w wr

end Go.Proofs.YtpheihejgnlanaaDoor

/- The program's Bezout. -/
namespace Go.Proofs.YtpheihejgnlanaaDoor
open Go.RowKit

theorem sign_of {n g : Int} (hn : (n.natAbs : Int) = g) (hg : 0 < g) : ∃ s : Int, n / g = s ∧ n % g = 0 ∧ s * n = g ∧ -1 ≤ s ∧ s ≤ 1 := by
  rcases Int.lt_or_le n 0 with h | h
  · have : n = -g := by omega
    subst this
    refine ⟨-1, ?_, by simp, by omega, by omega, by omega⟩
    rw [Int.neg_ediv_of_dvd (Int.dvd_refl g), Int.ediv_self (by omega)]
  · have : n = g := by omega
    subst this
    exact ⟨1, Int.ediv_self (by omega), by simp, by omega, by omega, by omega⟩
theorem below_dq (W : World) : ∀ k, Below W.heap.size W (W.drewN k)
  | 0 => Below.refl _ _
  | k + 1 => (below_dq W k).drew
theorem c3_dq {W : World} {x : Nat} {a b c : Int} (h : C3 W x a b c) (k : Nat) : C3 (W.drewN k) x a b c := c3_on h (below_dq W k)
theorem sign_bd {s x : Int} (h0 : -1 ≤ s) (h1 : s ≤ 1) (hx : -1000000 ≤ x ∧ x ≤ 1000000) : -1000000 ≤ s * x ∧ s * x ≤ 1000000 := by
  have : s = -1 ∨ s = 0 ∨ s = 1 := by omega
  rcases this with rfl | rfl | rfl <;> omega

end Go.Proofs.YtpheihejgnlanaaDoor

/- The program's congruences. -/
namespace Go.Proofs.YtpheihejgnlanaaDoor
open Go.RowKit

theorem gcd_le_r {a m : Int} (hm : 0 < m) : 0 < ((Int.gcd a m : Nat) : Int) ∧ ((Int.gcd a m : Nat) : Int) ≤ m := by
  have := gcd_pos_r (a := a) (m := m) (by omega)
  have h2 : Int.gcd a m ∣ m.natAbs := Nat.gcd_dvd_right _ _
  have := Nat.le_of_dvd (by omega) h2
  omega

end Go.Proofs.YtpheihejgnlanaaDoor
