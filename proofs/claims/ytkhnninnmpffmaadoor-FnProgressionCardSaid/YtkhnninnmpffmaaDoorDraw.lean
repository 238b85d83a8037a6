/- The contract of the model's source of numbers: what it draws lies in its bounds, and only its own counter turns. -/
import Derived.Test.YtkhnninnmpffmaaDoorBaseC
import Derived.Deep.QuietTactic
import Derived.BigQuiet
import Derived.Laws.BitsAllLaws
import Derived.Laws.BitsLemmas
namespace Go.Proofs.YtkhnninnmpffmaaDoor
open Go.RowKit

theorem ofInt_pos (a : Nat) (ha : a < 4611686018427387904) : (BitVec.ofInt 64 (a : Int)).toNat = a := by
  rw [BitVec.ofInt_natCast, BitVec.toNat_ofNat]
  exact Nat.mod_eq_of_lt (by omega)

theorem xor_nonneg {x y : Int} (x0 : 0 ≤ x) (x1 : x < 4611686018427387904) (y0 : 0 ≤ y) (y1 : y < 4611686018427387904) : 0 ≤ bits .xor .i64 x y := by
  obtain ⟨a, rfl⟩ := Int.eq_ofNat_of_zero_le x0
  obtain ⟨b, rfl⟩ := Int.eq_ofNat_of_zero_le y0
  have hx : a ^^^ b < 2 ^ 62 := Nat.xor_lt_two_pow (by omega) (by omega)
  show 0 ≤ IntKind.i64.wrap ((BitVec.ofInt 64 (a : Int) ^^^ BitVec.ofInt 64 (b : Int)).toNat : Int)
  rw [BitVec.toNat_xor, ofInt_pos a (by omega), ofInt_pos b (by omega), IntKind.wrap_i64]
  omega

/-- What pick answers: a number from 0 on, less than m if there is such a one; only the counter has turned. -/
def Picked (r : Nat) (p m : Int) (w : World) (e : Ending) (w' : World) : Prop :=
  ∃ x : Int, e = .returned (.int .i64 x) ∧ 0 ≤ x ∧ (x = 0 ∨ x < m) ∧ ∃ k, w' = (w.setCell ⟨r, 1, none⟩ (.int .i64 (p + 1))).drewN k

set_option maxHeartbeats 400000 in
theorem pick_none (r : Nat) (p m : Int) (w : World) (hr1 : w.cell? ⟨r, 1, none⟩ = some (.int .i64 p)) (hfr : w.frozen? ⟨r, 1, none⟩ = false)
    (p0 : 0 ≤ p) (p1 : p ≤ 1000000) (hm : m < 1) :
    Calls Tryd.prog 23 #[.pointer (some ⟨r, 0, none⟩), .int .i64 m] w (Picked r p m w) := by
  go_enter Tryd.func23, Tryd.ntmps23
  go_wp2
  go_ret
  exact ⟨0, rfl, by omega, by omega, 0, rfl⟩

set_option maxHeartbeats 400000 in
theorem pick_empty (r cap : Nat) (sp : Option Addr) (p m : Int) (w : World) (hr0 : w.cell? ⟨r, 0, none⟩ = some (.slice sp 0 cap)) (hr1 : w.cell? ⟨r, 1, none⟩ = some (.int .i64 p)) (hfr : w.frozen? ⟨r, 1, none⟩ = false)
    (p0 : 0 ≤ p) (p1 : p ≤ 1000000) (hm : 1 ≤ m) :
    Calls Tryd.prog 23 #[.pointer (some ⟨r, 0, none⟩), .int .i64 m] w (Picked r p m w) := by
  go_enter Tryd.func23, Tryd.ntmps23
  go_wp2
  go_ret
  exact ⟨0, rfl, by omega, by omega, 0, rfl⟩

set_option maxHeartbeats 400000 in
theorem pick_byte (r n cap b off k : Nat) (u m : Int) (w : World) (hr0 : w.cell? ⟨r, 0, none⟩ = some (.slice (some ⟨b, off, none⟩) n cap)) (hr1 : w.cell? ⟨r, 1, none⟩ = some (.int .i64 k)) (hfr : w.frozen? ⟨r, 1, none⟩ = false)
    (p1 : k ≤ 1000000) (hm : 1 ≤ m) (hk : k < n) (_hn : n ≤ 2000) (hbr : b ≠ r) (hu : w.cell? ⟨b, off + k, none⟩ = some (.int .u8 u)) (u0 : 0 ≤ u) (u1 : u ≤ 255) :
    Calls Tryd.prog 23 #[.pointer (some ⟨r, 0, none⟩), .int .i64 m] w (Picked r k m w) := by
  have hk' : (k : Int) < (n : Int) := by omega
  have hn0 : ((n : Int) == 0) = false := by simp; omega
  have hx0 := Int.emod_nonneg u (show m ≠ 0 by omega)
  have hx1 := Int.emod_lt_of_pos u (show 0 < m by omega)
  go_enter Tryd.func23, Tryd.ntmps23
  go_wp2
  go_ret
  exact ⟨_, rfl, hx0, Or.inr hx1, 0, rfl⟩

set_option maxHeartbeats 1000000 in
theorem pick_mix (r n cap b off k : Nat) (u1 u2 m : Int) (w : World) (hr0 : w.cell? ⟨r, 0, none⟩ = some (.slice (some ⟨b, off, none⟩) n cap)) (hr1 : w.cell? ⟨r, 1, none⟩ = some (.int .i64 k)) (hfr : w.frozen? ⟨r, 1, none⟩ = false)
    (p1 : k ≤ 1000000) (hm : 1 ≤ m) (hk : n ≤ k) (hn1 : 1 ≤ n) (hn : n ≤ 2000) (hbr : b ≠ r) (hu1 : w.cell? ⟨b, off + k % n, none⟩ = some (.int .u8 u1)) (a0 : 0 ≤ u1) (a1 : u1 ≤ 255)
    (hu2 : w.cell? ⟨b, off + (k * 7 + 3) % n, none⟩ = some (.int .u8 u2)) (b0 : 0 ≤ u2) (b1 : u2 ≤ 255) :
    Calls Tryd.prog 23 #[.pointer (some ⟨r, 0, none⟩), .int .i64 m] w (Picked r k m w) := by
  have hk' : (n : Int) ≤ (k : Int) := by omega
  have hn0 : ((n : Int) == 0) = false := by simp; omega
  have hn0' : (1 : Int) ≤ (n : Int) := by omega
  have i0 := Int.emod_nonneg (k : Int) (show (n : Int) ≠ 0 by omega)
  have i1 := Int.emod_lt_of_pos (k : Int) (show 0 < (n : Int) by omega)
  have j0 := Int.emod_nonneg ((k : Int) * 7 + 3) (show (n : Int) ≠ 0 by omega)
  have j1 := Int.emod_lt_of_pos ((k : Int) * 7 + 3) (show 0 < (n : Int) by omega)
  have q0 := Int.ediv_nonneg (show 0 ≤ (k : Int) by omega) (show 0 ≤ (n : Int) by omega)
  have q1 : (k : Int) / (n : Int) ≤ 1000000 := Int.le_trans (Int.ediv_le_self _ (by omega)) (by omega)
  go_enter Tryd.func23, Tryd.ntmps23
  go_wp2
  go_quiet (fail)
  go_wp2
  go_ret
  refine ⟨_, rfl, Int.tmod_nonneg _ (xor_nonneg ?_ ?_ ?_ ?_), Or.inr (Int.tmod_lt_of_pos _ (by omega)), _, rfl⟩
  all_goals (go_light; omega)

/-- The reader's memory: where it stands, and the bytes that it reads. -/
def Rd (w : World) (r : Nat) (p : Int) : Prop :=
  ∃ (k n cap : Nat) (sp : Option Addr), p = k ∧ n ≤ 2000 ∧ r < w.heap.size ∧ w.cell? ⟨r, 0, none⟩ = some (.slice sp n cap) ∧ w.cell? ⟨r, 1, none⟩ = some (.int .i64 k) ∧ w.frozen? ⟨r, 1, none⟩ = false ∧
    (n = 0 ∨ ∃ b off, sp = some ⟨b, off, none⟩ ∧ b < r ∧ ∀ i, i < n → ∃ u : Int, w.cell? ⟨b, off + i, none⟩ = some (.int .u8 u) ∧ 0 ≤ u ∧ u ≤ 255)

theorem pick_any (r : Nat) (p m : Int) (w : World) (h : Rd w r p) (hp : p ≤ 1000000) :
    Calls Tryd.prog 23 #[.pointer (some ⟨r, 0, none⟩), .int .i64 m] w (Picked r p m w) := by
  obtain ⟨k, n, cap, sp, rfl, hn, hr, hr0, hr1, hfr, hb⟩ := h
  by_cases hm : m < 1
  · exact pick_none r k m w hr1 hfr (by omega) hp hm
  · by_cases hn0 : n = 0
    · subst hn0
      exact pick_empty r cap sp k m w hr0 hr1 hfr (by omega) hp (by omega)
    · rcases hb with h0 | ⟨b, off, rfl, hbr, hu⟩
      · exact absurd h0 hn0
      · by_cases hk : k < n
        · obtain ⟨u, hc, u0, u1⟩ := hu k hk
          exact pick_byte r n cap b off k u m w hr0 hr1 hfr (by omega) (by omega) hk hn (by omega) hc u0 u1
        · obtain ⟨u1, hc1, a0, a1⟩ := hu (k % n) (Nat.mod_lt _ (by omega))
          obtain ⟨u2, hc2, b0, b1⟩ := hu ((k * 7 + 3) % n) (Nat.mod_lt _ (by omega))
          exact pick_mix r n cap b off k u1 u2 m w hr0 hr1 hfr (by omega) (by omega) (by omega) (by omega) hn (by omega) hc1 a0 a1 hc2 b0 b1

end Go.Proofs.YtkhnninnmpffmaaDoor
