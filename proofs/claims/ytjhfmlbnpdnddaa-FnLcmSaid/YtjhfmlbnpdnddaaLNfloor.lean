/- The walks of the laws on rounded quotients and on inverses. -/
import Derived.Test.YtjhfmlbnpdnddaaDrO
import Derived.Test.YtjhfmlbnpdnddaaNbU
namespace Go.Proofs.Ytjhfmlbnpdnddaa
open Go.RowKit

theorem mul_bd3 {a k A K : Int} (h0 : -A ≤ a ∧ a ≤ A) (g : -K ≤ k ∧ k ≤ K) (hA : 0 ≤ A) : ∃ p, a * k = p ∧ -(A * K) ≤ p ∧ p ≤ A * K := ⟨_, rfl, mul_bd2 h0.1 h0.2 g.1 g.2 hA⟩

set_option maxHeartbeats 1000000 in
theorem floorCeil_walk (sp : Option Addr) (n cap : Nat) (w : World) (h : Code w sp n cap) :
    Calls Try.prog 7 #[.slice sp n cap] w fun e w' => e = .returned (.bool true) ∧ Below w.heap.size w w' := by
  have hc1 := h.1
  have hc2 := h.2.1
  have H := Lib.hid h
  clear h
  by_cases hn : n ≤ 1048576
  · have hn' : ¬ (1048576 : Int) < (n : Int) := by omega
    go_enter Try.func7, Try.ntmps7
    go_wp2_with fail
    refine (DrawFloorDiv_t sp n cap w H.out).mono ?_
    rintro e w1 ⟨a, b, rfl, ha, hb, hb1⟩
    have HI := Lib.hid fun W => FloorDiv_any a b W
    have HS := Lib.hid fun W => specFloorDiv_any a b W
    have HC := Lib.hid fun W => CeilDiv_any a b W ha.1 ha.2
    have HD := Lib.hid fun W => specCeilDiv_any a b W
    by_cases hv : (numB a && inB b 1 100000) = true
    · have e1 : flT a b = (a / b, true) := by unfold flT; rw [if_pos hv]
      have e2 : ceT a b = (-(-a / b), true) := by unfold ceT; rw [if_pos hv]
      rw [e1] at HI HS
      rw [e2] at HC HD
      simp only [Bool.and_eq_true] at hv
      obtain ⟨a0, a1⟩ := numB_yes hv.1
      obtain ⟨b0, b1⟩ := inB_yes hv.2
      have HX := Lib.hid fun W => CeilDiv_any (-a) b W (by omega) (by omega)
      have e3 : ceT (-a) b = (-(a / b), true) := by
        unfold ceT
        rw [if_pos (by simp only [Bool.and_eq_true]; exact ⟨by simp [numB, wlB]; omega, hv.2⟩), Int.neg_neg]
      rw [e3] at HX
      have q1 := Int.mul_ediv_self_le (x := a) (k := b) (by omega)
      have q2 := Int.lt_mul_ediv_self_add (x := a) (k := b) (by omega)
      have q3 := Int.mul_ediv_self_le (x := -a) (k := b) (by omega)
      have q4 := Int.lt_mul_ediv_self_add (x := -a) (k := b) (by omega)
      have r1 : -100000 ≤ a / b ∧ a / b ≤ 100000 := by
        constructor
        · exact (Int.le_ediv_iff_mul_le (by omega)).2 (by omega)
        · apply Decidable.byContradiction
          intro hgt
          have := Int.mul_le_mul_of_nonneg_left (show 100001 ≤ a / b by omega) (show 0 ≤ b by omega)
          omega
      have r2 : -100000 ≤ -a / b ∧ -a / b ≤ 100000 := by
        constructor
        · exact (Int.le_ediv_iff_mul_le (by omega)).2 (by omega)
        · apply Decidable.byContradiction
          intro hgt
          have := Int.mul_le_mul_of_nonneg_left (show 100001 ≤ -a / b by omega) (show 0 ≤ b by omega)
          omega
      generalize a / b = q at *
      generalize -a / b = t at *
      have s1 : q * b ≤ a := by rw [Int.mul_comm]; exact q1
      have s2 : a < (q + 1) * b := by rw [Int.add_mul, Int.mul_comm q]; omega
      have s3 : a ≤ -t * b := by rw [Int.neg_mul, Int.mul_comm t]; omega
      have s4 : (-t - 1) * b < a := by rw [Int.sub_mul, Int.neg_mul, Int.mul_comm t]; omega
      obtain ⟨p1, hp1, l1, u1⟩ := mul_bd3 (a := q) (k := b) (A := 100001) (K := 100001) (by omega) (by omega) (by omega)
      obtain ⟨p2, hp2, l2, u2⟩ := mul_bd3 (a := q + 1) (k := b) (A := 100001) (K := 100001) (by omega) (by omega) (by omega)
      obtain ⟨p3, hp3, l3, u3⟩ := mul_bd3 (a := -t) (k := b) (A := 100001) (K := 100001) (by omega) (by omega) (by omega)
      obtain ⟨p4, hp4, l4, u4⟩ := mul_bd3 (a := -t - 1) (k := b) (A := 100002) (K := 100001) (by omega) (by omega) (by omega)
      rw [hp1] at s1
      rw [hp2] at s2
      rw [hp3] at s3
      rw [hp4] at s4
      have w1' : IntKind.i64.wrap p1 = p1 := by rw [IntKind.wrap_i64]; omega
      have w2' : IntKind.i64.wrap p2 = p2 := by rw [IntKind.wrap_i64]; omega
      have w3' : IntKind.i64.wrap p3 = p3 := by rw [IntKind.wrap_i64]; omega
      have w4' : IntKind.i64.wrap p4 = p4 := by rw [IntKind.wrap_i64]; omega
      obtain ⟨r10, r11⟩ := r1
      obtain ⟨r20, r21⟩ := r2
      have hta : decide (p1 ≤ a) = true := by simpa using s1
      have htb : decide (a < p2) = true := by simpa using s2
      have htc : decide (a ≤ p3) = true := by simpa using s3
      have htd : decide (p4 < a) = true := by simpa using s4
      unfold T2 at HI HS HC HD HX
      dsimp only at HI HS HC HD HX
      clear e1 e2 e3 q1 q2 q3 q4 hv ha hb
      go_wp2_with fail
      refine (HI.out _).mono ?_
      rintro e w2 ⟨rfl, hb2⟩
      go_wp2_with fail
      refine (HS.out _).mono ?_
      rintro e w' ⟨rfl, rfl⟩
      go_wp2_with fail
      refine (HC.out _).mono ?_
      rintro e w3 ⟨rfl, hb3⟩
      go_wp2_with fail
      refine (HD.out _).mono ?_
      rintro e w' ⟨rfl, rfl⟩
      go_wp2_with fail
      refine (HX.out _).mono ?_
      rintro e w4 ⟨rfl, hb4⟩
      go_wp2
      go_returns
      exact ⟨rfl, below_on hb1 (below_on hb2 (below_on hb3 hb4))⟩
    · have e1 : flT a b = (0, false) := by unfold flT; rw [if_neg hv]
      have e2 : ceT a b = (0, false) := by unfold ceT; rw [if_neg hv]
      rw [e1] at HI HS
      rw [e2] at HC HD
      unfold T2 at HI HS HC HD
      dsimp only at HI HS HC HD
      clear e1 e2 hv ha hb
      go_wp2_with fail
      refine (HI.out _).mono ?_
      rintro e w2 ⟨rfl, hb2⟩
      go_wp2_with fail
      refine (HS.out _).mono ?_
      rintro e w' ⟨rfl, rfl⟩
      go_wp2_with fail
      refine (HC.out _).mono ?_
      rintro e w3 ⟨rfl, hb3⟩
      go_wp2_with fail
      refine (HD.out _).mono ?_
      rintro e w' ⟨rfl, rfl⟩
      go_wp2
      go_returns
      exact ⟨rfl, below_on hb1 (below_on hb2 hb3)⟩
  · have hn' : (1048576 : Int) < (n : Int) := by omega
    go_enter Try.func7, Try.ntmps7
    go_wp2
    go_ret
    exact ⟨rfl, Below.refl _ _⟩

end Go.Proofs.Ytjhfmlbnpdnddaa
