/- The walk of the law on sums of terms. -/
import Derived.Test.YthphlkfofbdncaaDraw8
import Derived.Test.YthphlkfofbdncaaPb
import Derived.Test.YthphlkfofbdncaaImplC
import Derived.Test.YthphlkfofbdncaaImplD
import Derived.Test.YthphlkfofbdncaaSpecF
import Derived.Deep.RegionHeld3
namespace Go.Proofs.Ythphlkfofbdncaa
open Go.RowKit

/-- Three boxes of five ints and one of four, still there in a later world. -/
theorem keep5554 {W w' : World} {p q r t : Nat} {a b c d n a' b' c' d' n' A B C D N x y z u : Int} (h1 : C5 W p a b c d n) (h2 : C5 W q a' b' c' d' n') (h3 : C5 W r A B C D N) (h4 : C4 W t x y z u) (hB : Below W.heap.size W w') :
    Below W.heap.size W w' ∧ (w'.cell? ⟨p, 0, none⟩ = some (.int .i64 a) ∧ w'.cell? ⟨p, 1, none⟩ = some (.int .i64 b) ∧ w'.cell? ⟨p, 2, none⟩ = some (.int .i64 c) ∧ w'.cell? ⟨p, 3, none⟩ = some (.int .i64 d) ∧ w'.cell? ⟨p, 4, none⟩ = some (.int .i64 n)) ∧ (w'.cell? ⟨q, 0, none⟩ = some (.int .i64 a') ∧ w'.cell? ⟨q, 1, none⟩ = some (.int .i64 b') ∧ w'.cell? ⟨q, 2, none⟩ = some (.int .i64 c') ∧ w'.cell? ⟨q, 3, none⟩ = some (.int .i64 d') ∧ w'.cell? ⟨q, 4, none⟩ = some (.int .i64 n')) ∧ (w'.cell? ⟨r, 0, none⟩ = some (.int .i64 A) ∧ w'.cell? ⟨r, 1, none⟩ = some (.int .i64 B) ∧ w'.cell? ⟨r, 2, none⟩ = some (.int .i64 C) ∧ w'.cell? ⟨r, 3, none⟩ = some (.int .i64 D) ∧ w'.cell? ⟨r, 4, none⟩ = some (.int .i64 N)) ∧ (w'.cell? ⟨t, 0, none⟩ = some (.int .i64 x) ∧ w'.cell? ⟨t, 1, none⟩ = some (.int .i64 y) ∧ w'.cell? ⟨t, 2, none⟩ = some (.int .i64 z) ∧ w'.cell? ⟨t, 3, none⟩ = some (.int .i64 u)) :=
  ⟨hB, (c5_on h1 hB).2, (c5_on h2 hB).2, (c5_on h3 hB).2, (c4_on h4 hB).2⟩

theorem ev_add (a b c d n a' b' c' d' n' x y z u : Int) : ev (a + a') (b + b') (c + c') (d + d') (n + n') x y z u = ev a b c d n x y z u + ev a' b' c' d' n' x y z u := by
  unfold ev
  simp only [Int.add_mul]
  omega

theorem ev_bd {a b c d n x y z u : Int} (h : tvB a b c d n = true) (hp : pvB x y z u = true) : -1000000 ≤ ev a b c d n x y z u ∧ ev a b c d n x y z u ≤ 1000000 := by
  obtain ⟨⟨a0, a1⟩, ⟨b0, b1⟩, ⟨c0, c1⟩, ⟨d0, d1⟩, n0, n1⟩ := tv_bd h
  simp only [pvB, inB, Bool.and_eq_true, decide_eq_true_eq] at hp
  obtain ⟨⟨⟨⟨x0, x1⟩, y0, y1⟩, z0, z1⟩, u0, u1⟩ := hp
  obtain ⟨p0, p1⟩ := mul_bd a0 a1 x0 x1 (by omega)
  obtain ⟨q0, q1⟩ := mul_bd b0 b1 y0 y1 (by omega)
  obtain ⟨r0, r1⟩ := mul_bd c0 c1 z0 z1 (by omega)
  obtain ⟨s0, s1⟩ := mul_bd d0 d1 u0 u1 (by omega)
  unfold ev
  omega

theorem AddTerms_is (a b c d n a' b' c' d' n' A B C D N : Int) (w : World) (h1 : tvB a b c d n = true) (h2 : tvB a' b' c' d' n' = true) (h3 : tvB A B C D N = true) (hA : a + a' = A) (hB : b + b' = B) (hC : c + c' = C) (hD : d + d' = D) (hN : n + n' = N) :
    Calls Try.prog 55 #[.agg #[.int .i64 a, .int .i64 b, .int .i64 c, .int .i64 d, .int .i64 n], .agg #[.int .i64 a', .int .i64 b', .int .i64 c', .int .i64 d', .int .i64 n']] w fun e w' => e = .returned (.tuple #[.agg #[.int .i64 A, .int .i64 B, .int .i64 C, .int .i64 D, .int .i64 N], .bool true]) ∧ Below w.heap.size w w' := by
  subst hA hB hC hD hN
  exact AddTerms_ok a b c d n a' b' c' d' n' w h1 h2 h3
theorem specAddTerms_is (a b c d n a' b' c' d' n' A B C D N : Int) (w : World) (h1 : tvB a b c d n = true) (h2 : tvB a' b' c' d' n' = true) (h3 : tvB A B C D N = true) (hA : a + a' = A) (hB : b + b' = B) (hC : c + c' = C) (hD : d + d' = D) (hN : n + n' = N) :
    Calls Try.prog 56 #[.agg #[.int .i64 a, .int .i64 b, .int .i64 c, .int .i64 d, .int .i64 n], .agg #[.int .i64 a', .int .i64 b', .int .i64 c', .int .i64 d', .int .i64 n']] w fun e w' => e = .returned (.tuple #[.agg #[.int .i64 A, .int .i64 B, .int .i64 C, .int .i64 D, .int .i64 N], .bool true]) ∧ Below w.heap.size w w' := by
  subst hA hB hC hD hN
  exact specAddTerms_ok a b c d n a' b' c' d' n' w h1 h2 h3
theorem tv_neg {a b c d n : Int} (h : tvB a b c d n = true) : tvB (a * -1) (b * -1) (c * -1) (d * -1) (n * -1) = true := by
  have := tv_bd h
  simp only [tvB, wlB, Bool.and_eq_true, decide_eq_true_eq]
  omega

set_option maxHeartbeats 1000000 in
theorem addTerms_walk (sp : Option Addr) (n cap : Nat) (w : World) (h : Code w sp n cap) :
    Calls Try.prog 13 #[.slice sp n cap] w fun e w' => e = .returned (.bool true) ∧ Below w.heap.size w w' := by
  have hc1 := h.1
  have hc2 := h.2.1
  have H := Lib.hid h
  clear h
  by_cases hn : n ≤ 1048576
  · have hn' : ¬ (1048576 : Int) < (n : Int) := by omega
    go_enter Try.func13, Try.ntmps13
    go_wp2_with fail
    refine (DrawAddTerms_t sp n cap w H.out).mono ?_
    rintro e w1 ⟨a, b, c, d, m, a', b', c', d', m', rfl, hb1⟩
    have hbs := hb1.size
    have HC1 := Lib.hid (code_on H.out hb1)
    go_wp2_with fail
    generalize hW : (w1.alloc (.cells #[.int .i64 a, .int .i64 b, .int .i64 c, .int .i64 d, .int .i64 m] 27)).alloc (.cells #[.int .i64 a', .int .i64 b', .int .i64 c', .int .i64 d', .int .i64 m'] 27) = W
    have hx : C5 W w1.heap.size a b c d m := by subst hW; exact (by refine ⟨?_, ?_, ?_, ?_, ?_, ?_⟩ <;> first | (simp [go_sem]; done) | (simp; omega))
    have hy : C5 W (w1.heap.size + 1) a' b' c' d' m' := by subst hW; exact (by refine ⟨?_, ?_, ?_, ?_, ?_, ?_⟩ <;> first | (simp [go_sem]; done) | (simp; omega))
    have hw1 : Below w1.heap.size w1 W := by subst hW; go_grown
    have hw0 : Below w.heap.size w W := below_on hb1 hw1
    have HC := Lib.hid (code_on HC1.out hw1)
    clear hW
    by_cases hv : (tvB a b c d m && tvB a' b' c' d' m' && tvB (a + a') (b + b') (c + c') (d + d') (m + m')) = true
    · obtain ⟨⟨h1, h2⟩, h3⟩ : (tvB a b c d m = true ∧ tvB a' b' c' d' m' = true) ∧ tvB (a + a') (b + b') (c + c') (d + d') (m + m') = true := by simpa using hv
      have hev := fun x y z u => ev_add a b c d m a' b' c' d' m' x y z u
      obtain ⟨A, hA⟩ : ∃ A, a + a' = A := ⟨_, rfl⟩
      obtain ⟨B, hB⟩ : ∃ A, b + b' = A := ⟨_, rfl⟩
      obtain ⟨C, hC⟩ : ∃ A, c + c' = A := ⟨_, rfl⟩
      obtain ⟨D, hD⟩ : ∃ A, d + d' = A := ⟨_, rfl⟩
      obtain ⟨N, hN⟩ : ∃ A, m + m' = A := ⟨_, rfl⟩
      rw [hA, hB, hC, hD, hN] at h3
      simp only [hA, hB, hC, hD, hN] at hev
      have hm := tv_neg h2
      have hms := fun W => ScaleTerm_ok a' b' c' d' m' (-1) W h2 (by simp [wlB]) hm
      obtain ⟨pa, hpa⟩ : ∃ A, a' * -1 = A := ⟨_, rfl⟩
      obtain ⟨pb, hpb⟩ : ∃ A, b' * -1 = A := ⟨_, rfl⟩
      obtain ⟨pc, hpc⟩ : ∃ A, c' * -1 = A := ⟨_, rfl⟩
      obtain ⟨pd, hpd⟩ : ∃ A, d' * -1 = A := ⟨_, rfl⟩
      obtain ⟨pn, hpn⟩ : ∃ A, m' * -1 = A := ⟨_, rfl⟩
      rw [hpa, hpb, hpc, hpd, hpn] at hms hm
      have HI := Lib.hid fun W => AddTerms_is a b c d m a' b' c' d' m' A B C D N W h1 h2 h3 hA hB hC hD hN
      have HS := Lib.hid fun W => specAddTerms_is a b c d m a' b' c' d' m' A B C D N W h1 h2 h3 hA hB hC hD hN
      have HJ := Lib.hid fun W => AddTerms_is a' b' c' d' m' a b c d m A B C D N W h2 h1 h3 (by omega) (by omega) (by omega) (by omega) (by omega)
      have HM := Lib.hid hms
      have HK := Lib.hid fun W => AddTerms_is A B C D N pa pb pc pd pn a b c d m W h3 hm h1 (by omega) (by omega) (by omega) (by omega) (by omega)
      have HEV := Lib.hid hev
      have T1 := Lib.hid h1
      have T2 := Lib.hid h2
      have T3 := Lib.hid h3
      clear hev hms hm h1 h2 h3 hA hB hC hD hN hpa hpb hpc hpd hpn hv
      obtain ⟨x0, x1, x2, x3, x4, x5⟩ := id hx
      obtain ⟨y0, y1, y2, y3, y4, y5⟩ := id hy
      refine (HI.out _).mono ?_
      rintro e w2 ⟨rfl, hb2⟩
      obtain ⟨x0, x1, x2, x3, x4, x5⟩ := c5_on hx hb2
      obtain ⟨y0, y1, y2, y3, y4, y5⟩ := c5_on hy hb2
      go_wp2_with fail
      generalize hW2 : w2.alloc (.cells #[.int .i64 A, .int .i64 B, .int .i64 C, .int .i64 D, .int .i64 N] 27) = W2
      have hX : C5 W2 w2.heap.size A B C D N := by subst hW2; exact (by refine ⟨?_, ?_, ?_, ?_, ?_, ?_⟩ <;> first | (simp [go_sem]; done) | (simp; omega))
      have hbW2 : Below W.heap.size W W2 := below_on hb2 (by subst hW2; go_grown)
      clear hW2
      obtain ⟨x0, x1, x2, x3, x4, x5⟩ := c5_on hx hbW2
      obtain ⟨y0, y1, y2, y3, y4, y5⟩ := c5_on hy hbW2
      refine (HS.out _).mono ?_
      rintro e w3 ⟨rfl, hb3⟩
      have hbb3 := below_on hbW2 hb3
      obtain ⟨x0, x1, x2, x3, x4, x5⟩ := c5_on hx hbb3
      obtain ⟨y0, y1, y2, y3, y4, y5⟩ := c5_on hy hbb3
      obtain ⟨z0, z1, z2, z3, z4, z5⟩ := c5_on hX hb3
      go_wp2_with fail
      generalize hW3 : w3.alloc (.cells #[.int .i64 A, .int .i64 B, .int .i64 C, .int .i64 D, .int .i64 N] 27) = W3
      have hb33 : Below w3.heap.size w3 W3 := by subst hW3; go_grown
      clear hW3
      have hbW3 := below_on hbb3 hb33
      have hX3 := c5_on hX (below_on hb3 hb33)
      obtain ⟨x0, x1, x2, x3, x4, x5⟩ := c5_on hx hbW3
      obtain ⟨y0, y1, y2, y3, y4, y5⟩ := c5_on hy hbW3
      refine (HJ.out _).mono ?_
      rintro e w4 ⟨rfl, hb4⟩
      go_wp2_with fail
      generalize hW4 : w4.alloc (.cells #[.int .i64 A, .int .i64 B, .int .i64 C, .int .i64 D, .int .i64 N] 27) = W4
      have hb44 : Below w4.heap.size w4 W4 := by subst hW4; go_grown
      have hY : C5 W4 w4.heap.size A B C D N := by subst hW4; exact (by refine ⟨?_, ?_, ?_, ?_, ?_, ?_⟩ <;> first | (simp [go_sem]; done) | (simp; omega))
      clear hW4
      have hbW4 := below_on hbW3 (below_on hb4 hb44)
      have hX4 := c5_on hX3 (below_on hb4 hb44)
      have hx4 := c5_on hx hbW4
      have hy4 := c5_on hy hbW4
      have HC4 := Lib.hid (code_on HC.out hbW4)
      clear x0 x1 x2 x3 x4 x5 y0 y1 y2 y3 y4 y5 z0 z1 z2 z3 z4 z5
      go_loopw [11] (fun i wr => ∃ k : Nat, i = .int .i64 k ∧ k ≤ 6 ∧ Below W4.heap.size W4 wr) (fun i _ => 6 - (intOf i).toNat)
      case atStart => exact ⟨0, rfl, by omega, Below.refl _ _⟩
      case round =>
        obtain ⟨k, rfl, hk, hbl⟩ := hrel
        by_cases hk6 : k < 6
        · have hk' : (k : Int) < 6 := by omega
          go_wp2_with fail
          refine (pbPoint_any sp n cap k wr (code_on HC4.out hbl) hn (by omega) (by omega)).mono ?_
          rintro e w5 ⟨px, py, pz, pu, rfl, hb5, ⟨px0, px1⟩, ⟨py0, py1⟩, ⟨pz0, pz1⟩, pu0, pu1⟩
          have hpv : pvB px py pz pu = true := by simp [pvB, inB]; omega
          have PV := Lib.hid hpv
          obtain ⟨E2, h2⟩ : ∃ E, ev a b c d m px py pz pu = E := ⟨_, rfl⟩
          obtain ⟨E3, h3⟩ : ∃ E, ev a' b' c' d' m' px py pz pu = E := ⟨_, rfl⟩
          have e2 := ev_bd T1.out hpv
          have e3 := ev_bd T2.out hpv
          have h1 := HEV.out px py pz pu
          rw [h2] at e2
          rw [h3] at e3
          rw [h2, h3] at h1
          have q1 := fun W => pbEval_ok A B C D N px py pz pu W (by simp [T3.out, hpv])
          have q2 := fun W => pbEval_ok a b c d m px py pz pu W (by simp [T1.out, hpv])
          have q3 := fun W => pbEval_ok a' b' c' d' m' px py pz pu W (by simp [T2.out, hpv])
          obtain ⟨E1, hE1⟩ : ∃ E, E2 + E3 = E := ⟨_, rfl⟩
          rw [h1, hE1] at q1
          rw [h2] at q2
          rw [h3] at q3
          have Q1 := Lib.hid q1
          have Q2 := Lib.hid q2
          have Q3 := Lib.hid q3
          have hwr : IntKind.i64.wrap (E2 + E3) = E1 := by rw [IntKind.wrap_i64, hE1]; omega
          clear q1 q2 q3 h1 h2 h3 hpv px0 px1 py0 py1 pz0 pz1 pu0 pu1 hE1
          have hb5W := below_on hbl hb5
          go_wp2_with fail
          generalize hW5 : w5.alloc (.cells #[.int .i64 px, .int .i64 py, .int .i64 pz, .int .i64 pu] 54) = W5
          have hb55 : Below w5.heap.size w5 W5 := by subst hW5; go_grown
          have hp : C4 W5 w5.heap.size px py pz pu := by subst hW5; exact (by refine ⟨?_, ?_, ?_, ?_, ?_⟩ <;> first | (simp [go_sem]; done) | (simp; omega))
          clear hW5
          have hb4W := below_on hb5W hb55
          have g1 := c5_on hX4 hb4W
          have g2 := c5_on hx4 hb4W
          have g3 := c5_on hy4 hb4W
          have HB4 := Lib.hid hb4W
          clear hb4W hb5W hb5 hb55 hbl
          go_region_held3 (fun w' => Below W5.heap.size W5 w' ∧ (w'.cell? ⟨w2.heap.size, 0, none⟩ = some (.int .i64 A) ∧ w'.cell? ⟨w2.heap.size, 1, none⟩ = some (.int .i64 B) ∧ w'.cell? ⟨w2.heap.size, 2, none⟩ = some (.int .i64 C) ∧ w'.cell? ⟨w2.heap.size, 3, none⟩ = some (.int .i64 D) ∧ w'.cell? ⟨w2.heap.size, 4, none⟩ = some (.int .i64 N)) ∧ (w'.cell? ⟨w1.heap.size, 0, none⟩ = some (.int .i64 a) ∧ w'.cell? ⟨w1.heap.size, 1, none⟩ = some (.int .i64 b) ∧ w'.cell? ⟨w1.heap.size, 2, none⟩ = some (.int .i64 c) ∧ w'.cell? ⟨w1.heap.size, 3, none⟩ = some (.int .i64 d) ∧ w'.cell? ⟨w1.heap.size, 4, none⟩ = some (.int .i64 m)) ∧ (w'.cell? ⟨w1.heap.size + 1, 0, none⟩ = some (.int .i64 a') ∧ w'.cell? ⟨w1.heap.size + 1, 1, none⟩ = some (.int .i64 b') ∧ w'.cell? ⟨w1.heap.size + 1, 2, none⟩ = some (.int .i64 c') ∧ w'.cell? ⟨w1.heap.size + 1, 3, none⟩ = some (.int .i64 d') ∧ w'.cell? ⟨w1.heap.size + 1, 4, none⟩ = some (.int .i64 m')) ∧ (w'.cell? ⟨w5.heap.size, 0, none⟩ = some (.int .i64 px) ∧ w'.cell? ⟨w5.heap.size, 1, none⟩ = some (.int .i64 py) ∧ w'.cell? ⟨w5.heap.size, 2, none⟩ = some (.int .i64 pz) ∧ w'.cell? ⟨w5.heap.size, 3, none⟩ = some (.int .i64 pu))) (exact keep5554 g1 g2 g3 hp (by go_grown)) (first | (go_at_call 53; (with_reducible refine (Q1.out _).mono ?_); rintro e w6 ⟨rfl, hbw6⟩; have hbbw6 := below_on (w := W5) (by go_grown) hbw6; have hsw6 : W5.heap.size ≤ w6.heap.size := hbbw6.size) | (go_at_call 53; (with_reducible refine (Q2.out _).mono ?_); rintro e w7 ⟨rfl, hbw7⟩; have hbbw7 := below_on (w := W5) (by go_grown) hbw7; have hsw7 : W5.heap.size ≤ w7.heap.size := hbbw7.size) | (go_at_call 53; (with_reducible refine (Q3.out _).mono ?_); rintro e w8 ⟨rfl, hbw8⟩; have hbbw8 := below_on (w := W5) (by go_grown) hbw8; have hsw8 : W5.heap.size ≤ w8.heap.size := hbbw8.size))
          go_wp2
          go_roundw
          case rel => exact ⟨k + 1, by go_num, by omega, below_on HB4.out (by go_grown)⟩
          case measure => simp [intOf]; omega
        · have hk' : ¬ (k : Int) < 6 := by omega
          obtain ⟨x0, x1, x2, x3, x4, x5⟩ := c5_on hx4 hbl
          obtain ⟨y0, y1, y2, y3, y4, y5⟩ := c5_on hy4 hbl
          obtain ⟨z0, z1, z2, z3, z4, z5⟩ := c5_on hX4 hbl
          have HBL := Lib.hid hbl
          go_wp2_with fail
          refine (HM.out _).mono ?_
          rintro e w5 ⟨rfl, hb5⟩
          have HB5 := Lib.hid (below_on HBL.out hb5)
          obtain ⟨x0, x1, x2, x3, x4, x5⟩ := c5_on hx4 HB5.out
          obtain ⟨z0, z1, z2, z3, z4, z5⟩ := c5_on hX4 HB5.out
          go_wp2_with fail
          generalize hW5 : w5.alloc (.cells #[.int .i64 pa, .int .i64 pb, .int .i64 pc, .int .i64 pd, .int .i64 pn] 27) = W5
          have HB5W : Hid (Below W4.heap.size W4 W5) := below_on HB5.out (by subst hW5; go_grown)
          clear hW5
          refine (HK.out _).mono ?_
          rintro e w6 ⟨rfl, hb6⟩
          have HB6 := Lib.hid (below_on HB5W.out hb6)
          clear x0 x1 x2 x3 x4 x5 y0 y1 y2 y3 y4 y5 z0 z1 z2 z3 z4 z5 hb5 hb6 hbl
          obtain ⟨x0, x1, x2, x3, x4, x5⟩ := c5_on hx4 HB6.out
          obtain ⟨y0, y1, y2, y3, y4, y5⟩ := c5_on hY HB6.out
          obtain ⟨z0, z1, z2, z3, z4, z5⟩ := c5_on hX4 HB6.out
          go_wp2
          go_ret
          have hfin := below_on hw0 (below_on hbW4 HB6.out)
          exact ⟨rfl, by go_grown⟩
    · have hno : ∃ HI : (∀ W, Calls Try.prog 55 #[.agg #[.int .i64 a, .int .i64 b, .int .i64 c, .int .i64 d, .int .i64 m], .agg #[.int .i64 a', .int .i64 b', .int .i64 c', .int .i64 d', .int .i64 m']] W fun e w' => e = .returned (.tuple #[.agg #[.int .i64 0, .int .i64 0, .int .i64 0, .int .i64 0, .int .i64 0], .bool false]) ∧ Below W.heap.size W w'), (∀ W, Calls Try.prog 56 #[.agg #[.int .i64 a, .int .i64 b, .int .i64 c, .int .i64 d, .int .i64 m], .agg #[.int .i64 a', .int .i64 b', .int .i64 c', .int .i64 d', .int .i64 m']] W fun e w' => e = .returned (.tuple #[.agg #[.int .i64 0, .int .i64 0, .int .i64 0, .int .i64 0, .int .i64 0], .bool false]) ∧ Below W.heap.size W w') := by
        by_cases hh : (tvB a b c d m && tvB a' b' c' d' m') = true
        · obtain ⟨h1, h2⟩ : tvB a b c d m = true ∧ tvB a' b' c' d' m' = true := by simpa using hh
          have h3 : tvB (a + a') (b + b') (c + c') (d + d') (m + m') = false := by simpa [h1, h2] using hv
          exact ⟨fun W => AddTerms_far a b c d m a' b' c' d' m' W h1 h2 h3, fun W => specAddTerms_far a b c d m a' b' c' d' m' W h1 h2 h3⟩
        · have h3 : (tvB a b c d m && tvB a' b' c' d' m') = false := by simpa using hh
          exact ⟨fun W => AddTerms_bad a b c d m a' b' c' d' m' W h3, fun W => specAddTerms_bad a b c d m a' b' c' d' m' W h3⟩
      obtain ⟨hi, hs⟩ := hno
      have HI := Lib.hid hi
      have HS := Lib.hid hs
      clear hi hs hv
      obtain ⟨x0, x1, x2, x3, x4, x5⟩ := id hx
      obtain ⟨y0, y1, y2, y3, y4, y5⟩ := id hy
      refine (HI.out _).mono ?_
      rintro e w2 ⟨rfl, hb2⟩
      obtain ⟨x0, x1, x2, x3, x4, x5⟩ := c5_on hx hb2
      obtain ⟨y0, y1, y2, y3, y4, y5⟩ := c5_on hy hb2
      go_wp2_with fail
      generalize hW2 : w2.alloc (.cells #[.int .i64 0, .int .i64 0, .int .i64 0, .int .i64 0, .int .i64 0] 27) = W2
      have hX : C5 W2 w2.heap.size 0 0 0 0 0 := by subst hW2; exact (by refine ⟨?_, ?_, ?_, ?_, ?_, ?_⟩ <;> first | (simp [go_sem]; done) | (simp; omega))
      have hbW2 : Below W.heap.size W W2 := below_on hb2 (by subst hW2; go_grown)
      clear hW2
      obtain ⟨x0, x1, x2, x3, x4, x5⟩ := c5_on hx hbW2
      obtain ⟨y0, y1, y2, y3, y4, y5⟩ := c5_on hy hbW2
      refine (HS.out _).mono ?_
      rintro e w3 ⟨rfl, hb3⟩
      have hbb3 := below_on hbW2 hb3
      clear x0 x1 x2 x3 x4 x5 y0 y1 y2 y3 y4 y5
      obtain ⟨z0, z1, z2, z3, z4, z5⟩ := c5_on hX hb3
      go_wp2
      go_ret
      have hfin := below_on hw0 hbb3
      exact ⟨rfl, by go_grown⟩
  · have hn' : (1048576 : Int) < (n : Int) := by omega
    go_enter Try.func13, Try.ntmps13
    go_wp2
    go_ret
    exact ⟨rfl, Below.refl _ _⟩

end Go.Proofs.Ythphlkfofbdncaa
