/- The walk of the law on multiples of a term. -/
import Derived.Test.YtjhfmlbnpdnddaaDraw9
import Derived.Test.YtjhfmlbnpdnddaaLawP
import Derived.Test.YtjhfmlbnpdnddaaCont
import Derived.Test.YtjhfmlbnpdnddaaSpecH
namespace Go.Proofs.Ytjhfmlbnpdnddaa
open Go.RowKit

theorem gcd_scale (g : Nat) (b k : Int) : Int.gcd ((g * k.natAbs : Nat) : Int) (b * k) = Int.gcd (g : Int) b * k.natAbs := by
  unfold Int.gcd
  rw [Int.natAbs_mul, Int.natAbs_natCast, Int.natAbs_natCast, Nat.gcd_mul_right]

theorem cont_scale (a b c d k : Int) : cont (a * k) (b * k) (c * k) (d * k) = max k (-k) * cont a b c d := by
  unfold cont
  have e0 : Int.gcd 0 (a * k) = Int.gcd 0 a * k.natAbs := by simp [Int.natAbs_mul]
  rw [e0, gcd_scale, gcd_scale, gcd_scale, Int.natCast_mul]
  have e1 : (k.natAbs : Int) = max k (-k) := by omega
  rw [e1, Int.mul_comm]

theorem cont_bd {a b c d n : Int} (h : tvB a b c d n = true) : 0 ≤ cont a b c d ∧ cont a b c d ≤ 100 := by
  obtain ⟨qa, qb, qc, qd, _⟩ := tv_bd h
  refine ⟨by unfold cont; exact Int.natCast_nonneg _, ?_⟩
  unfold cont
  exact (gcd_le (gcd_le (gcd_le (gcd_le ⟨by omega, by omega⟩ qa) qb) qc) qd).2

theorem ev_scale (a b c d n k x y z u : Int) : ev (a * k) (b * k) (c * k) (d * k) (n * k) x y z u = k * ev a b c d n x y z u := by
  unfold ev
  have e : ∀ p q : Int, p * k * q = k * (p * q) := fun p q => by rw [Int.mul_comm p k, Int.mul_assoc]
  rw [e, e, e, e, Int.mul_comm n k, ← Int.mul_add, ← Int.mul_add, ← Int.mul_add, ← Int.mul_add]

theorem keep554 {W w' : World} {p q t : Nat} {a b c d n a' b' c' d' n' x y z u : Int} (h1 : C5 W p a b c d n) (h2 : C5 W q a' b' c' d' n') (h4 : C4 W t x y z u) (hB : Below W.heap.size W w') :
    Below W.heap.size W w' ∧ (w'.cell? ⟨p, 0, none⟩ = some (.int .i64 a) ∧ w'.cell? ⟨p, 1, none⟩ = some (.int .i64 b) ∧ w'.cell? ⟨p, 2, none⟩ = some (.int .i64 c) ∧ w'.cell? ⟨p, 3, none⟩ = some (.int .i64 d) ∧ w'.cell? ⟨p, 4, none⟩ = some (.int .i64 n)) ∧ (w'.cell? ⟨q, 0, none⟩ = some (.int .i64 a') ∧ w'.cell? ⟨q, 1, none⟩ = some (.int .i64 b') ∧ w'.cell? ⟨q, 2, none⟩ = some (.int .i64 c') ∧ w'.cell? ⟨q, 3, none⟩ = some (.int .i64 d') ∧ w'.cell? ⟨q, 4, none⟩ = some (.int .i64 n')) ∧ (w'.cell? ⟨t, 0, none⟩ = some (.int .i64 x) ∧ w'.cell? ⟨t, 1, none⟩ = some (.int .i64 y) ∧ w'.cell? ⟨t, 2, none⟩ = some (.int .i64 z) ∧ w'.cell? ⟨t, 3, none⟩ = some (.int .i64 u)) :=
  ⟨hB, (c5_on h1 hB).2, (c5_on h2 hB).2, (c4_on h4 hB).2⟩
theorem keep55c {W w' : World} {p q : Nat} {a b c d n a' b' c' d' n' : Int} (h1 : C5 W p a b c d n) (h2 : C5 W q a' b' c' d' n') (hB : Below W.heap.size W w') :
    Below W.heap.size W w' ∧ (w'.cell? ⟨p, 0, none⟩ = some (.int .i64 a) ∧ w'.cell? ⟨p, 1, none⟩ = some (.int .i64 b) ∧ w'.cell? ⟨p, 2, none⟩ = some (.int .i64 c) ∧ w'.cell? ⟨p, 3, none⟩ = some (.int .i64 d) ∧ w'.cell? ⟨p, 4, none⟩ = some (.int .i64 n)) ∧ (w'.cell? ⟨q, 0, none⟩ = some (.int .i64 a') ∧ w'.cell? ⟨q, 1, none⟩ = some (.int .i64 b') ∧ w'.cell? ⟨q, 2, none⟩ = some (.int .i64 c') ∧ w'.cell? ⟨q, 3, none⟩ = some (.int .i64 d') ∧ w'.cell? ⟨q, 4, none⟩ = some (.int .i64 n')) :=
  ⟨hB, (c5_on h1 hB).2, (c5_on h2 hB).2⟩

set_option maxHeartbeats 1000000 in
theorem scaleTerm_walk (sp : Option Addr) (n cap : Nat) (w : World) (h : Code w sp n cap) :
    Calls Try.prog 3 #[.slice sp n cap] w fun e w' => e = .returned (.bool true) ∧ Below w.heap.size w w' := by
  have hc1 := h.1
  have hc2 := h.2.1
  have H := Lib.hid h
  clear h
  by_cases hn : n ≤ 1048576
  · have hn' : ¬ (1048576 : Int) < (n : Int) := by omega
    go_enter Try.func3, Try.ntmps3
    go_wp2_with fail
    refine (DrawScaleTerm_t sp n cap w H.out).mono ?_
    rintro e w1 ⟨a, b, c, d, m, k, rfl, hb1⟩
    have hbs := hb1.size
    have HC1 := Lib.hid (code_on H.out hb1)
    go_wp2_with fail
    generalize hW : w1.alloc (.cells #[.int .i64 a, .int .i64 b, .int .i64 c, .int .i64 d, .int .i64 m] 24) = W
    have hx : C5 W w1.heap.size a b c d m := by subst hW; exact (by refine ⟨?_, ?_, ?_, ?_, ?_, ?_⟩ <;> first | (simp [go_sem]; done) | (simp; omega))
    have hw1 : Below w1.heap.size w1 W := by subst hW; go_grown
    have hw0 : Below w.heap.size w W := below_on hb1 hw1
    have HC := Lib.hid (code_on HC1.out hw1)
    clear hW
    by_cases hv : (tvB a b c d m && wlB k 10000 && tvB (a * k) (b * k) (c * k) (d * k) (m * k)) = true
    · obtain ⟨⟨h1, hk⟩, h3⟩ : (tvB a b c d m = true ∧ wlB k 10000 = true) ∧ tvB (a * k) (b * k) (c * k) (d * k) (m * k) = true := by simpa using hv
      have hev := fun x y z u => ev_scale a b c d m k x y z u
      have hcs := cont_scale a b c d k
      have hi := fun W => ScaleTerm_ok a b c d m k W h1 hk h3
      have hs := fun W => specScaleTerm_ok a b c d m k W h1 hk h3
      obtain ⟨A, hA⟩ : ∃ A, a * k = A := ⟨_, rfl⟩
      obtain ⟨B, hB⟩ : ∃ A, b * k = A := ⟨_, rfl⟩
      obtain ⟨C, hC⟩ : ∃ A, c * k = A := ⟨_, rfl⟩
      obtain ⟨D, hD⟩ : ∃ A, d * k = A := ⟨_, rfl⟩
      obtain ⟨N, hN⟩ : ∃ A, m * k = A := ⟨_, rfl⟩
      rw [hA, hB, hC, hD, hN] at h3 hi hs
      rw [hA, hB, hC, hD] at hcs
      simp only [hA, hB, hC, hD, hN] at hev
      have hci := fun W => ContentOf_ok a b c d m W h1
      have hcx := fun W => ContentOf_ok A B C D N W h3
      have hb1' := cont_bd h1
      have hb3' := cont_bd h3
      obtain ⟨G, hG⟩ : ∃ G, cont a b c d = G := ⟨_, rfl⟩
      obtain ⟨G2, hG2⟩ : ∃ G, cont A B C D = G := ⟨_, rfl⟩
      rw [hG] at hci hcs hb1'
      rw [hG2] at hcx hcs hb3'
      have HI := Lib.hid hi
      have HS := Lib.hid hs
      have HEV := Lib.hid hev
      have HCI := Lib.hid hci
      have HCX := Lib.hid hcx
      have HCS := Lib.hid hcs
      have T1 := Lib.hid h1
      have T3 := Lib.hid h3
      have hkb : -10000 ≤ k ∧ k ≤ 10000 := by simpa [wlB] using hk
      obtain ⟨k0, k1⟩ := hkb
      clear hev h1 h3 hA hB hC hD hN hv hi hs hci hcx hcs hG hG2 hk
      obtain ⟨x0, x1, x2, x3, x4, x5⟩ := id hx
      refine (HI.out _).mono ?_
      rintro e w2 ⟨rfl, hb2⟩
      obtain ⟨x0, x1, x2, x3, x4, x5⟩ := c5_on hx hb2
      go_wp2_with fail
      generalize hW2 : w2.alloc (.cells #[.int .i64 A, .int .i64 B, .int .i64 C, .int .i64 D, .int .i64 N] 24) = W2
      have hX : C5 W2 w2.heap.size A B C D N := by subst hW2; exact (by refine ⟨?_, ?_, ?_, ?_, ?_, ?_⟩ <;> first | (simp [go_sem]; done) | (simp; omega))
      have hbW2 : Below W.heap.size W W2 := below_on hb2 (by subst hW2; go_grown)
      clear hW2
      obtain ⟨x0, x1, x2, x3, x4, x5⟩ := c5_on hx hbW2
      refine (HS.out _).mono ?_
      rintro e w3 ⟨rfl, hb3⟩
      have hbb3 := below_on hbW2 hb3
      obtain ⟨x0, x1, x2, x3, x4, x5⟩ := c5_on hx hbb3
      obtain ⟨z0, z1, z2, z3, z4, z5⟩ := c5_on hX hb3
      go_wp2_with fail
      generalize hW4 : w3.alloc (.cells #[.int .i64 A, .int .i64 B, .int .i64 C, .int .i64 D, .int .i64 N] 24) = W4
      have hb33 : Below w3.heap.size w3 W4 := by subst hW4; go_grown
      clear hW4
      have hbW4 := below_on hbb3 hb33
      have hX4 := c5_on hX (below_on hb3 hb33)
      have hx4 := c5_on hx hbW4
      have HC4 := Lib.hid (code_on HC.out hbW4)
      clear x0 x1 x2 x3 x4 x5 z0 z1 z2 z3 z4 z5
      go_loopw [9] (fun i wr => ∃ j : Nat, i = .int .i64 j ∧ j ≤ 6 ∧ Below W4.heap.size W4 wr) (fun i _ => 6 - (intOf i).toNat)
      case atStart => exact ⟨0, rfl, by omega, Below.refl _ _⟩
      case round =>
        obtain ⟨j, rfl, hj, hbl⟩ := hrel
        by_cases hj6 : j < 6
        · have hj' : (j : Int) < 6 := by omega
          go_wp2_with fail
          refine (pbPoint_any sp n cap j wr (code_on HC4.out hbl) hn (by omega) (by omega)).mono ?_
          rintro e w5 ⟨px, py, pz, pu, rfl, hb5, ⟨px0, px1⟩, ⟨py0, py1⟩, ⟨pz0, pz1⟩, pu0, pu1⟩
          have hpv : pvB px py pz pu = true := by simp [pvB, inB]; omega
          obtain ⟨E2, h2⟩ : ∃ E, ev a b c d m px py pz pu = E := ⟨_, rfl⟩
          have e2 := ev_bd T1.out hpv
          have e1 := ev_bd T3.out hpv
          have h1 := HEV.out px py pz pu
          rw [h2] at e2 h1
          rw [h1] at e1
          have q1 := fun W => pbEval_ok A B C D N px py pz pu W (by simp [T3.out, hpv])
          have q2 := fun W => pbEval_ok a b c d m px py pz pu W (by simp [T1.out, hpv])
          rw [h1] at q1
          rw [h2] at q2
          obtain ⟨E1, hE1⟩ : ∃ E, k * E2 = E := ⟨_, rfl⟩
          rw [hE1] at q1 e1
          have Q1 := Lib.hid q1
          have Q2 := Lib.hid q2
          have hwr : IntKind.i64.wrap (k * E2) = E1 := by rw [IntKind.wrap_i64, hE1]; omega
          clear q1 q2 h1 h2 hpv px0 px1 py0 py1 pz0 pz1 pu0 pu1 hE1
          have hb5W := below_on hbl hb5
          go_wp2_with fail
          generalize hW5 : w5.alloc (.cells #[.int .i64 px, .int .i64 py, .int .i64 pz, .int .i64 pu] 30) = W5
          have hb55 : Below w5.heap.size w5 W5 := by subst hW5; go_grown
          have hp : C4 W5 w5.heap.size px py pz pu := by subst hW5; exact (by refine ⟨?_, ?_, ?_, ?_, ?_⟩ <;> first | (simp [go_sem]; done) | (simp; omega))
          clear hW5
          have hb4W := below_on hb5W hb55
          have g1 := c5_on hX4 hb4W
          have g2 := c5_on hx4 hb4W
          have HB4 := Lib.hid hb4W
          clear hb4W hb5W hb5 hb55 hbl
          go_region_held3 (fun w' => Below W5.heap.size W5 w' ∧ (w'.cell? ⟨w2.heap.size, 0, none⟩ = some (.int .i64 A) ∧ w'.cell? ⟨w2.heap.size, 1, none⟩ = some (.int .i64 B) ∧ w'.cell? ⟨w2.heap.size, 2, none⟩ = some (.int .i64 C) ∧ w'.cell? ⟨w2.heap.size, 3, none⟩ = some (.int .i64 D) ∧ w'.cell? ⟨w2.heap.size, 4, none⟩ = some (.int .i64 N)) ∧ (w'.cell? ⟨w1.heap.size, 0, none⟩ = some (.int .i64 a) ∧ w'.cell? ⟨w1.heap.size, 1, none⟩ = some (.int .i64 b) ∧ w'.cell? ⟨w1.heap.size, 2, none⟩ = some (.int .i64 c) ∧ w'.cell? ⟨w1.heap.size, 3, none⟩ = some (.int .i64 d) ∧ w'.cell? ⟨w1.heap.size, 4, none⟩ = some (.int .i64 m)) ∧ (w'.cell? ⟨w5.heap.size, 0, none⟩ = some (.int .i64 px) ∧ w'.cell? ⟨w5.heap.size, 1, none⟩ = some (.int .i64 py) ∧ w'.cell? ⟨w5.heap.size, 2, none⟩ = some (.int .i64 pz) ∧ w'.cell? ⟨w5.heap.size, 3, none⟩ = some (.int .i64 pu))) (exact keep554 g1 g2 hp (by go_grown)) (first | (go_at_call 19; (with_reducible refine (Q1.out _).mono ?_); rintro e w6 ⟨rfl, hb6⟩; have hbb6 := below_on (w := W5) (by go_grown) hb6; have hs6 : W5.heap.size ≤ w6.heap.size := hbb6.size) | (go_at_call 19; (with_reducible refine (Q2.out _).mono ?_); rintro e w7 ⟨rfl, hb7⟩; have hbb7 := below_on (w := W5) (by go_grown) hb7; have hs7 : W5.heap.size ≤ w7.heap.size := hbb7.size))
          go_wp2
          go_roundw
          case rel => exact ⟨j + 1, by go_num, by omega, below_on HB4.out (by go_grown)⟩
          case measure => simp [intOf]; omega
        · have hj' : ¬ (j : Int) < 6 := by omega
          have g1 := c5_on hX4 hbl
          have g2 := c5_on hx4 hbl
          have HBL := Lib.hid hbl
          obtain ⟨Wl, hWl⟩ : ∃ W, W = wr := ⟨_, rfl⟩
          clear hbl
          have hcs := HCS.out
          by_cases hkk : k < -k
          · have hwn : IntKind.i64.wrap (-k) = -k := by rw [IntKind.wrap_i64]; omega
            have hmx : (k < -k) = True := by simp; omega
            have hwp : IntKind.i64.wrap (-k * G) = G2 := by
              have e1 : max k (-k) = -k := by omega
              rw [e1] at hcs
              rw [IntKind.wrap_i64, ← hcs]; omega
            have hwp2 : IntKind.i64.wrap (-(k * G)) = G2 := by rw [← Int.neg_mul]; exact hwp
            clear hcs hkk
            subst hWl
            go_wp2_with fail
            go_region_held3 (fun w' => Below Wl.heap.size Wl w' ∧ (w'.cell? ⟨w2.heap.size, 0, none⟩ = some (.int .i64 A) ∧ w'.cell? ⟨w2.heap.size, 1, none⟩ = some (.int .i64 B) ∧ w'.cell? ⟨w2.heap.size, 2, none⟩ = some (.int .i64 C) ∧ w'.cell? ⟨w2.heap.size, 3, none⟩ = some (.int .i64 D) ∧ w'.cell? ⟨w2.heap.size, 4, none⟩ = some (.int .i64 N)) ∧ (w'.cell? ⟨w1.heap.size, 0, none⟩ = some (.int .i64 a) ∧ w'.cell? ⟨w1.heap.size, 1, none⟩ = some (.int .i64 b) ∧ w'.cell? ⟨w1.heap.size, 2, none⟩ = some (.int .i64 c) ∧ w'.cell? ⟨w1.heap.size, 3, none⟩ = some (.int .i64 d) ∧ w'.cell? ⟨w1.heap.size, 4, none⟩ = some (.int .i64 m))) (exact keep55c g1 g2 (by go_grown)) (first | (go_at_call 20; (with_reducible refine (HCX.out _).mono ?_); rintro e w6 ⟨rfl, hb6⟩; have hbb6 := below_on (w := Wl) (by go_grown) hb6; have hs6 : Wl.heap.size ≤ w6.heap.size := hbb6.size) | (go_at_call 20; (with_reducible refine (HCI.out _).mono ?_); rintro e w7 ⟨rfl, hb7⟩; have hbb7 := below_on (w := Wl) (by go_grown) hb7; have hs7 : Wl.heap.size ≤ w7.heap.size := hbb7.size))
            all_goals
              go_wp2
              go_ret
              have hfin := below_on hw0 (below_on hbW4 HBL.out)
              have hfs := hfin.size
              exact ⟨rfl, below_on hfin (by go_grown)⟩
          · have hwn : IntKind.i64.wrap (-k) = -k := by rw [IntKind.wrap_i64]; omega
            have hmx : (k < -k) = False := by simp; omega
            have hwp : IntKind.i64.wrap (k * G) = G2 := by
              have e1 : max k (-k) = k := by omega
              rw [e1] at hcs
              rw [IntKind.wrap_i64, ← hcs]; omega
            clear hcs hkk
            subst hWl
            go_wp2_with fail
            go_region_held3 (fun w' => Below Wl.heap.size Wl w' ∧ (w'.cell? ⟨w2.heap.size, 0, none⟩ = some (.int .i64 A) ∧ w'.cell? ⟨w2.heap.size, 1, none⟩ = some (.int .i64 B) ∧ w'.cell? ⟨w2.heap.size, 2, none⟩ = some (.int .i64 C) ∧ w'.cell? ⟨w2.heap.size, 3, none⟩ = some (.int .i64 D) ∧ w'.cell? ⟨w2.heap.size, 4, none⟩ = some (.int .i64 N)) ∧ (w'.cell? ⟨w1.heap.size, 0, none⟩ = some (.int .i64 a) ∧ w'.cell? ⟨w1.heap.size, 1, none⟩ = some (.int .i64 b) ∧ w'.cell? ⟨w1.heap.size, 2, none⟩ = some (.int .i64 c) ∧ w'.cell? ⟨w1.heap.size, 3, none⟩ = some (.int .i64 d) ∧ w'.cell? ⟨w1.heap.size, 4, none⟩ = some (.int .i64 m))) (exact keep55c g1 g2 (by go_grown)) (first | (go_at_call 20; (with_reducible refine (HCX.out _).mono ?_); rintro e w6 ⟨rfl, hb6⟩; have hbb6 := below_on (w := Wl) (by go_grown) hb6; have hs6 : Wl.heap.size ≤ w6.heap.size := hbb6.size) | (go_at_call 20; (with_reducible refine (HCI.out _).mono ?_); rintro e w7 ⟨rfl, hb7⟩; have hbb7 := below_on (w := Wl) (by go_grown) hb7; have hs7 : Wl.heap.size ≤ w7.heap.size := hbb7.size))
            all_goals
              go_wp2
              go_ret
              have hfin := below_on hw0 (below_on hbW4 HBL.out)
              have hfs := hfin.size
              exact ⟨rfl, below_on hfin (by go_grown)⟩
    · have hno : ∃ HI : (∀ W, Calls Try.prog 16 #[.agg #[.int .i64 a, .int .i64 b, .int .i64 c, .int .i64 d, .int .i64 m], .int .i64 k] W fun e w' => e = .returned (.tuple #[.agg #[.int .i64 0, .int .i64 0, .int .i64 0, .int .i64 0, .int .i64 0], .bool false]) ∧ Below W.heap.size W w'), (∀ W, Calls Try.prog 17 #[.agg #[.int .i64 a, .int .i64 b, .int .i64 c, .int .i64 d, .int .i64 m], .int .i64 k] W fun e w' => e = .returned (.tuple #[.agg #[.int .i64 0, .int .i64 0, .int .i64 0, .int .i64 0, .int .i64 0], .bool false]) ∧ Below W.heap.size W w') := by
        by_cases hh : (tvB a b c d m && wlB k 10000) = true
        · obtain ⟨h1, h2⟩ : tvB a b c d m = true ∧ wlB k 10000 = true := by simpa using hh
          have h3 : tvB (a * k) (b * k) (c * k) (d * k) (m * k) = false := by simpa [h1, h2] using hv
          exact ⟨fun W => ScaleTerm_far a b c d m k W h1 h2 h3, fun W => specScaleTerm_far a b c d m k W h1 h2 h3⟩
        · have h3 : (tvB a b c d m && wlB k 10000) = false := by simpa using hh
          exact ⟨fun W => ScaleTerm_bad a b c d m k W h3, fun W => specScaleTerm_bad a b c d m k W h3⟩
      obtain ⟨hi, hs⟩ := hno
      have HI := Lib.hid hi
      have HS := Lib.hid hs
      clear hi hs hv
      obtain ⟨x0, x1, x2, x3, x4, x5⟩ := id hx
      refine (HI.out _).mono ?_
      rintro e w2 ⟨rfl, hb2⟩
      obtain ⟨x0, x1, x2, x3, x4, x5⟩ := c5_on hx hb2
      go_wp2_with fail
      generalize hW2 : w2.alloc (.cells #[.int .i64 0, .int .i64 0, .int .i64 0, .int .i64 0, .int .i64 0] 24) = W2
      have hX : C5 W2 w2.heap.size 0 0 0 0 0 := by subst hW2; exact (by refine ⟨?_, ?_, ?_, ?_, ?_, ?_⟩ <;> first | (simp [go_sem]; done) | (simp; omega))
      have hbW2 : Below W.heap.size W W2 := below_on hb2 (by subst hW2; go_grown)
      clear hW2
      obtain ⟨x0, x1, x2, x3, x4, x5⟩ := c5_on hx hbW2
      refine (HS.out _).mono ?_
      rintro e w3 ⟨rfl, hb3⟩
      have hbb3 := below_on hbW2 hb3
      clear x0 x1 x2 x3 x4 x5
      obtain ⟨z0, z1, z2, z3, z4, z5⟩ := c5_on hX hb3
      go_wp2
      go_ret
      have hfin := below_on hw0 hbb3
      exact ⟨rfl, by go_grown⟩
  · have hn' : (1048576 : Int) < (n : Int) := by omega
    go_enter Try.func3, Try.ntmps3
    go_wp2
    go_ret
    exact ⟨rfl, Below.refl _ _⟩

end Go.Proofs.Ytjhfmlbnpdnddaa
