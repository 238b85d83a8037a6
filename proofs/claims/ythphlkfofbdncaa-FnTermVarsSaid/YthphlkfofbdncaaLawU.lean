/- The walk of the law on the value of a term. -/
import Derived.Test.YthphlkfofbdncaaDrawB
import Derived.Test.YthphlkfofbdncaaLawR
import Derived.Test.YthphlkfofbdncaaSpecC
namespace Go.Proofs.Ythphlkfofbdncaa
open Go.RowKit

/-- The sum of the first k parts of a term's value. -/
def ps (a b c d m x y z u : Int) (k : Nat) : Int := if k = 0 then m else if k = 1 then m + a * x else if k = 2 then m + a * x + b * y else if k = 3 then m + a * x + b * y + c * z else ev a b c d m x y z u
theorem ps_step (a b c d m x y z u : Int) (k : Nat) (h : k < 4) : ps a b c d m x y z u k + sel a b c d (k : Int) 0 * sel x y z u (k : Int) (-1) = ps a b c d m x y z u (k + 1) := by
  have h' : k = 0 ∨ k = 1 ∨ k = 2 ∨ k = 3 := by omega
  rcases h' with rfl | rfl | rfl | rfl <;> simp [ps, sel, ev]
theorem ps_bd {a b c d m x y z u : Int} (k : Nat) (h : tvB a b c d m = true) (hp : pvB x y z u = true) : -1000000 ≤ ps a b c d m x y z u k ∧ ps a b c d m x y z u k ≤ 1000000 := by
  obtain ⟨⟨a0, a1⟩, ⟨b0, b1⟩, ⟨c0, c1⟩, ⟨d0, d1⟩, n0, n1⟩ := tv_bd h
  simp only [pvB, inB, Bool.and_eq_true, decide_eq_true_eq] at hp
  obtain ⟨⟨⟨⟨x0, x1⟩, y0, y1⟩, z0, z1⟩, u0, u1⟩ := hp
  obtain ⟨p0, p1⟩ := mul_bd a0 a1 x0 x1 (by omega)
  obtain ⟨q0, q1⟩ := mul_bd b0 b1 y0 y1 (by omega)
  obtain ⟨r0, r1⟩ := mul_bd c0 c1 z0 z1 (by omega)
  obtain ⟨s0, s1⟩ := mul_bd d0 d1 u0 u1 (by omega)
  unfold ps ev
  split <;> (try split) <;> (try split) <;> (try split) <;> omega
theorem keep54t {W w' : World} {q t : Nat} {a' b' c' d' n' x y z u : Int} (h2 : C5 W q a' b' c' d' n') (h4 : C4 W t x y z u) (hB : Below W.heap.size W w') :
    Below W.heap.size W w' ∧ (w'.cell? ⟨q, 0, none⟩ = some (.int .i64 a') ∧ w'.cell? ⟨q, 1, none⟩ = some (.int .i64 b') ∧ w'.cell? ⟨q, 2, none⟩ = some (.int .i64 c') ∧ w'.cell? ⟨q, 3, none⟩ = some (.int .i64 d') ∧ w'.cell? ⟨q, 4, none⟩ = some (.int .i64 n')) ∧ (w'.cell? ⟨t, 0, none⟩ = some (.int .i64 x) ∧ w'.cell? ⟨t, 1, none⟩ = some (.int .i64 y) ∧ w'.cell? ⟨t, 2, none⟩ = some (.int .i64 z) ∧ w'.cell? ⟨t, 3, none⟩ = some (.int .i64 u)) := ⟨hB, (c5_on h2 hB).2, (c4_on h4 hB).2⟩
theorem keep5 {W w' : World} {q : Nat} {a' b' c' d' n' : Int} (h2 : C5 W q a' b' c' d' n') (hB : Below W.heap.size W w') :
    Below W.heap.size W w' ∧ (w'.cell? ⟨q, 0, none⟩ = some (.int .i64 a') ∧ w'.cell? ⟨q, 1, none⟩ = some (.int .i64 b') ∧ w'.cell? ⟨q, 2, none⟩ = some (.int .i64 c') ∧ w'.cell? ⟨q, 3, none⟩ = some (.int .i64 d') ∧ w'.cell? ⟨q, 4, none⟩ = some (.int .i64 n')) := ⟨hB, (c5_on h2 hB).2⟩

set_option maxHeartbeats 4000000 in
theorem evalSum_walk (sp : Option Addr) (n cap : Nat) (w : World) (h : Code w sp n cap) :
    Calls Try.prog 12 #[.slice sp n cap] w fun e w' => e = .returned (.bool true) ∧ Below w.heap.size w w' := by
  have hc1 := h.1
  have hc2 := h.2.1
  have H := Lib.hid h
  clear h
  by_cases hn : n ≤ 1048576
  · have hn' : ¬ (1048576 : Int) < (n : Int) := by omega
    go_enter Try.func12, Try.ntmps12
    go_wp2_with fail
    refine (DrawEvalTerm_t sp n cap w H.out).mono ?_
    rintro e w1 ⟨a, b, c, d, m, x, y, z, u, rfl, hb1⟩
    have hbs := hb1.size
    go_wp2_with fail
    generalize hW : (w1.alloc (.cells #[.int .i64 a, .int .i64 b, .int .i64 c, .int .i64 d, .int .i64 m] 27)).alloc (.cells #[.int .i64 x, .int .i64 y, .int .i64 z, .int .i64 u] 54) = W
    have hx : C5 W w1.heap.size a b c d m := by subst hW; exact (by refine ⟨?_, ?_, ?_, ?_, ?_, ?_⟩ <;> first | (simp [go_sem]; done) | (simp; omega))
    have hy : C4 W (w1.heap.size + 1) x y z u := by subst hW; exact (by refine ⟨?_, ?_, ?_, ?_, ?_⟩ <;> first | (simp [go_sem]; done) | (simp; omega))
    have hw1 : Below w1.heap.size w1 W := by subst hW; go_grown
    have hw0 : Below w.heap.size w W := below_on hb1 hw1
    clear hW
    by_cases hv : (tvB a b c d m && pvB x y z u) = true
    · obtain ⟨h1, h2⟩ : tvB a b c d m = true ∧ pvB x y z u = true := by simpa using hv
      have hi := fun W => EvalTerm_ok a b c d m x y z u W hv
      have hs := fun W => specEvalTerm_ok a b c d m x y z u W hv
      have hpe := fun W => pbEval_ok a b c d m 0 0 0 0 W (by simp [h1, pvB, inB])
      have e0 : ev a b c d m 0 0 0 0 = m := by simp [ev]
      rw [e0] at hpe
      have hst := fun k (hk : k < 4) => ps_step a b c d m x y z u k hk
      have hbd := fun k => ps_bd (a := a) (b := b) (c := c) (d := d) (m := m) (x := x) (y := y) (z := z) (u := u) k h1 h2
      have h4 : ps a b c d m x y z u 4 = ev a b c d m x y z u := rfl
      have hm0 : ps a b c d m x y z u 0 = m := rfl
      obtain ⟨E, hE⟩ : ∃ E, ev a b c d m x y z u = E := ⟨_, rfl⟩
      obtain ⟨S, hS⟩ : ∃ S : Nat → Int, S = ps a b c d m x y z u := ⟨_, rfl⟩
      rw [hE] at hi hs h4
      rw [← hS] at hst hbd h4 hm0
      have hcb : ∀ k : Nat, -100 ≤ sel a b c d (k : Int) 0 ∧ sel a b c d (k : Int) 0 ≤ 100 := fun k => by
        have := tv_bd h1
        unfold sel
        split <;> (try split) <;> (try split) <;> (try split) <;> omega
      have hvb : ∀ k : Nat, k < 4 → 0 ≤ sel x y z u (k : Int) (-1) ∧ sel x y z u (k : Int) (-1) ≤ 1000 := fun k hk => by
        have hp := h2
        simp only [pvB, inB, Bool.and_eq_true, decide_eq_true_eq] at hp
        unfold sel
        split <;> (try split) <;> (try split) <;> (try split) <;> omega
      have HI := Lib.hid hi
      have HS := Lib.hid hs
      have HPE := Lib.hid hpe
      have HST := Lib.hid hst
      have HBD := Lib.hid hbd
      have H4 := Lib.hid h4
      have HM0 := Lib.hid hm0
      have HCB := Lib.hid hcb
      have HVB := Lib.hid hvb
      have T1 := Lib.hid h1
      have P1 := Lib.hid h2
      clear hi hs hpe e0 hst hbd h4 hE hS h1 h2 hv hm0 hcb hvb
      obtain ⟨x0, x1, x2, x3, x4, x5⟩ := id hx
      obtain ⟨y0, y1, y2, y3, y4⟩ := id hy
      refine (HI.out _).mono ?_
      rintro e w2 ⟨rfl, hb2⟩
      obtain ⟨x0, x1, x2, x3, x4, x5⟩ := c5_on hx hb2
      obtain ⟨y0, y1, y2, y3, y4⟩ := c4_on hy hb2
      go_wp2_with fail
      refine (HS.out _).mono ?_
      rintro e W3 ⟨rfl, hb3⟩
      have hbb3 := below_on hb2 hb3
      clear x0 x1 x2 x3 x4 x5 y0 y1 y2 y3 y4
      have hx3 := c5_on hx hbb3
      have hy3 := c4_on hy hbb3
      obtain ⟨x0, x1, x2, x3, x4, x5⟩ := id hx3
      obtain ⟨y0, y1, y2, y3, y4⟩ := id hy3
      go_wp2_with fail
      refine (TermValid_is _ _ _ _ _ true _ T1.out).mono ?_
      rintro e w4 ⟨rfl, hw4⟩
      have hb4 : Below W3.heap.size W3 w4 := by subst hw4; go_grown
      clear hw4 x0 x1 x2 x3 x4 x5 y0 y1 y2 y3 y4
      obtain ⟨y0, y1, y2, y3, y4⟩ := c4_on hy3 hb4
      go_wp2_with fail
      refine (PointValid_is _ _ _ _ true _ P1.out).mono ?_
      rintro e W4 ⟨rfl, hw5⟩
      have hb5 : Below w4.heap.size w4 W4 := by subst hw5; go_grown
      have hb34 : Below W3.heap.size W3 W4 := below_on hb4 hb5
      clear hw5 y0 y1 y2 y3 y4
      have hx4 := c5_on hx3 hb34
      have hy4 := c4_on hy3 hb34
      have hbW4 := below_on hbb3 hb34
      obtain ⟨x0, x1, x2, x3, x4, x5⟩ := id hx4
      go_wp2_with fail
      clear x0 x1 x2 x3 x4 x5
      go_loopw [9, 10] (fun sv i wr => ∃ k : Nat, i = .int .i64 k ∧ k ≤ 4 ∧ sv = .int .i64 (S k) ∧ Below W4.heap.size W4 wr) (fun _ i _ => 4 - (intOf i).toNat)
      case atStart => exact ⟨0, rfl, by omega, by rw [HM0.out], Below.refl _ _⟩
      case round =>
        obtain ⟨k, rfl, hk, rfl, hbl⟩ := hrel
        by_cases hk4 : k < 4
        · have hk' : (k : Int) < 4 := by omega
          have c1 := HCB.out k
          have c2 := HVB.out k hk4
          have c3 := HBD.out k
          have c4 := HBD.out (k + 1)
          have c5 := HST.out k hk4
          have qc := fun W => CoefOf_any a b c d m (k : Int) W
          have qv := fun W => ValueOf_any x y z u (k : Int) W
          obtain ⟨C, hC⟩ : ∃ q, sel a b c d (k : Int) 0 = q := ⟨_, rfl⟩
          obtain ⟨V, hV⟩ : ∃ q, sel x y z u (k : Int) (-1) = q := ⟨_, rfl⟩
          rw [hC] at c1 c5 qc
          rw [hV] at c2 c5 qv
          have cm := mul_bd c1.1 c1.2 c2.1 c2.2 (by omega)
          obtain ⟨P, hP⟩ : ∃ q, C * V = q := ⟨_, rfl⟩
          obtain ⟨S0, hS0⟩ : ∃ q, S k = q := ⟨_, rfl⟩
          obtain ⟨S1, hS1⟩ : ∃ q, S (k + 1) = q := ⟨_, rfl⟩
          rw [hS0] at c3 c5
          rw [hS1] at c4 c5
          rw [hP] at cm c5
          have QC := Lib.hid qc
          have QV := Lib.hid qv
          have HS1 := Lib.hid hS1
          have hwm : IntKind.i64.wrap (C * V) = P := by rw [IntKind.wrap_i64, hP]; omega
          have hws : IntKind.i64.wrap (S0 + P) = S1 := by rw [IntKind.wrap_i64, c5]; omega
          have g1 := c5_on hx4 hbl
          have g2 := c4_on hy4 hbl
          have HBL := Lib.hid hbl
          rw [hS0]
          obtain ⟨Wl, hWl⟩ : ∃ W, W = wr := ⟨_, rfl⟩
          clear qc qv hC hV hP hS0 hS1 c1 c2 c3 c4 c5 cm hbl
          subst hWl
          go_wp2_with fail
          go_region_held3 (fun w' => Below Wl.heap.size Wl w' ∧ (w'.cell? ⟨w1.heap.size, 0, none⟩ = some (.int .i64 a) ∧ w'.cell? ⟨w1.heap.size, 1, none⟩ = some (.int .i64 b) ∧ w'.cell? ⟨w1.heap.size, 2, none⟩ = some (.int .i64 c) ∧ w'.cell? ⟨w1.heap.size, 3, none⟩ = some (.int .i64 d) ∧ w'.cell? ⟨w1.heap.size, 4, none⟩ = some (.int .i64 m)) ∧ (w'.cell? ⟨w1.heap.size + 1, 0, none⟩ = some (.int .i64 x) ∧ w'.cell? ⟨w1.heap.size + 1, 1, none⟩ = some (.int .i64 y) ∧ w'.cell? ⟨w1.heap.size + 1, 2, none⟩ = some (.int .i64 z) ∧ w'.cell? ⟨w1.heap.size + 1, 3, none⟩ = some (.int .i64 u))) (exact keep54t g1 g2 (by go_grown)) (first | (go_at_call 52; (with_reducible refine (QC.out _).mono ?_); rintro e w6 ⟨rfl, hb6⟩; have hbb6 := below_on (w := Wl) (by go_grown) hb6; have hs6 : Wl.heap.size ≤ w6.heap.size := hbb6.size) | (go_at_call 46; (with_reducible refine (QV.out _).mono ?_); rintro e w7 ⟨rfl, hb7⟩; have hbb7 := below_on (w := Wl) (by go_grown) hb7; have hs7 : Wl.heap.size ≤ w7.heap.size := hbb7.size))
          all_goals
            go_wp2
            go_roundw
            case rel => exact ⟨k + 1, by go_num, by omega, by rw [HS1.out], below_on HBL.out (by go_grown)⟩
            case measure => simp [intOf]; omega
        · have hk' : ¬ (k : Int) < 4 := by omega
          obtain rfl : k = 4 := by omega
          have h4 := H4.out
          rw [h4]
          have g1 := c5_on hx4 hbl
          have HBL := Lib.hid hbl
          obtain ⟨Wl, hWl⟩ : ∃ W, W = wr := ⟨_, rfl⟩
          clear hbl h4
          subst hWl
          go_wp2_with fail
          go_region_held3 (fun w' => Below Wl.heap.size Wl w' ∧ (w'.cell? ⟨w1.heap.size, 0, none⟩ = some (.int .i64 a) ∧ w'.cell? ⟨w1.heap.size, 1, none⟩ = some (.int .i64 b) ∧ w'.cell? ⟨w1.heap.size, 2, none⟩ = some (.int .i64 c) ∧ w'.cell? ⟨w1.heap.size, 3, none⟩ = some (.int .i64 d) ∧ w'.cell? ⟨w1.heap.size, 4, none⟩ = some (.int .i64 m))) (exact keep5 g1 (by go_grown)) (first | (go_at_call 53; (with_reducible refine (HPE.out _).mono ?_); rintro e w6 ⟨rfl, hb6⟩; have hbb6 := below_on (w := Wl) (by go_grown) hb6; have hs6 : Wl.heap.size ≤ w6.heap.size := hbb6.size))
          all_goals
            go_wp2
            go_ret
            have hfin := below_on hw0 (below_on hbW4 HBL.out)
            have hfs := hfin.size
            exact ⟨rfl, below_on hfin (by go_grown)⟩
    · have h4 : (tvB a b c d m && pvB x y z u) = false := by simpa using hv
      have HI := Lib.hid fun W => EvalTerm_bad a b c d m x y z u W h4
      have HS := Lib.hid fun W => specEvalTerm_bad a b c d m x y z u W h4
      by_cases h1 : tvB a b c d m = true
      · have h2 : pvB x y z u = false := by simpa [h1] using h4
        have T1 := Lib.hid h1
        have P1 := Lib.hid h2
        clear hv h4 h1 h2
        obtain ⟨x0, x1, x2, x3, x4, x5⟩ := id hx
        obtain ⟨y0, y1, y2, y3, y4⟩ := id hy
        refine (HI.out _).mono ?_
        rintro e w2 ⟨rfl, hb2⟩
        obtain ⟨x0, x1, x2, x3, x4, x5⟩ := c5_on hx hb2
        obtain ⟨y0, y1, y2, y3, y4⟩ := c4_on hy hb2
        go_wp2_with fail
        refine (HS.out _).mono ?_
        rintro e W3 ⟨rfl, hb3⟩
        have hbb3 := below_on hb2 hb3
        clear x0 x1 x2 x3 x4 x5 y0 y1 y2 y3 y4
        obtain ⟨x0, x1, x2, x3, x4, x5⟩ := c5_on hx hbb3
        obtain ⟨y0, y1, y2, y3, y4⟩ := c4_on hy hbb3
        go_wp2_with fail
        refine (TermValid_is _ _ _ _ _ true _ T1.out).mono ?_
        rintro e v0 ⟨rfl, hwv0⟩
        have hbv0 : Below W3.heap.size W3 v0 := by subst hwv0; go_grown
        have hcv0 := below_on hbb3 hbv0
        clear hwv0 x0 x1 x2 x3 x4 x5 y0 y1 y2 y3 y4
        obtain ⟨x0, x1, x2, x3, x4, x5⟩ := c5_on hx hcv0
        obtain ⟨y0, y1, y2, y3, y4⟩ := c4_on hy hcv0
        go_wp2_with fail
        refine (PointValid_is _ _ _ _ false _ P1.out).mono ?_
        rintro e v1 ⟨rfl, hwv1⟩
        have hbv1 : Below v0.heap.size v0 v1 := by subst hwv1; go_grown
        have hcv1 := below_on hcv0 hbv1
        clear hwv1 x0 x1 x2 x3 x4 x5 y0 y1 y2 y3 y4
        obtain ⟨x0, x1, x2, x3, x4, x5⟩ := c5_on hx hcv1
        obtain ⟨y0, y1, y2, y3, y4⟩ := c4_on hy hcv1
        go_wp2_with fail
        refine (TermValid_is _ _ _ _ _ true _ T1.out).mono ?_
        rintro e v2 ⟨rfl, hwv2⟩
        have hbv2 : Below v1.heap.size v1 v2 := by subst hwv2; go_grown
        have hcv2 := below_on hcv1 hbv2
        clear hwv2 x0 x1 x2 x3 x4 x5 y0 y1 y2 y3 y4
        obtain ⟨x0, x1, x2, x3, x4, x5⟩ := c5_on hx hcv2
        obtain ⟨y0, y1, y2, y3, y4⟩ := c4_on hy hcv2
        go_wp2_with fail
        refine (PointValid_is _ _ _ _ false _ P1.out).mono ?_
        rintro e v3 ⟨rfl, hwv3⟩
        have hbv3 : Below v2.heap.size v2 v3 := by subst hwv3; go_grown
        have hcv3 := below_on hcv2 hbv3
        clear hwv3 x0 x1 x2 x3 x4 x5 y0 y1 y2 y3 y4
        obtain ⟨x0, x1, x2, x3, x4, x5⟩ := c5_on hx hcv3
        obtain ⟨y0, y1, y2, y3, y4⟩ := c4_on hy hcv3
        go_wp2
        go_ret
        exact ⟨rfl, below_on hw0 hcv3⟩
      · have h2 : tvB a b c d m = false := by simpa using h1
        have T1 := Lib.hid h2
        clear hv h4 h1 h2
        obtain ⟨x0, x1, x2, x3, x4, x5⟩ := id hx
        obtain ⟨y0, y1, y2, y3, y4⟩ := id hy
        refine (HI.out _).mono ?_
        rintro e w2 ⟨rfl, hb2⟩
        obtain ⟨x0, x1, x2, x3, x4, x5⟩ := c5_on hx hb2
        obtain ⟨y0, y1, y2, y3, y4⟩ := c4_on hy hb2
        go_wp2_with fail
        refine (HS.out _).mono ?_
        rintro e W3 ⟨rfl, hb3⟩
        have hbb3 := below_on hb2 hb3
        clear x0 x1 x2 x3 x4 x5 y0 y1 y2 y3 y4
        obtain ⟨x0, x1, x2, x3, x4, x5⟩ := c5_on hx hbb3
        obtain ⟨y0, y1, y2, y3, y4⟩ := c4_on hy hbb3
        go_wp2_with fail
        refine (TermValid_is _ _ _ _ _ false _ T1.out).mono ?_
        rintro e v0 ⟨rfl, hwv0⟩
        have hbv0 : Below W3.heap.size W3 v0 := by subst hwv0; go_grown
        have hcv0 := below_on hbb3 hbv0
        clear hwv0 x0 x1 x2 x3 x4 x5 y0 y1 y2 y3 y4
        obtain ⟨x0, x1, x2, x3, x4, x5⟩ := c5_on hx hcv0
        obtain ⟨y0, y1, y2, y3, y4⟩ := c4_on hy hcv0
        go_wp2_with fail
        refine (TermValid_is _ _ _ _ _ false _ T1.out).mono ?_
        rintro e v1 ⟨rfl, hwv1⟩
        have hbv1 : Below v0.heap.size v0 v1 := by subst hwv1; go_grown
        have hcv1 := below_on hcv0 hbv1
        clear hwv1 x0 x1 x2 x3 x4 x5 y0 y1 y2 y3 y4
        obtain ⟨x0, x1, x2, x3, x4, x5⟩ := c5_on hx hcv1
        obtain ⟨y0, y1, y2, y3, y4⟩ := c4_on hy hcv1
        go_wp2
        go_ret
        exact ⟨rfl, below_on hw0 hcv1⟩
  · have hn' : (1048576 : Int) < (n : Int) := by omega
    go_enter Try.func12, Try.ntmps12
    go_wp2
    go_ret
    exact ⟨rfl, Below.refl _ _⟩

end Go.Proofs.Ythphlkfofbdncaa
