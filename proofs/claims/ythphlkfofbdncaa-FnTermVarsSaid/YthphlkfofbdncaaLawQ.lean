/- The walk of the law on exchanged variables. -/
import Derived.Test.YthphlkfofbdncaaLawR
import Derived.Test.YthphlkfofbdncaaImplF
import Derived.Test.YthphlkfofbdncaaSpecJ
namespace Go.Proofs.Ythphlkfofbdncaa
open Go.RowKit

def swp (a b v u i x : Int) : Int := if v = i then b else if u = i then a else x

theorem swap_point (a b c d m v u px py pz pu : Int) (hv : 0 ≤ v ∧ v < 4) (hu : 0 ≤ u ∧ u < 4) (hp : pvB px py pz pu = true) :
    ∃ s1 s2 x1 y1 z1 u1 x2 y2 z2 u2 : Int,
      (∀ W, Calls Try.prog 46 #[.agg #[.int .i64 px, .int .i64 py, .int .i64 pz, .int .i64 pu], .int .i64 u] W fun e w' => e = .returned (.int .i64 s1) ∧ Below W.heap.size W w') ∧
      (∀ W, Calls Try.prog 44 #[.agg #[.int .i64 px, .int .i64 py, .int .i64 pz, .int .i64 pu], .int .i64 v, .int .i64 s1] W fun e w' => e = .returned (.tuple #[.agg #[.int .i64 x1, .int .i64 y1, .int .i64 z1, .int .i64 u1], .bool true]) ∧ Below W.heap.size W w') ∧
      (∀ W, Calls Try.prog 46 #[.agg #[.int .i64 px, .int .i64 py, .int .i64 pz, .int .i64 pu], .int .i64 v] W fun e w' => e = .returned (.int .i64 s2) ∧ Below W.heap.size W w') ∧
      (∀ W, Calls Try.prog 44 #[.agg #[.int .i64 x1, .int .i64 y1, .int .i64 z1, .int .i64 u1], .int .i64 u, .int .i64 s2] W fun e w' => e = .returned (.tuple #[.agg #[.int .i64 x2, .int .i64 y2, .int .i64 z2, .int .i64 u2], .bool true]) ∧ Below W.heap.size W w') ∧
      pvB x2 y2 z2 u2 = true ∧
      ev (if v = 0 then sel a b c d u 0 else if u = 0 then sel a b c d v 0 else a) (if v = 1 then sel a b c d u 0 else if u = 1 then sel a b c d v 0 else b) (if v = 2 then sel a b c d u 0 else if u = 2 then sel a b c d v 0 else c) (if v = 3 then sel a b c d u 0 else if u = 3 then sel a b c d v 0 else d) m x2 y2 z2 u2 = ev a b c d m px py pz pu := by
  have hp' := hp
  simp only [pvB, inB, Bool.and_eq_true, decide_eq_true_eq] at hp'
  obtain ⟨⟨⟨hx, hy⟩, hz⟩, hu'⟩ := hp'
  have hvv : varB v = true := by simpa [varB] using hv
  have huv : varB u = true := by simpa [varB] using hu
  have k1 : inB (sel px py pz pu u (-1)) 0 1000 = true := by
    have h' : u = 0 ∨ u = 1 ∨ u = 2 ∨ u = 3 := by omega
    rcases h' with rfl | rfl | rfl | rfl <;> simp [sel, inB] <;> omega
  have k2 : inB (sel px py pz pu v (-1)) 0 1000 = true := by
    have h' : v = 0 ∨ v = 1 ∨ v = 2 ∨ v = 3 := by omega
    rcases h' with rfl | rfl | rfl | rfl <;> simp [sel, inB] <;> omega
  have pv1 : pvB (if v = 0 then sel px py pz pu u (-1) else px) (if v = 1 then sel px py pz pu u (-1) else py) (if v = 2 then sel px py pz pu u (-1) else pz) (if v = 3 then sel px py pz pu u (-1) else pu) = true := by
    simp only [inB, decide_eq_true_eq] at k1
    simp only [pvB, inB, Bool.and_eq_true, decide_eq_true_eq]
    refine ⟨⟨⟨?_, ?_⟩, ?_⟩, ?_⟩ <;> split <;> assumption
  refine ⟨_, _, _, _, _, _, _, _, _, _, fun W => ValueOf_any px py pz pu u W, fun W => WithValue_ok px py pz pu v _ W (by simp [wvB, hp, hvv, k1]), fun W => ValueOf_any px py pz pu v W, fun W => WithValue_ok _ _ _ _ u _ W (by simp only [wvB, pv1, huv, k2]; rfl), ?_, ?_⟩
  · simp only [inB, decide_eq_true_eq] at k2
    simp only [pvB, inB, Bool.and_eq_true, decide_eq_true_eq] at pv1 ⊢
    obtain ⟨⟨⟨p1, p2⟩, p3⟩, p4⟩ := pv1
    refine ⟨⟨⟨?_, ?_⟩, ?_⟩, ?_⟩ <;> split <;> assumption
  · have h' : v = 0 ∨ v = 1 ∨ v = 2 ∨ v = 3 := by omega
    have h'' : u = 0 ∨ u = 1 ∨ u = 2 ∨ u = 3 := by omega
    clear pv1 k1 k2 hvv huv hp
    rcases h' with rfl | rfl | rfl | rfl <;> rcases h'' with rfl | rfl | rfl | rfl <;> simp [sel, ev] <;> omega

theorem keep4 {W w' : World} {t : Nat} {x y z u : Int} (h4 : C4 W t x y z u) (hB : Below W.heap.size W w') :
    Below W.heap.size W w' ∧ (w'.cell? ⟨t, 0, none⟩ = some (.int .i64 x) ∧ w'.cell? ⟨t, 1, none⟩ = some (.int .i64 y) ∧ w'.cell? ⟨t, 2, none⟩ = some (.int .i64 z) ∧ w'.cell? ⟨t, 3, none⟩ = some (.int .i64 u)) := ⟨hB, (c4_on h4 hB).2⟩

theorem sw_back (a b c d v u : Int) (hv : 0 ≤ v ∧ v < 4) (hu : 0 ≤ u ∧ u < 4) (A B C D : Int)
    (hA : (if v = 0 then sel a b c d u 0 else if u = 0 then sel a b c d v 0 else a) = A) (hB : (if v = 1 then sel a b c d u 0 else if u = 1 then sel a b c d v 0 else b) = B) (hC : (if v = 2 then sel a b c d u 0 else if u = 2 then sel a b c d v 0 else c) = C) (hD : (if v = 3 then sel a b c d u 0 else if u = 3 then sel a b c d v 0 else d) = D) :
    ((if v = 0 then sel A B C D u 0 else if u = 0 then sel A B C D v 0 else A) = a ∧ (if v = 1 then sel A B C D u 0 else if u = 1 then sel A B C D v 0 else B) = b ∧ (if v = 2 then sel A B C D u 0 else if u = 2 then sel A B C D v 0 else C) = c ∧ (if v = 3 then sel A B C D u 0 else if u = 3 then sel A B C D v 0 else D) = d) ∧
    ((if u = 0 then sel a b c d v 0 else if v = 0 then sel a b c d u 0 else a) = A ∧ (if u = 1 then sel a b c d v 0 else if v = 1 then sel a b c d u 0 else b) = B ∧ (if u = 2 then sel a b c d v 0 else if v = 2 then sel a b c d u 0 else c) = C ∧ (if u = 3 then sel a b c d v 0 else if v = 3 then sel a b c d u 0 else d) = D) := by
  have h' : v = 0 ∨ v = 1 ∨ v = 2 ∨ v = 3 := by omega
  have h'' : u = 0 ∨ u = 1 ∨ u = 2 ∨ u = 3 := by omega
  subst hA hB hC hD
  rcases h' with rfl | rfl | rfl | rfl <;> rcases h'' with rfl | rfl | rfl | rfl <;> simp [sel]

set_option maxHeartbeats 20000000 in
theorem swapVars_walk (sp : Option Addr) (n cap : Nat) (w : World) (h : Code w sp n cap) :
    Calls Try.prog 17 #[.slice sp n cap] w fun e w' => e = .returned (.bool true) ∧ Below w.heap.size w w' := by
  have hc1 := h.1
  have hc2 := h.2.1
  have H := Lib.hid h
  clear h
  by_cases hn : n ≤ 1048576
  · have hn' : ¬ (1048576 : Int) < (n : Int) := by omega
    go_enter Try.func17, Try.ntmps17
    go_wp2_with fail
    refine (DrawSwapVars_t sp n cap w H.out).mono ?_
    rintro e w1 ⟨a, b, c, d, m, v, u, rfl, hb1⟩
    have hbs := hb1.size
    have HC1 := Lib.hid (code_on H.out hb1)
    go_wp2_with fail
    generalize hW : w1.alloc (.cells #[.int .i64 a, .int .i64 b, .int .i64 c, .int .i64 d, .int .i64 m] 27) = W
    have hx : C5 W w1.heap.size a b c d m := by subst hW; exact (by refine ⟨?_, ?_, ?_, ?_, ?_, ?_⟩ <;> first | (simp [go_sem]; done) | (simp; omega))
    have hw1 : Below w1.heap.size w1 W := by subst hW; go_grown
    have hw0 : Below w.heap.size w W := below_on hb1 hw1
    have HC := Lib.hid (code_on HC1.out hw1)
    clear hW
    by_cases hv : (tvB a b c d m && varB v && varB u) = true
    · obtain ⟨⟨h1, hvv⟩, huu⟩ : (tvB a b c d m = true ∧ varB v = true) ∧ varB u = true := by simpa using hv
      have hv4 : 0 ≤ v ∧ v < 4 := by simpa [varB] using hvv
      have hu4 : 0 ≤ u ∧ u < 4 := by simpa [varB] using huu
      have h3 := sw_tv h1 hv4 hu4
      have hsp := fun px py pz pu (hp : pvB px py pz pu = true) => swap_point a b c d m v u px py pz pu hv4 hu4 hp
      obtain ⟨A, hA⟩ : ∃ A, (if v = 0 then sel a b c d u 0 else if u = 0 then sel a b c d v 0 else a) = A := ⟨_, rfl⟩
      obtain ⟨B, hB⟩ : ∃ A, (if v = 1 then sel a b c d u 0 else if u = 1 then sel a b c d v 0 else b) = A := ⟨_, rfl⟩
      obtain ⟨C, hC⟩ : ∃ A, (if v = 2 then sel a b c d u 0 else if u = 2 then sel a b c d v 0 else c) = A := ⟨_, rfl⟩
      obtain ⟨D, hD⟩ : ∃ A, (if v = 3 then sel a b c d u 0 else if u = 3 then sel a b c d v 0 else d) = A := ⟨_, rfl⟩
      obtain ⟨⟨e1, e2, e3, e4⟩, f1, f2, f3, f4⟩ := sw_back a b c d v u hv4 hu4 A B C D hA hB hC hD
      rw [hA, hB, hC, hD] at h3
      simp only [hA, hB, hC, hD] at hsp
      have HI := Lib.hid fun W => SwapVars_ok a b c d m v u A B C D W h1 hv4 hu4 hA hB hC hD
      have HS := Lib.hid fun W => specSwapVars_ok a b c d m v u A B C D W h1 hv4 hu4 hA hB hC hD
      have HJ := Lib.hid fun W => SwapVars_ok A B C D m v u a b c d W h3 hv4 hu4 e1 e2 e3 e4
      have HK := Lib.hid fun W => SwapVars_ok a b c d m u v A B C D W h1 hu4 hv4 f1 f2 f3 f4
      have HP := Lib.hid hsp
      have T1 := Lib.hid h1
      have T3 := Lib.hid h3
      clear h1 h3 hsp hA hB hC hD e1 e2 e3 e4 f1 f2 f3 f4 hv hvv huu hv4 hu4
      obtain ⟨x0, x1, x2, x3, x4, x5⟩ := id hx
      refine (HI.out _).mono ?_
      rintro e w2 ⟨rfl, hb2⟩
      obtain ⟨x0, x1, x2, x3, x4, x5⟩ := c5_on hx hb2
      go_wp2_with fail
      generalize hW2 : w2.alloc (.cells #[.int .i64 A, .int .i64 B, .int .i64 C, .int .i64 D, .int .i64 m] 27) = W2
      have hX : C5 W2 w2.heap.size A B C D m := by subst hW2; exact (by refine ⟨?_, ?_, ?_, ?_, ?_, ?_⟩ <;> first | (simp [go_sem]; done) | (simp; omega))
      have hbW2 : Below W.heap.size W W2 := below_on hb2 (by subst hW2; go_grown)
      clear hW2
      obtain ⟨x0, x1, x2, x3, x4, x5⟩ := c5_on hx hbW2
      refine (HS.out _).mono ?_
      rintro e w3 ⟨rfl, hb3⟩
      have hbb3 := below_on hbW2 hb3
      obtain ⟨x0, x1, x2, x3, x4, x5⟩ := c5_on hx hbb3
      obtain ⟨z0, z1, z2, z3, z4, z5⟩ := c5_on hX hb3
      go_wp2_with fail
      generalize hW3 : w3.alloc (.cells #[.int .i64 A, .int .i64 B, .int .i64 C, .int .i64 D, .int .i64 m] 27) = W3
      have hb33 : Below w3.heap.size w3 W3 := by subst hW3; go_grown
      clear hW3
      have hbW3 := below_on hbb3 hb33
      have hX3 := c5_on hX (below_on hb3 hb33)
      refine (HJ.out _).mono ?_
      rintro e w4 ⟨rfl, hb4⟩
      clear x0 x1 x2 x3 x4 x5 z0 z1 z2 z3 z4 z5
      obtain ⟨x0, x1, x2, x3, x4, x5⟩ := c5_on hx (below_on hbW3 hb4)
      go_wp2_with fail
      generalize hW4 : w4.alloc (.cells #[.int .i64 a, .int .i64 b, .int .i64 c, .int .i64 d, .int .i64 m] 27) = W4
      have hb44 : Below w4.heap.size w4 W4 := by subst hW4; go_grown
      have hY : C5 W4 w4.heap.size a b c d m := by subst hW4; exact (by refine ⟨?_, ?_, ?_, ?_, ?_, ?_⟩ <;> first | (simp [go_sem]; done) | (simp; omega))
      clear hW4
      have hb34 := below_on hb4 hb44
      have hbW4 := below_on hbW3 hb34
      have hX4 := c5_on hX3 hb34
      refine (HK.out _).mono ?_
      rintro e w5 ⟨rfl, hb5⟩
      clear x0 x1 x2 x3 x4 x5
      go_wp2_with fail
      generalize hW5 : w5.alloc (.cells #[.int .i64 A, .int .i64 B, .int .i64 C, .int .i64 D, .int .i64 m] 27) = W5
      have hb55 : Below w5.heap.size w5 W5 := by subst hW5; go_grown
      have hZ : C5 W5 w5.heap.size A B C D m := by subst hW5; exact (by refine ⟨?_, ?_, ?_, ?_, ?_, ?_⟩ <;> first | (simp [go_sem]; done) | (simp; omega))
      clear hW5
      have hb45 := below_on hb5 hb55
      have hbW5 := below_on hbW4 hb45
      have hX5 := c5_on hX4 hb45
      have hx5 := c5_on hx hbW5
      have hY5 := c5_on hY hb45
      have HC5 := Lib.hid (code_on HC.out hbW5)
      clear hX hX3 hX4 hY hx hb2 hb3 hb4 hb5 hb33 hb44 hb55 hb34 hb45 hbW2 hbb3 hbW3 hbW4
      go_loopw [14] (fun i wr => ∃ j : Nat, i = .int .i64 j ∧ j ≤ 5 ∧ Below W5.heap.size W5 wr) (fun i _ => 5 - (intOf i).toNat)
      case atStart => exact ⟨0, rfl, by omega, Below.refl _ _⟩
      case round =>
        obtain ⟨j, rfl, hj, hbl⟩ := hrel
        by_cases hj6 : j < 5
        · have hj' : (j : Int) < 5 := by omega
          go_wp2_with fail
          refine (pbPoint_any sp n cap j wr (code_on HC5.out hbl) hn (by omega) (by omega)).mono ?_
          rintro e w6 ⟨px, py, pz, pu, rfl, hb6, ⟨px0, px1⟩, ⟨py0, py1⟩, ⟨pz0, pz1⟩, pu0, pu1⟩
          have hpv : pvB px py pz pu = true := by simp [pvB, inB]; omega
          obtain ⟨s1, s2, x1, y1, z1, u1, x2, y2, z2, u2, c1, c2, c3, c4, hpq, hev⟩ := HP.out px py pz pu hpv
          have q1 := fun W => pbEval_ok A B C D m x2 y2 z2 u2 W (by simp [T3.out, hpq])
          have q2 := fun W => pbEval_ok a b c d m px py pz pu W (by simp [T1.out, hpv])
          obtain ⟨E, hE⟩ : ∃ E, ev a b c d m px py pz pu = E := ⟨_, rfl⟩
          rw [hev, hE] at q1
          rw [hE] at q2
          have Q1 := Lib.hid q1
          have Q2 := Lib.hid q2
          have V1 := Lib.hid c1
          have V2 := Lib.hid c2
          have V3 := Lib.hid c3
          have V4 := Lib.hid c4
          have hb6W := below_on hbl hb6
          clear q1 q2 c1 c2 c3 c4 hpq hev hE hpv px0 px1 py0 py1 pz0 pz1 pu0 pu1
          go_wp2_with fail
          generalize hW6 : w6.alloc (.cells #[.int .i64 px, .int .i64 py, .int .i64 pz, .int .i64 pu] 54) = W6
          have hb66 : Below w6.heap.size w6 W6 := by subst hW6; go_grown
          have hp : C4 W6 w6.heap.size px py pz pu := by subst hW6; exact (by refine ⟨?_, ?_, ?_, ?_, ?_⟩ <;> first | (simp [go_sem]; done) | (simp; omega))
          clear hW6
          have HB6 := Lib.hid (below_on hb6W hb66)
          clear hb6W hb6 hb66 hbl
          go_cut [16, 17] from 75 to 106 (fun p q W => PtAt W6 x1 y1 z1 u1 true p q W)
          case first =>
            go_region_held3 (fun w' => Below W6.heap.size W6 w' ∧ (w'.cell? ⟨w6.heap.size, 0, none⟩ = some (.int .i64 px) ∧ w'.cell? ⟨w6.heap.size, 1, none⟩ = some (.int .i64 py) ∧ w'.cell? ⟨w6.heap.size, 2, none⟩ = some (.int .i64 pz) ∧ w'.cell? ⟨w6.heap.size, 3, none⟩ = some (.int .i64 pu))) (exact keep4 hp (by go_grown)) (first | (go_at_call 46; (with_reducible refine (V1.out _).mono ?_); rintro e wa ⟨rfl, hba⟩; have hbba := below_on (w := W6) (by go_grown) hba; have hsa : W6.heap.size ≤ wa.heap.size := hbba.size; have hza := hba.size; (try simp at hza); (first | (with_reducible have n6 := new4 hba) | (with_reducible have n6 := new4d hba) | (with_reducible have n6 := new4n hba) | skip); (try obtain ⟨⟨n60, n61, n62, n63, n64⟩, m6⟩ := id n6)) | (go_at_call 44; (with_reducible refine (V2.out _).mono ?_); rintro e wb ⟨rfl, hbb⟩; have hbbb := below_on (w := W6) (by go_grown) hbb; have hsb : W6.heap.size ≤ wb.heap.size := hbbb.size; have hzb := hbb.size; (try simp at hzb); (first | (with_reducible have n7 := new4 hbb) | (with_reducible have n7 := new4d hbb) | (with_reducible have n7 := new4n hbb) | (with_reducible have n7 := old4 n6 hbb) | (with_reducible have n7 := old4d n6 hbb) | (with_reducible have n7 := old4n n6 hbb) | skip); (try obtain ⟨⟨n70, n71, n72, n73, n74⟩, m7⟩ := id n7)))
            all_goals
              go_wp2_with fail
              go_meet
              first | (refine ⟨_, rfl, rfl, ?_⟩; first | (with_reducible exact pt_new hbbb) | (with_reducible exact pt_new (below_drew hbbb)) | (with_reducible exact pt_new (below_drewN hbbb)) | ((with_reducible refine pt_box hbbb n7 ?_); omega))
          case rest =>
            obtain ⟨t, rfl, rfl, hq, fq, ht, hBc⟩ := hcut
            have hp2 := c4_on hp hBc
            have HB7 := Lib.hid (below_on HB6.out hBc)
            have HQ := Lib.hid fq
            have HBc := Lib.hid hBc
            have hps := hp.1
            obtain ⟨Wc, hWc⟩ : ∃ W, W = wc := ⟨_, rfl⟩
            clear hBc fq
            subst hWc
            obtain ⟨pp0, pp1, pp2, pp3, pp4⟩ := id hp2
            obtain ⟨qq0, qq1, qq2, qq3, qq4⟩ := id hq
            have hpt : w6.heap.size ≠ t := by omega
            go_wp2_with fail
            go_region_with (first
              | (go_at_call 46; (with_reducible refine (V3.out _).mono ?_); rintro e wd ⟨rfl, hbd⟩; have hbd2 : Below Wc.heap.size Wc wd := ⟨hbd.os, hbd.tape, hbd.output, hbd.size, hbd.block⟩; obtain ⟨pp0, pp1, pp2, pp3, pp4⟩ := c4_on hp2 hbd2; obtain ⟨qq0, qq1, qq2, qq3, qq4⟩ := c4_on hq hbd2; clear hbd)
              | (go_at_call 44; (with_reducible refine (V4.out _).mono ?_); rintro e wf ⟨rfl, hbf⟩; have hbf2 : Below wd.heap.size wd wf := ⟨hbf.os, hbf.tape, hbf.output, hbf.size, hbf.block⟩; have hbcf := below_on hbd2 hbf2; obtain ⟨pp0, pp1, pp2, pp3, pp4⟩ := c4_on hp2 hbcf; obtain ⟨qq0, qq1, qq2, qq3, qq4⟩ := c4_on hq hbcf; have fqf : ∀ o, wf.frozen? ⟨t, o, none⟩ = false := (fun o => ((bcell hbcf).2 t o hq.1).trans (HQ.out o)); clear hbf))
            all_goals
              have hset := pt_set (x := x2) (y := y2) (z := z2) (u := u2) (below_on HBc.out hbcf) hbcf ⟨hq, HQ.out⟩ ht
              clear pp0 pp1 pp2 pp3 pp4 qq0 qq1 qq2 qq3 qq4 fqf hbd2 hbf2 hbcf
              go_wp2_with fail
              generalize World.setCell _ _ _ = Wg at hset ⊢
              obtain ⟨hq2, _, _, hBg⟩ := hset
              have hp3 := c4_on hp hBg
              have hB5g := below_on HB6.out hBg
              have g1 := c5_on hX5 hB5g
              have g2 := c5_on hx5 hB5g
              have HBG := Lib.hid hB5g
              clear hBg hB5g hq hp2 hp
              go_region_held3 (fun w' => Below Wg.heap.size Wg w' ∧ (w'.cell? ⟨w2.heap.size, 0, none⟩ = some (.int .i64 A) ∧ w'.cell? ⟨w2.heap.size, 1, none⟩ = some (.int .i64 B) ∧ w'.cell? ⟨w2.heap.size, 2, none⟩ = some (.int .i64 C) ∧ w'.cell? ⟨w2.heap.size, 3, none⟩ = some (.int .i64 D) ∧ w'.cell? ⟨w2.heap.size, 4, none⟩ = some (.int .i64 m)) ∧ (w'.cell? ⟨w1.heap.size, 0, none⟩ = some (.int .i64 a) ∧ w'.cell? ⟨w1.heap.size, 1, none⟩ = some (.int .i64 b) ∧ w'.cell? ⟨w1.heap.size, 2, none⟩ = some (.int .i64 c) ∧ w'.cell? ⟨w1.heap.size, 3, none⟩ = some (.int .i64 d) ∧ w'.cell? ⟨w1.heap.size, 4, none⟩ = some (.int .i64 m)) ∧ (w'.cell? ⟨w6.heap.size, 0, none⟩ = some (.int .i64 px) ∧ w'.cell? ⟨w6.heap.size, 1, none⟩ = some (.int .i64 py) ∧ w'.cell? ⟨w6.heap.size, 2, none⟩ = some (.int .i64 pz) ∧ w'.cell? ⟨w6.heap.size, 3, none⟩ = some (.int .i64 pu)) ∧ (w'.cell? ⟨t, 0, none⟩ = some (.int .i64 x2) ∧ w'.cell? ⟨t, 1, none⟩ = some (.int .i64 y2) ∧ w'.cell? ⟨t, 2, none⟩ = some (.int .i64 z2) ∧ w'.cell? ⟨t, 3, none⟩ = some (.int .i64 u2))) (exact keep5544 g1 g2 hp3 hq2 (by go_grown)) (first | (go_at_call 53; (with_reducible refine (Q1.out _).mono ?_); rintro e w8 ⟨rfl, hb8⟩; have hbb8 := below_on (w := Wg) (by go_grown) hb8; have hs8 : Wg.heap.size ≤ w8.heap.size := hbb8.size) | (go_at_call 53; (with_reducible refine (Q2.out _).mono ?_); rintro e w9 ⟨rfl, hb9⟩; have hbb9 := below_on (w := Wg) (by go_grown) hb9; have hs9 : Wg.heap.size ≤ w9.heap.size := hbb9.size))
              all_goals
                go_wp2
                go_roundw
                case rel => exact ⟨j + 1, by go_num, by omega, below_on HBG.out (by go_grown)⟩
                case measure => simp [intOf]; omega
        · have hj' : ¬ (j : Int) < 5 := by omega
          obtain ⟨x0, x1, x2, x3, x4, x5⟩ := c5_on hx5 hbl
          obtain ⟨y0, y1, y2, y3, y4, y5⟩ := c5_on hY5 hbl
          obtain ⟨z0, z1, z2, z3, z4, z5⟩ := c5_on hX5 hbl
          obtain ⟨t0, t1, t2, t3, t4, t5⟩ := c5_on hZ hbl
          have HBL := Lib.hid hbl
          clear hbl
          go_wp2
          go_ret
          exact ⟨rfl, below_on hw0 (below_on hbW5 HBL.out)⟩
    · have h4 : (tvB a b c d m && varB v && varB u) = false := by simpa using hv
      have HI := Lib.hid fun W => SwapVars_bad a b c d m v u W h4
      have HS := Lib.hid fun W => specSwapVars_bad a b c d m v u W h4
      clear hv h4
      obtain ⟨x0, x1, x2, x3, x4, x5⟩ := id hx
      refine (HI.out _).mono ?_
      rintro e w2 ⟨rfl, hb2⟩
      obtain ⟨x0, x1, x2, x3, x4, x5⟩ := c5_on hx hb2
      go_wp2_with fail
      generalize hW2 : w2.alloc (.cells #[.int .i64 0, .int .i64 0, .int .i64 0, .int .i64 0, .int .i64 0] 27) = W2
      have hX : C5 W2 w2.heap.size 0 0 0 0 0 := by subst hW2; exact (by refine ⟨?_, ?_, ?_, ?_, ?_, ?_⟩ <;> first | (simp [go_sem]; done) | (simp; omega))
      have hbW2 : Below W.heap.size W W2 := below_on hb2 (by subst hW2; go_grown)
      clear hW2
      obtain ⟨x0, x1, x2, x3, x4, x5⟩ := c5_on hx hbW2
      refine (HS.out _).mono ?_
      rintro e w3 ⟨rfl, hb3⟩
      have hbb3 := below_on hbW2 hb3
      clear x0 x1 x2 x3 x4 x5
      obtain ⟨z0, z1, z2, z3, z4, z5⟩ := c5_on hX hb3
      go_wp2
      go_ret
      have hfin := below_on hw0 hbb3
      exact ⟨rfl, by go_grown⟩
  · have hn' : (1048576 : Int) < (n : Int) := by omega
    go_enter Try.func17, Try.ntmps17
    go_wp2
    go_ret
    exact ⟨rfl, Below.refl _ _⟩

end Go.Proofs.Ythphlkfofbdncaa
