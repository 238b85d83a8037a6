/- ParseAtom of the model. -/
import Derived.Test.YtjgmoledhkikcaaDoorAxQ
namespace Go.Proofs.YtjgmoledhkikcaaDoor
open Go.RowKit

theorem l2_ret {a b : AtD} (h : a = b) : Ending.returned (AtV a) = .returned (AtV b) := by rw [h]
theorem fnd_no {c : UInt8} {s : List UInt8} (h : spC c s = none) : fndI c s 0 = -1 := by rw [fnd_sp, h]
theorem fnd_yes {c : UInt8} {s A B : List UInt8} (h : spC c s = some (A, B)) : fndI c s 0 = (A.length : Int) := by rw [fnd_sp, h]; simp

set_option maxRecDepth 10000 in
set_option maxHeartbeats 2000000 in
theorem l2Read_any (s : List UInt8) (w : World) (hl : s.length ≤ 1048576) : Calls Tryd.prog 29 #[.string (bs s)] w fun e w' => e = .returned (AtV (rdS s)) ∧ Below w.heap.size w w' := by
  have hl0 := bs_list
  have hsz := bs_size
  have h3 : ({ data := #[60, 61, 48] } : ByteArray) = bs [60, 61, 48] := rfl
  have HF1 := Lib.hid fun W => l17Find_any s 124 W (by omega)
  have HF2 := Lib.hid fun W => l17Find_any s 33 W (by omega)
  rcases hc1 : spC 124 s with _ | ⟨A1, B1⟩
  · rw [fnd_no hc1] at HF1
    rcases hc2 : spC 33 s with _ | ⟨A1, B1⟩
    · rw [fnd_no hc2] at HF2
      have HRD := Lib.hid (show rdS s = if 3 < s.length ∧ s.drop (s.length - 3) = [60, 61, 48] then tmA 0 0 (s.take (s.length - 3)) else tmA 1 0 (s.take (s.length - 2)) from by unfold rdS; rw [hc1, hc2])
      clear hc1 hc2
      obtain ⟨N, hN⟩ : ∃ N, s.length = N := ⟨_, rfl⟩
      have hlen : (s.length : Int) = N := by rw [hN]
      rw [hN] at HRD hl
      by_cases h3n : 3 < N
      · have h3i : (3 : Int) < (N : Int) := by omega
        obtain ⟨q, hq⟩ : ∃ q : Int, (N : Int) - 3 = q := ⟨_, rfl⟩
        have hq0 : 0 ≤ q := by omega
        have hwq : IntKind.i64.wrap ((N : Int) - 3) = q := by rw [IntKind.wrap_i64]; omega
        have eq3 : q = ((N - 3 : Nat) : Int) := by omega
        obtain ⟨D3, hD3⟩ : ∃ D, s.drop (N - 3) = D := ⟨_, rfl⟩
        have hfr3 : ∀ W, (Instr.slice 9 (.string (bs s)) (some (.int .i64 q)) none none).run Tryd.prog W = .ok (.string (bs D3)) W := fun W => by rw [eq3]; exact rn_from (P := Tryd.prog) Tryd.underlying9 (l := s) (k := N - 3) (x := D3) (by omega) hD3 .i64 W
        have hup3 : ∀ W, (Instr.slice 9 (.string (bs s)) none (some (.int .i64 q)) none).run Tryd.prog W = .ok (.string (bs (s.take (N - 3)))) W := fun W => by rw [eq3]; exact rn_upto (P := Tryd.prog) Tryd.underlying9 (l := s) (k := N - 3) (by omega) rfl .i64 W
        by_cases hd : D3 = [60, 61, 48]
        · have hdq : (D3 == [60, 61, 48]) = true := by simpa using hd
          have HRD2 := Lib.hid (show rdS s = tmA 0 0 (s.take (N - 3)) from by rw [HRD.out, if_pos ⟨h3n, hD3.trans hd⟩])
          clear hd h3n eq3
          obtain ⟨T, hT⟩ : ∃ T, s.take (N - 3) = T := ⟨_, rfl⟩
          have hTl : T.length ≤ 1048576 := by rw [← hT, List.length_take]; omega
          rw [hT] at hup3 HRD2
          clear hT
          obtain ⟨⟨⟨a, b, c, d, n⟩, o⟩, hpt⟩ : ∃ r, ptT T = r := ⟨_, rfl⟩
          have HPT := Lib.hid fun W => specParseTerm_any T W (by omega)
          rw [hpt] at HPT
          simp only [PtV] at HPT
          have HV := Lib.hid (show rdS s = ⟨0, 0, a, b, c, d, n⟩ from by rw [HRD2.out]; unfold tmA; rw [hpt])
          clear hpt hN hD3
          go_enter Tryd.func29, Tryd.ntmps29
          go_wp2_with fail
          generalize hW : World.alloc _ _ = W
          have hz : C7 W w.heap.size 0 0 0 0 0 0 0 := by subst hW; exact (by refine ⟨?_, ?_, ?_, ?_, ?_, ?_, ?_, ?_⟩ <;> first | (simp [go_sem]; done) | (simp; omega))
          have fz0 : Hid (∀ o, W.frozen? ⟨w.heap.size, o, none⟩ = false) := by intro o; subst hW; simp [go_sem]
          have hwa : Below w.heap.size w W := by subst hW; go_grown
          clear hW
          refine wp_loop_rounds 3 ?_
          rw [rounds_succ]
          go_wp2_with fail
          refine (HF1.out _).mono ?_
          rintro e w1 ⟨rfl, rfl⟩
          go_wp2_with fail
          rw [rounds_succ]
          go_wp2_with fail
          refine (HF2.out _).mono ?_
          rintro e w1 ⟨rfl, rfl⟩
          go_wp2_with fail
          rw [rounds_succ]
          go_wp2_with fail
          refine (HPT.out _).mono ?_
          rintro e w3 ⟨rfl, hb3⟩
          have hz3 := c7_on hz hb3
          have fz3 : Hid (∀ o, w3.frozen? ⟨w.heap.size, o, none⟩ = false) := Lib.hid (fz7_on hz.1 fz0 hb3)
          have hw3 := below_on hwa hb3
          clear hz fz0 hb3
          go_upto_region 12 with fail
          generalize hW : World.alloc _ _ = W4
          have hx : C5 W4 w3.heap.size a b c d n := by subst hW; exact (by refine ⟨?_, ?_, ?_, ?_, ?_, ?_⟩ <;> first | (simp [go_sem]; done) | (simp; omega))
          have hb4 : Below w3.heap.size w3 W4 := by subst hW; go_grown
          clear hW
          have hz4 := c7_on hz3 hb4
          have fz4 : Hid (∀ o, W4.frozen? ⟨w.heap.size, o, none⟩ = false) := Lib.hid (fz7_on hz3.1 fz3 hb4)
          have hw4 := below_on hw3 hb4
          clear hz3 fz3 hb4 hw3
          obtain ⟨z0, z1, z2, z3, z4, z5, z6, z7⟩ := hz4
          obtain ⟨x0, x1, x2, x3, x4, x5⟩ := hx
          have fz := fz4.out
          go_wp2
          refine bodyPost_ret (v := .agg #[.int .i64 0, .int .i64 0, .int .i64 a, .int .i64 b, .int .i64 c, .int .i64 d, .int .i64 n]) (by simp [results, Tryd.results29, go_sem, z1, z2, z3, z4, z5, z6, z7]) rfl ⟨l2_ret HV.out.symm, ?_⟩
          exact hw4.trans (by go_grown)
        · have hdq : (D3 == [60, 61, 48]) = false := by simpa using hd
          have HRD2 := Lib.hid (show rdS s = tmA 1 0 (s.take (N - 2)) from by rw [HRD.out, if_neg (fun h => hd (hD3.symm.trans h.2))])
          have hq2 : ((N : Int) - 2) = ((N - 2 : Nat) : Int) := by omega
          obtain ⟨p, hp⟩ : ∃ p : Int, (N : Int) - 2 = p := ⟨_, rfl⟩
          have hp0 : max p 0 = p := by omega
          have hwp : IntKind.i64.wrap ((N : Int) - 2) = p := by rw [IntKind.wrap_i64]; omega
          have hup2 : ∀ W, (Instr.slice 9 (.string (bs s)) none (some (.int .i64 p)) none).run Tryd.prog W = .ok (.string (bs (s.take (N - 2)))) W := fun W => by rw [← hp, hq2]; exact rn_upto (P := Tryd.prog) Tryd.underlying9 (l := s) (k := N - 2) (by omega) rfl .i64 W
          clear hd h3n eq3 hq2
          obtain ⟨T, hT⟩ : ∃ T, s.take (N - 2) = T := ⟨_, rfl⟩
          have hTl : T.length ≤ 1048576 := by rw [← hT, List.length_take]; omega
          rw [hT] at hup2 HRD2
          clear hT
          obtain ⟨⟨⟨a, b, c, d, n⟩, o⟩, hpt⟩ : ∃ r, ptT T = r := ⟨_, rfl⟩
          have HPT := Lib.hid fun W => specParseTerm_any T W (by omega)
          rw [hpt] at HPT
          simp only [PtV] at HPT
          have HV := Lib.hid (show rdS s = ⟨1, 0, a, b, c, d, n⟩ from by rw [HRD2.out]; unfold tmA; rw [hpt])
          clear hpt hN
          go_enter Tryd.func29, Tryd.ntmps29
          go_wp2_with fail
          generalize hW : World.alloc _ _ = W
          have hz : C7 W w.heap.size 0 0 0 0 0 0 0 := by subst hW; exact (by refine ⟨?_, ?_, ?_, ?_, ?_, ?_, ?_, ?_⟩ <;> first | (simp [go_sem]; done) | (simp; omega))
          have fz0 : Hid (∀ o, W.frozen? ⟨w.heap.size, o, none⟩ = false) := by intro o; subst hW; simp [go_sem]
          have hwa : Below w.heap.size w W := by subst hW; go_grown
          clear hW
          refine wp_loop_rounds 3 ?_
          rw [rounds_succ]
          go_wp2_with fail
          refine (HF1.out _).mono ?_
          rintro e w1 ⟨rfl, rfl⟩
          go_wp2_with fail
          rw [rounds_succ]
          go_wp2_with fail
          refine (HF2.out _).mono ?_
          rintro e w1 ⟨rfl, rfl⟩
          go_wp2_with fail
          rw [rounds_succ]
          go_wp2_with fail
          refine (HPT.out _).mono ?_
          rintro e w3 ⟨rfl, hb3⟩
          have hz3 := c7_on hz hb3
          have fz3 : Hid (∀ o, w3.frozen? ⟨w.heap.size, o, none⟩ = false) := Lib.hid (fz7_on hz.1 fz0 hb3)
          have hw3 := below_on hwa hb3
          clear hz fz0 hb3
          go_upto_region 14 with fail
          generalize hW : World.alloc _ _ = W4
          have hx : C5 W4 w3.heap.size a b c d n := by subst hW; exact (by refine ⟨?_, ?_, ?_, ?_, ?_, ?_⟩ <;> first | (simp [go_sem]; done) | (simp; omega))
          have hb4 : Below w3.heap.size w3 W4 := by subst hW; go_grown
          clear hW
          have hz4 := c7_on hz3 hb4
          have fz4 : Hid (∀ o, W4.frozen? ⟨w.heap.size, o, none⟩ = false) := Lib.hid (fz7_on hz3.1 fz3 hb4)
          have hw4 := below_on hw3 hb4
          clear hz3 fz3 hb4 hw3
          obtain ⟨z0, z1, z2, z3, z4, z5, z6, z7⟩ := hz4
          obtain ⟨x0, x1, x2, x3, x4, x5⟩ := hx
          have fz := fz4.out
          go_wp2
          refine bodyPost_ret (v := .agg #[.int .i64 1, .int .i64 0, .int .i64 a, .int .i64 b, .int .i64 c, .int .i64 d, .int .i64 n]) (by simp [results, Tryd.results29, go_sem, z1, z2, z3, z4, z5, z6, z7]) rfl ⟨l2_ret HV.out.symm, ?_⟩
          exact hw4.trans (by go_grown)
      · have h3i : ¬ (3 : Int) < (N : Int) := by omega
        have HRD2 := Lib.hid (show rdS s = tmA 1 0 (s.take (N - 2)) from by rw [HRD.out, if_neg (fun h => h3n h.1)])
        by_cases h2n : 2 ≤ N
        · have hq2 : ((N : Int) - 2) = ((N - 2 : Nat) : Int) := by omega
          obtain ⟨p, hp⟩ : ∃ p : Int, (N : Int) - 2 = p := ⟨_, rfl⟩
          have hp0 : max p 0 = p := by omega
          have hwp : IntKind.i64.wrap ((N : Int) - 2) = p := by rw [IntKind.wrap_i64]; omega
          have hup2 : ∀ W, (Instr.slice 9 (.string (bs s)) none (some (.int .i64 p)) none).run Tryd.prog W = .ok (.string (bs (s.take (N - 2)))) W := fun W => by rw [← hp, hq2]; exact rn_upto (P := Tryd.prog) Tryd.underlying9 (l := s) (k := N - 2) (by omega) rfl .i64 W
          clear h3n hq2 h2n
          obtain ⟨T, hT⟩ : ∃ T, s.take (N - 2) = T := ⟨_, rfl⟩
          have hTl : T.length ≤ 1048576 := by rw [← hT, List.length_take]; omega
          rw [hT] at hup2 HRD2
          clear hT
          obtain ⟨⟨⟨a, b, c, d, n⟩, o⟩, hpt⟩ : ∃ r, ptT T = r := ⟨_, rfl⟩
          have HPT := Lib.hid fun W => specParseTerm_any T W (by omega)
          rw [hpt] at HPT
          simp only [PtV] at HPT
          have HV := Lib.hid (show rdS s = ⟨1, 0, a, b, c, d, n⟩ from by rw [HRD2.out]; unfold tmA; rw [hpt])
          clear hpt hN
          go_enter Tryd.func29, Tryd.ntmps29
          go_wp2_with fail
          generalize hW : World.alloc _ _ = W
          have hz : C7 W w.heap.size 0 0 0 0 0 0 0 := by subst hW; exact (by refine ⟨?_, ?_, ?_, ?_, ?_, ?_, ?_, ?_⟩ <;> first | (simp [go_sem]; done) | (simp; omega))
          have fz0 : Hid (∀ o, W.frozen? ⟨w.heap.size, o, none⟩ = false) := by intro o; subst hW; simp [go_sem]
          have hwa : Below w.heap.size w W := by subst hW; go_grown
          clear hW
          refine wp_loop_rounds 3 ?_
          rw [rounds_succ]
          go_wp2_with fail
          refine (HF1.out _).mono ?_
          rintro e w1 ⟨rfl, rfl⟩
          go_wp2_with fail
          rw [rounds_succ]
          go_wp2_with fail
          refine (HF2.out _).mono ?_
          rintro e w1 ⟨rfl, rfl⟩
          go_wp2_with fail
          rw [rounds_succ]
          go_wp2_with fail
          refine (HPT.out _).mono ?_
          rintro e w3 ⟨rfl, hb3⟩
          have hz3 := c7_on hz hb3
          have fz3 : Hid (∀ o, w3.frozen? ⟨w.heap.size, o, none⟩ = false) := Lib.hid (fz7_on hz.1 fz0 hb3)
          have hw3 := below_on hwa hb3
          clear hz fz0 hb3
          go_upto_region 14 with fail
          generalize hW : World.alloc _ _ = W4
          have hx : C5 W4 w3.heap.size a b c d n := by subst hW; exact (by refine ⟨?_, ?_, ?_, ?_, ?_, ?_⟩ <;> first | (simp [go_sem]; done) | (simp; omega))
          have hb4 : Below w3.heap.size w3 W4 := by subst hW; go_grown
          clear hW
          have hz4 := c7_on hz3 hb4
          have fz4 : Hid (∀ o, W4.frozen? ⟨w.heap.size, o, none⟩ = false) := Lib.hid (fz7_on hz3.1 fz3 hb4)
          have hw4 := below_on hw3 hb4
          clear hz3 fz3 hb4 hw3
          obtain ⟨z0, z1, z2, z3, z4, z5, z6, z7⟩ := hz4
          obtain ⟨x0, x1, x2, x3, x4, x5⟩ := hx
          have fz := fz4.out
          go_wp2
          refine bodyPost_ret (v := .agg #[.int .i64 1, .int .i64 0, .int .i64 a, .int .i64 b, .int .i64 c, .int .i64 d, .int .i64 n]) (by simp [results, Tryd.results29, go_sem, z1, z2, z3, z4, z5, z6, z7]) rfl ⟨l2_ret HV.out.symm, ?_⟩
          exact hw4.trans (by go_grown)
        · obtain ⟨p, hp⟩ : ∃ p : Int, (N : Int) - 2 = p := ⟨_, rfl⟩
          have hp0 : max p 0 = 0 := by omega
          have hwp : IntKind.i64.wrap ((N : Int) - 2) = p := by rw [IntKind.wrap_i64]; omega
          have hup2 : ∀ W, (Instr.slice 9 (.string (bs s)) none (some (.int .i64 0)) none).run Tryd.prog W = .ok (.string (bs (s.take (N - 2)))) W := fun W => rn_upto (P := Tryd.prog) Tryd.underlying9 (l := s) (k := 0) (by omega) (by rw [show N - 2 = 0 by omega]) .i64 W
          clear h3n h2n
          obtain ⟨T, hT⟩ : ∃ T, s.take (N - 2) = T := ⟨_, rfl⟩
          have hTl : T.length ≤ 1048576 := by rw [← hT, List.length_take]; omega
          rw [hT] at hup2 HRD2
          clear hT
          obtain ⟨⟨⟨a, b, c, d, n⟩, o⟩, hpt⟩ : ∃ r, ptT T = r := ⟨_, rfl⟩
          have HPT := Lib.hid fun W => specParseTerm_any T W (by omega)
          rw [hpt] at HPT
          simp only [PtV] at HPT
          have HV := Lib.hid (show rdS s = ⟨1, 0, a, b, c, d, n⟩ from by rw [HRD2.out]; unfold tmA; rw [hpt])
          clear hpt hN
          go_enter Tryd.func29, Tryd.ntmps29
          go_wp2_with fail
          generalize hW : World.alloc _ _ = W
          have hz : C7 W w.heap.size 0 0 0 0 0 0 0 := by subst hW; exact (by refine ⟨?_, ?_, ?_, ?_, ?_, ?_, ?_, ?_⟩ <;> first | (simp [go_sem]; done) | (simp; omega))
          have fz0 : Hid (∀ o, W.frozen? ⟨w.heap.size, o, none⟩ = false) := by intro o; subst hW; simp [go_sem]
          have hwa : Below w.heap.size w W := by subst hW; go_grown
          clear hW
          refine wp_loop_rounds 3 ?_
          rw [rounds_succ]
          go_wp2_with fail
          refine (HF1.out _).mono ?_
          rintro e w1 ⟨rfl, rfl⟩
          go_wp2_with fail
          rw [rounds_succ]
          go_wp2_with fail
          refine (HF2.out _).mono ?_
          rintro e w1 ⟨rfl, rfl⟩
          go_wp2_with fail
          rw [rounds_succ]
          go_wp2_with fail
          refine (HPT.out _).mono ?_
          rintro e w3 ⟨rfl, hb3⟩
          have hz3 := c7_on hz hb3
          have fz3 : Hid (∀ o, w3.frozen? ⟨w.heap.size, o, none⟩ = false) := Lib.hid (fz7_on hz.1 fz0 hb3)
          have hw3 := below_on hwa hb3
          clear hz fz0 hb3
          go_upto_region 14 with fail
          generalize hW : World.alloc _ _ = W4
          have hx : C5 W4 w3.heap.size a b c d n := by subst hW; exact (by refine ⟨?_, ?_, ?_, ?_, ?_, ?_⟩ <;> first | (simp [go_sem]; done) | (simp; omega))
          have hb4 : Below w3.heap.size w3 W4 := by subst hW; go_grown
          clear hW
          have hz4 := c7_on hz3 hb4
          have fz4 : Hid (∀ o, W4.frozen? ⟨w.heap.size, o, none⟩ = false) := Lib.hid (fz7_on hz3.1 fz3 hb4)
          have hw4 := below_on hw3 hb4
          clear hz3 fz3 hb4 hw3
          obtain ⟨z0, z1, z2, z3, z4, z5, z6, z7⟩ := hz4
          obtain ⟨x0, x1, x2, x3, x4, x5⟩ := hx
          have fz := fz4.out
          go_wp2
          refine bodyPost_ret (v := .agg #[.int .i64 1, .int .i64 0, .int .i64 a, .int .i64 b, .int .i64 c, .int .i64 d, .int .i64 n]) (by simp [results, Tryd.results29, go_sem, z1, z2, z3, z4, z5, z6, z7]) rfl ⟨l2_ret HV.out.symm, ?_⟩
          exact hw4.trans (by go_grown)
    · rw [fnd_yes hc2] at HF2
      have HRD := Lib.hid (show rdS s = tmA 3 (num17 A1).1 B1 from by unfold rdS; rw [hc1, hc2])
      obtain ⟨hs0, _⟩ := spC_some hc2
      have hlA : A1.length ≤ 1048576 ∧ B1.length ≤ 1048576 := by have := congrArg List.length hs0; simp at this; omega
      obtain ⟨hlA1, hlB1⟩ := hlA
      obtain ⟨k0, hk0⟩ : ∃ k, A1.length = k := ⟨_, rfl⟩
      have hkl : k0 + 1 ≤ s.length := by rw [hs0, ← hk0]; simp
      have hup := fun W => rn_upto (P := Tryd.prog) Tryd.underlying9 (l := s) (k := k0) (x := A1) (by omega) (by rw [← hk0]; rw [hs0, List.take_left]) .i64 W
      have hfr := fun W => rn_from (P := Tryd.prog) Tryd.underlying9 (l := s) (k := k0 + 1) (x := B1) (by omega) (by rw [← hk0, hs0, show A1.length + 1 = (A1 ++ [33]).length by simp, show A1 ++ 33 :: B1 = (A1 ++ [33]) ++ B1 by simp, List.drop_left]) .i64 W
      obtain ⟨k1, hk1⟩ : ∃ k, k0 + 1 = k := ⟨_, rfl⟩
      have hwk : IntKind.i64.wrap ((k0 : Int) + 1) = (k1 : Int) := by rw [IntKind.wrap_i64]; omega
      have hwk2 : (k0 : Int) + 1 = (k1 : Int) := by omega
      have hwk3 : wrap64 (k1 : Int) = (k1 : Int) := by unfold wrap64; omega
      have hk00 : (0 : Int) ≤ (k0 : Int) := by omega
      rw [hk1] at hfr
      have HNU := Lib.hid fun W => l17Num_any A1 W hlA1
      obtain ⟨⟨mm, mo⟩, hmm⟩ : ∃ y, num17 A1 = y := ⟨_, rfl⟩
      rw [hmm] at HNU
      simp only [NmV] at HNU
      obtain ⟨⟨⟨a, b, c, d, n⟩, o⟩, hpt⟩ : ∃ r, ptT B1 = r := ⟨_, rfl⟩
      have HPT := Lib.hid fun W => specParseTerm_any B1 W (by omega)
      rw [hpt] at HPT
      simp only [PtV] at HPT
      have HV := Lib.hid (show rdS s = ⟨3, mm, a, b, c, d, n⟩ from by rw [HRD.out, hmm]; unfold tmA; rw [hpt])
      rw [hk0] at HF2
      clear hpt hmm hs0 hk0 hkl hk1
      clear hc1 hc2
      go_enter Tryd.func29, Tryd.ntmps29
      go_wp2_with fail
      generalize hW : World.alloc _ _ = W
      have hz : C7 W w.heap.size 0 0 0 0 0 0 0 := by subst hW; exact (by refine ⟨?_, ?_, ?_, ?_, ?_, ?_, ?_, ?_⟩ <;> first | (simp [go_sem]; done) | (simp; omega))
      have fz0 : Hid (∀ o, W.frozen? ⟨w.heap.size, o, none⟩ = false) := by intro o; subst hW; simp [go_sem]
      have hwa : Below w.heap.size w W := by subst hW; go_grown
      clear hW
      refine wp_loop_rounds 3 ?_
      rw [rounds_succ]
      go_wp2_with fail
      refine (HF1.out _).mono ?_
      rintro e w1 ⟨rfl, rfl⟩
      go_wp2_with fail
      rw [rounds_succ]
      go_wp2_with fail
      refine (HF2.out _).mono ?_
      rintro e w1 ⟨rfl, rfl⟩
      go_wp2_with fail
      refine (HNU.out _).mono ?_
      rintro e w1 ⟨rfl, rfl⟩
      go_wp2_with fail
      refine (HPT.out _).mono ?_
      rintro e w3 ⟨rfl, hb3⟩
      have hz3 := c7_on hz hb3
      have fz3 : Hid (∀ o, w3.frozen? ⟨w.heap.size, o, none⟩ = false) := Lib.hid (fz7_on hz.1 fz0 hb3)
      have hw3 := below_on hwa hb3
      clear hz fz0 hb3
      go_upto_region 9 with fail
      generalize hW : World.alloc _ _ = W4
      have hx : C5 W4 w3.heap.size a b c d n := by subst hW; exact (by refine ⟨?_, ?_, ?_, ?_, ?_, ?_⟩ <;> first | (simp [go_sem]; done) | (simp; omega))
      have hb4 : Below w3.heap.size w3 W4 := by subst hW; go_grown
      clear hW
      have hz4 := c7_on hz3 hb4
      have fz4 : Hid (∀ o, W4.frozen? ⟨w.heap.size, o, none⟩ = false) := Lib.hid (fz7_on hz3.1 fz3 hb4)
      have hw4 := below_on hw3 hb4
      clear hz3 fz3 hb4 hw3
      obtain ⟨z0, z1, z2, z3, z4, z5, z6, z7⟩ := hz4
      obtain ⟨x0, x1, x2, x3, x4, x5⟩ := hx
      have fz := fz4.out
      go_wp2
      refine bodyPost_ret (v := .agg #[.int .i64 3, .int .i64 mm, .int .i64 a, .int .i64 b, .int .i64 c, .int .i64 d, .int .i64 n]) (by simp [results, Tryd.results29, go_sem, z1, z2, z3, z4, z5, z6, z7]) rfl ⟨l2_ret HV.out.symm, ?_⟩
      exact hw4.trans (by go_grown)
  · rw [fnd_yes hc1] at HF1
    have HRD := Lib.hid (show rdS s = tmA 2 (num17 A1).1 B1 from by unfold rdS; rw [hc1])
    obtain ⟨hs0, _⟩ := spC_some hc1
    have hlA : A1.length ≤ 1048576 ∧ B1.length ≤ 1048576 := by have := congrArg List.length hs0; simp at this; omega
    obtain ⟨hlA1, hlB1⟩ := hlA
    obtain ⟨k0, hk0⟩ : ∃ k, A1.length = k := ⟨_, rfl⟩
    have hkl : k0 + 1 ≤ s.length := by rw [hs0, ← hk0]; simp
    have hup := fun W => rn_upto (P := Tryd.prog) Tryd.underlying9 (l := s) (k := k0) (x := A1) (by omega) (by rw [← hk0]; rw [hs0, List.take_left]) .i64 W
    have hfr := fun W => rn_from (P := Tryd.prog) Tryd.underlying9 (l := s) (k := k0 + 1) (x := B1) (by omega) (by rw [← hk0, hs0, show A1.length + 1 = (A1 ++ [124]).length by simp, show A1 ++ 124 :: B1 = (A1 ++ [124]) ++ B1 by simp, List.drop_left]) .i64 W
    obtain ⟨k1, hk1⟩ : ∃ k, k0 + 1 = k := ⟨_, rfl⟩
    have hwk : IntKind.i64.wrap ((k0 : Int) + 1) = (k1 : Int) := by rw [IntKind.wrap_i64]; omega
    have hwk2 : (k0 : Int) + 1 = (k1 : Int) := by omega
    have hwk3 : wrap64 (k1 : Int) = (k1 : Int) := by unfold wrap64; omega
    have hk00 : (0 : Int) ≤ (k0 : Int) := by omega
    rw [hk1] at hfr
    have HNU := Lib.hid fun W => l17Num_any A1 W hlA1
    obtain ⟨⟨mm, mo⟩, hmm⟩ : ∃ y, num17 A1 = y := ⟨_, rfl⟩
    rw [hmm] at HNU
    simp only [NmV] at HNU
    obtain ⟨⟨⟨a, b, c, d, n⟩, o⟩, hpt⟩ : ∃ r, ptT B1 = r := ⟨_, rfl⟩
    have HPT := Lib.hid fun W => specParseTerm_any B1 W (by omega)
    rw [hpt] at HPT
    simp only [PtV] at HPT
    have HV := Lib.hid (show rdS s = ⟨2, mm, a, b, c, d, n⟩ from by rw [HRD.out, hmm]; unfold tmA; rw [hpt])
    rw [hk0] at HF1
    clear hpt hmm hs0 hk0 hkl hk1
    clear hc1
    go_enter Tryd.func29, Tryd.ntmps29
    go_wp2_with fail
    generalize hW : World.alloc _ _ = W
    have hz : C7 W w.heap.size 0 0 0 0 0 0 0 := by subst hW; exact (by refine ⟨?_, ?_, ?_, ?_, ?_, ?_, ?_, ?_⟩ <;> first | (simp [go_sem]; done) | (simp; omega))
    have fz0 : Hid (∀ o, W.frozen? ⟨w.heap.size, o, none⟩ = false) := by intro o; subst hW; simp [go_sem]
    have hwa : Below w.heap.size w W := by subst hW; go_grown
    clear hW
    refine wp_loop_rounds 3 ?_
    rw [rounds_succ]
    go_wp2_with fail
    refine (HF1.out _).mono ?_
    rintro e w1 ⟨rfl, rfl⟩
    go_wp2_with fail
    refine (HNU.out _).mono ?_
    rintro e w1 ⟨rfl, rfl⟩
    go_wp2_with fail
    refine (HPT.out _).mono ?_
    rintro e w3 ⟨rfl, hb3⟩
    have hz3 := c7_on hz hb3
    have fz3 : Hid (∀ o, w3.frozen? ⟨w.heap.size, o, none⟩ = false) := Lib.hid (fz7_on hz.1 fz0 hb3)
    have hw3 := below_on hwa hb3
    clear hz fz0 hb3
    go_upto_region 9 with fail
    generalize hW : World.alloc _ _ = W4
    have hx : C5 W4 w3.heap.size a b c d n := by subst hW; exact (by refine ⟨?_, ?_, ?_, ?_, ?_, ?_⟩ <;> first | (simp [go_sem]; done) | (simp; omega))
    have hb4 : Below w3.heap.size w3 W4 := by subst hW; go_grown
    clear hW
    have hz4 := c7_on hz3 hb4
    have fz4 : Hid (∀ o, W4.frozen? ⟨w.heap.size, o, none⟩ = false) := Lib.hid (fz7_on hz3.1 fz3 hb4)
    have hw4 := below_on hw3 hb4
    clear hz3 fz3 hb4 hw3
    obtain ⟨z0, z1, z2, z3, z4, z5, z6, z7⟩ := hz4
    obtain ⟨x0, x1, x2, x3, x4, x5⟩ := hx
    have fz := fz4.out
    go_wp2
    refine bodyPost_ret (v := .agg #[.int .i64 2, .int .i64 mm, .int .i64 a, .int .i64 b, .int .i64 c, .int .i64 d, .int .i64 n]) (by simp [results, Tryd.results29, go_sem, z1, z2, z3, z4, z5, z6, z7]) rfl ⟨l2_ret HV.out.symm, ?_⟩
    exact hw4.trans (by go_grown)

set_option maxRecDepth 10000 in
set_option maxHeartbeats 4000000 in
theorem specParseAtom_any (s : List UInt8) (w : World) (hl : s.length ≤ 1048576) : Calls Tryd.prog 16 #[.string (bs s)] w fun e w' => e = .returned (PaV (paT s)) ∧ Below w.heap.size w w' := by
  have hl0 := bs_list
  have hsz := bs_size
  have HRA := Lib.hid fun W => l2Read_any s W hl
  have HPA := Lib.hid (pa_S s)
  obtain ⟨⟨k, m, a, b, c, d, n⟩, hr⟩ : ∃ A, rdS s = A := ⟨_, rfl⟩
  rw [hr] at HRA HPA
  simp only [AtV] at HRA
  have HFA := Lib.hid fun W => specFormatAtom_any k m a b c d n W
  obtain ⟨F, hF⟩ : ∃ F, taL k m a b c d n = F := ⟨_, rfl⟩
  rw [hF] at HFA
  have HV := Lib.hid (show paT s = if (F == s) = true then ((⟨k, m, a, b, c, d, n⟩ : AtD), true) else (zA, false) from by rw [HPA.out, show txA ⟨k, m, a, b, c, d, n⟩ = F from hF])
  clear hr hF
  go_enter Tryd.func16, Tryd.ntmps16
  go_wp2_with fail
  generalize hW : World.alloc _ _ = W
  have hz : C7 W w.heap.size 0 0 0 0 0 0 0 := by subst hW; exact (by refine ⟨?_, ?_, ?_, ?_, ?_, ?_, ?_, ?_⟩ <;> first | (simp [go_sem]; done) | (simp; omega))
  have fz0 : Hid (∀ o, W.frozen? ⟨w.heap.size, o, none⟩ = false) := by intro o; subst hW; simp [go_sem]
  have hw : Below w.heap.size w W := by subst hW; go_grown
  clear hW
  refine (HRA.out W).mono ?_
  rintro e w1 ⟨rfl, hb1⟩
  have hz1 := c7_on hz hb1
  have fz1 : Hid (∀ o, w1.frozen? ⟨w.heap.size, o, none⟩ = false) := Lib.hid (fz7_on hz.1 fz0 hb1)
  have hw1 := below_on hw hb1
  clear hz fz0 hb1 hw
  go_upto_region 2 with fail
  generalize hW : World.alloc _ _ = W2
  have hx : C7 W2 w1.heap.size k m a b c d n := by subst hW; exact (by refine ⟨?_, ?_, ?_, ?_, ?_, ?_, ?_, ?_⟩ <;> first | (simp [go_sem]; done) | (simp; omega))
  have hb2 : Below w1.heap.size w1 W2 := by subst hW; go_grown
  clear hW
  have hz2 := c7_on hz1 hb2
  have fz2 : Hid (∀ o, W2.frozen? ⟨w.heap.size, o, none⟩ = false) := Lib.hid (fz7_on hz1.1 fz1 hb2)
  have hw2 := below_on hw1 hb2
  clear hz1 fz1 hb2 hw1
  obtain ⟨x0, x1, x2, x3, x4, x5, x6, x7⟩ := id hx
  go_wp2_with fail
  refine (HFA.out _).mono ?_
  rintro e w5 ⟨rfl, hb5⟩
  have hz5 := c7_on hz2 hb5
  have fz5 : Hid (∀ o, w5.frozen? ⟨w.heap.size, o, none⟩ = false) := Lib.hid (fz7_on hz2.1 fz2 hb5)
  have hx5 := c7_on hx hb5
  have hw5 := below_on hw2 hb5
  clear hz2 fz2 hb5 hw2 hx x0 x1 x2 x3 x4 x5 x6 x7
  obtain ⟨x0, x1, x2, x3, x4, x5, x6, x7⟩ := hx5
  obtain ⟨z0, z1, z2, z3, z4, z5, z6, z7⟩ := hz5
  have fz := fz5.out
  rcases hq : (F == s) with _ | _
  · have hq2 : (F != s) = true := by unfold bne; rw [hq]; rfl
    rw [hq] at HV
    go_wp2
    refine bodyPost_ret (v := .tuple #[.agg #[.int .i64 0, .int .i64 0, .int .i64 0, .int .i64 0, .int .i64 0, .int .i64 0, .int .i64 0], .bool false]) (by simp [results, Tryd.results16, go_sem, z1, z2, z3, z4, z5, z6, z7]) rfl ⟨pav_ret HV.out.symm, ?_⟩
    exact hw5.trans (by go_grown)
  · have hq2 : (F != s) = false := by unfold bne; rw [hq]; rfl
    rw [hq] at HV
    go_wp2
    refine bodyPost_ret (v := .tuple #[.agg #[.int .i64 k, .int .i64 m, .int .i64 a, .int .i64 b, .int .i64 c, .int .i64 d, .int .i64 n], .bool true]) (by simp [results, Tryd.results16, go_sem, z1, z2, z3, z4, z5, z6, z7]) rfl ⟨pav_ret HV.out.symm, ?_⟩
    exact hw5.trans (by go_grown)

end Go.Proofs.YtjgmoledhkikcaaDoor
