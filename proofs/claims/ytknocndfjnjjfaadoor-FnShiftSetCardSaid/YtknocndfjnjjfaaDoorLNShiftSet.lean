/- The walk of the law FnShiftSet. -/
import Derived.Test.YtknocndfjnjjfaaDoorLwK
import Derived.BigQuiet
import Derived.Deep.RegionHeld3
import Derived.BigGuardPart
import Derived.Deep.DeepCutAuto
namespace Go.Proofs.YtknocndfjnjjfaaDoor
open Go.RowKit

set_option maxRecDepth 10000 in
set_option maxHeartbeats 4000000 in
theorem fnShiftSet_walk (sp : Option Addr) (n cap : Nat) (sp2 : Option Addr) (n2 cap2 : Nat) (w : World) (h : Code w sp n cap) (h2 : Code w sp2 n2 cap2) :
    Calls Tryd.prog 6 #[.slice sp n cap, .slice sp2 n2 cap2] w fun e w' => e = .returned (.bool true) ∧ Below w.heap.size w w' := by
  have HC := Lib.hid h
  have HC2 := Lib.hid h2
  clear h h2
  by_cases hn : n ≤ 1048576
  · have hn' : ¬ (1048576 : Int) < (n : Int) := by omega
    by_cases hm : n2 ≤ 1048576
    · have hm' : ¬ (1048576 : Int) < (n2 : Int) := by omega
      go_enter Tryd.func6, Tryd.ntmps6
      go_wp2_with fail
      refine (DrawShiftSet_t sp n cap w HC.out).mono ?_
      rintro e w1 ⟨h, l, n', rfl, ⟨s0, s1⟩, ⟨i0, i1⟩, k0⟩
      go_upto_region 4 with fail
      generalize hW : World.alloc w1 _ = w2
      obtain ⟨hx, hsx, hb⟩ := s2_new hW
      clear hW
      have k2 := below_on k0 hb
      clear k0
      have s_2 := hx
      clear hx hb
      obtain ⟨z0, z1⟩ : h.length ≤ 1000000000 ∧ l.length ≤ 1000000000 := ⟨by omega, by omega⟩
      have HI := Lib.hid fun w => ShiftSet_any h l n' w z0 z1 i0 i1
      have HS := Lib.hid fun w => specShiftSet_any h l n' w z0 z1 i0 i1
      obtain ⟨RR, er⟩ : ∃ RR, shR h l n' = RR := ⟨_, rfl⟩
      obtain ⟨⟨X, U⟩, b⟩ := RR
      rw [er] at HI HS
      have ER := Lib.hid er
      have hn1 := nel_same X U
      have he1 := eql_same X U
      clear er s0 s1
      obtain ⟨s_a, s_b, s_c, s_d⟩ := id s_2
      go_wp2_with fail
      refine (HI.out _).mono ?_
      rintro e w3 ⟨rfl, hb⟩
      clear s_a s_b s_c s_d
      have k3 := below_on k2 hb
      have s_3 := s2_on s_2 hb
      clear k2 s_2
      clear hb
      go_upto_region 5 with fail
      generalize hW : World.alloc w3 _ = w4
      obtain ⟨hx, hsx, hb⟩ := s2_new hW
      clear hW
      have k4 := below_on k3 hb
      have s_4 := s2_on s_3 hb
      clear k3 s_3
      have x_4 := hx
      clear hx hb
      obtain ⟨s_a, s_b, s_c, s_d⟩ := id s_4
      obtain ⟨x_a, x_b, x_c, x_d⟩ := id x_4
      go_wp2_with fail
      refine (HS.out _).mono ?_
      rintro e w5 ⟨rfl, hb⟩
      clear s_a s_b s_c s_d x_a x_b x_c x_d
      have k5 := below_on k4 hb
      have s_5 := s2_on s_4 hb
      have x_5 := s2_on x_4 hb
      clear k4 s_4 x_4
      clear hb
      go_upto_region 6 with fail
      generalize hW : World.alloc w5 _ = w6
      obtain ⟨hx, hsx, hb⟩ := s2_new hW
      clear hW
      have k6 := below_on k5 hb
      have s_6 := s2_on s_5 hb
      have x_6 := s2_on x_5 hb
      clear k5 s_5 x_5
      have want_6 := hx
      clear hx hb
      obtain ⟨s_a, s_b, s_c, s_d⟩ := id s_6
      obtain ⟨x_a, x_b, x_c, x_d⟩ := id x_6
      obtain ⟨want_a, want_b, want_c, want_d⟩ := id want_6
      cases b with
      | false =>
        go_wp2
        go_ret
        exact ⟨rfl, k6⟩
      | true =>
        obtain ⟨K, rfl, hK, v1, v2, nX, nY, hl1, hl2⟩ := sh_law ER.out
        have z4 : X.length ≤ 1000000000 := by have := (svS_parts v2).2.2.1; omega
        have z5 : U.length ≤ 1000000000 := by have := (svS_parts v2).2.2.2.2.1; omega
        obtain ⟨m, hm⟩ : ∃ m, n2 % 9 = m := ⟨_, rfl⟩
        have hm9 : m < 9 := by rw [← hm]; exact Nat.mod_lt _ (by decide)
        have htm : (n2 : Int).tmod 9 = (m : Int) := by rw [← hm, Int.tmod_eq_emod_of_nonneg (by omega)]; omega
        obtain ⟨S, hS⟩ : ∃ S, K + m = S := ⟨_, rfl⟩
        have hwS : IntKind.i64.wrap ((K : Int) + (m : Int)) = (S : Int) := by rw [IntKind.wrap_i64]; omega
        have U1 := Lib.hid fun w => ShiftSet_any X U (m : Int) w z4 z5 (by omega) (by omega)
        obtain ⟨RR, e1⟩ : ∃ RR, shR X U m = RR := ⟨_, rfl⟩
        obtain ⟨⟨A1, B1⟩, b1⟩ := RR
        rw [e1] at U1
        have U2 := Lib.hid fun w => ShiftSet_any h l (S : Int) w z0 z1 (by omega) (by omega)
        obtain ⟨RR, e2⟩ : ∃ RR, shR h l S = RR := ⟨_, rfl⟩
        obtain ⟨⟨A2, B2⟩, b2⟩ := RR
        rw [e2] at U2
        have U3 := Lib.hid fun w => ProgressionSet_any (K : Int) 0 w i0 i1 (by omega) (by omega)
        have hps := pr_small9 (K : Int) 0
        obtain ⟨RR, e3⟩ : ∃ RR, prR K 0 = RR := ⟨_, rfl⟩
        obtain ⟨⟨A3, B3⟩, b3⟩ := RR
        rw [e3] at U3 hps
        have U4 := Lib.hid fun w => SumSets_any h l A3 B3 w z0 z1 (by have := hps.1; dsimp only at this; omega) (by have := hps.2; dsimp only at this; omega)
        obtain ⟨RR, e4⟩ : ∃ RR, smR h l A3 B3 = RR := ⟨_, rfl⟩
        obtain ⟨⟨A4, B4⟩, b4⟩ := RR
        rw [e4] at U4
        have HL : Hid (b1 = true → b2 = true → A1 = A2 ∧ B1 = B2) := Lib.hid fun g1 g2 => by rw [g1] at e1; rw [g2, ← hS] at e2; exact Prod.mk.inj (hl1 m A1 B1 A2 B2 e1 e2)
        have HL2 : Hid (b4 = true → A4 = X ∧ B4 = U) := Lib.hid fun g4 => by rw [g4] at e4; exact Prod.mk.inj (hl2 A3 B3 A4 B4 (by rw [e3]) e4)
        have NX := Lib.hid nX
        have NY := Lib.hid nY
        clear nX nY hl1 hl2 e1 e2 e3 e4 hps v1 v2 ER HI HS hm hS i0 i1
        go_upto_region 8 with fail
        clear s_a s_b s_c s_d x_a x_b x_c x_d want_a want_b want_c want_d
        clear want_6
        go_wp2_with fail
        go_loopw [11] (fun i wr => ∃ k : Nat, i = .int .i64 k ∧ k ≤ 61 ∧ S2 wr (w1.heap.size) (bs h) (bs l) ∧ S2 wr (w3.heap.size) (bs X) (bs U) ∧ Below w.heap.size w wr) (fun i _ => 61 - (intOf i).toNat)
        case atStart => exact ⟨0, rfl, Nat.zero_le _, s_6, x_6, k6⟩
        case round =>
          clear s_6 x_6 k6
          obtain ⟨k, rfl, hk, s_7, x_7, k7⟩ := hrel
          by_cases hlt : k ≤ 60
          · have hk' : (k : Int) ≤ 60 := by omega
            have hwk : IntKind.i64.wrap ((k : Int) + 1) = ((k + 1 : Nat) : Int) := by rw [IntKind.wrap_i64]; omega
            obtain ⟨q, hq⟩ : ∃ q, k + K = q := ⟨_, rfl⟩
            have hqb : q ≤ 460 := by omega
            have hwq : IntKind.i64.wrap ((k : Int) + (K : Int)) = (q : Int) := by rw [IntKind.wrap_i64]; omega
            have hX := NX.out k
            rw [hq] at hX
            have hY := NY.out k
            clear hq
            obtain ⟨p, hp⟩ : ∃ p, hnB h l k = p := ⟨_, rfl⟩
            rw [hp] at hX
            by_cases hkK : k < K
            · have hlk : decide ((k : Int) < (K : Int)) = true := decide_eq_true (by omega)
              have hlk2 : decide (k < K) = true := decide_eq_true hkK
              have P3 := Lib.hid fun w => pbIn_is X U k false w z4 z5 (by omega) (by omega) (hY hkK)
              clear hY hkK
              cases p
              · skip
                have P1 := Lib.hid fun w => pbIn_is X U q false w z4 z5 (by omega) (by omega) (hX)
                have P2 := Lib.hid fun w => pbIn_is h l k false w z0 z1 (by omega) (by omega) (hp)
                clear hX hp
                go_upto_region 11 with fail
                refine wp_region_held_drew (S := (fun w' => Below wr.heap.size wr w' ∧ (w'.cell? ⟨w1.heap.size, 0, none⟩ = some (.string (bs h)) ∧ w'.cell? ⟨w1.heap.size, 1, none⟩ = some (.string (bs l))) ∧ (w'.cell? ⟨w3.heap.size, 0, none⟩ = some (.string (bs X)) ∧ w'.cell? ⟨w3.heap.size, 1, none⟩ = some (.string (bs U))))) (by kernel_rfl) ?_ (fun hHeld => ?_)
                · try dsimp only
                  refine kp2 s_7 x_7 ?_; go_grown
                refine wpAnyH_take (i := 0) (oi := { dst := some 70, op := Go.Op.load 24 (Go.Operand.tmp 7), type := 24, pos := "laws.go:1785", after := #[], guard := none }) (v := ?_) rfl (by kernel_rfl) (by kernel_rfl) (by kernel_rfl) (fun _ _ _ h => h) (Or.inl ⟨by rfl, ?_⟩) (by assumption) ?_
                rotate_left
                · (intro w hSw; (try dsimp only at hSw); first | (go_simp; done) | (go_simp; with_reducible rfl))
                try simp only [Act.put, List.setIfInBounds_toArray, List.set_cons_zero, List.set_cons_succ]
                refine wpAnyH_take (i := 1) (oi := { dst := some 71, op := Go.Op.move (Go.Operand.tmp 11), type := 3, pos := "laws.go:1785", after := #[], guard := none }) (v := ?_) rfl (by kernel_rfl) (by kernel_rfl) (by kernel_rfl) (fun _ _ _ h => h) (Or.inl ⟨by rfl, ?_⟩) (by assumption) ?_
                rotate_left
                · (intro w hSw; (try dsimp only at hSw); first | (go_simp; done) | (go_simp; with_reducible rfl))
                try simp only [Act.put, List.setIfInBounds_toArray, List.set_cons_zero, List.set_cons_succ]
                refine wpAnyH_take (i := 2) (oi := { dst := some 72, op := Go.Op.move (Go.Operand.tmp 6), type := 3, pos := "laws.go:1785", after := #[], guard := none }) (v := ?_) rfl (by kernel_rfl) (by kernel_rfl) (by kernel_rfl) (fun _ _ _ h => h) (Or.inl ⟨by rfl, ?_⟩) (by assumption) ?_
                rotate_left
                · (intro w hSw; (try dsimp only at hSw); first | (go_simp; done) | (go_simp; with_reducible rfl))
                try simp only [Act.put, List.setIfInBounds_toArray, List.set_cons_zero, List.set_cons_succ]
                refine wpAnyH_take (i := 3) (oi := { dst := some 73, op := Go.Op.binOp Go.BinOp.add 3 (Go.Operand.tmp 71) (Go.Operand.tmp 72) 3, type := 3, pos := "laws.go:1785", after := #[{ on := 1, ground := Go.Ground.data }, { on := 2, ground := Go.Ground.data }], guard := none }) (v := ?_) rfl (by kernel_rfl) (by kernel_rfl) (by kernel_rfl) (fun _ _ _ h => h) (Or.inl ⟨by rfl, ?_⟩) (by assumption) ?_
                rotate_left
                · (intro w hSw; (try dsimp only at hSw); first | (go_simp; done) | (go_simp; with_reducible rfl))
                try simp only [Act.put, List.setIfInBounds_toArray, List.set_cons_zero, List.set_cons_succ]
                refine wpAnyH_take (i := 5) (oi := { dst := some 75, op := Go.Op.load 24 (Go.Operand.tmp 5), type := 24, pos := "laws.go:1785", after := #[], guard := none }) (v := ?_) rfl (by kernel_rfl) (by kernel_rfl) (by kernel_rfl) (fun _ _ _ h => h) (Or.inl ⟨by rfl, ?_⟩) (by assumption) ?_
                rotate_left
                · (intro w hSw; (try dsimp only at hSw); first | (go_simp; done) | (go_simp; with_reducible rfl))
                try simp only [Act.put, List.setIfInBounds_toArray, List.set_cons_zero, List.set_cons_succ]
                refine wpAnyH_take (i := 6) (oi := { dst := some 76, op := Go.Op.move (Go.Operand.tmp 11), type := 3, pos := "laws.go:1785", after := #[], guard := none }) (v := ?_) rfl (by kernel_rfl) (by kernel_rfl) (by kernel_rfl) (fun _ _ _ h => h) (Or.inl ⟨by rfl, ?_⟩) (by assumption) ?_
                rotate_left
                · (intro w hSw; (try dsimp only at hSw); first | (go_simp; done) | (go_simp; with_reducible rfl))
                try simp only [Act.put, List.setIfInBounds_toArray, List.set_cons_zero, List.set_cons_succ]
                refine wpAnyH_ready (rs := [4]) (by kernel_rfl) (by simp) ?_
                refine AllReadyH.cons (o := { dst := some 74, op := Go.Op.call { callee := Go.Callee.value (Go.Operand.func 16), args := #[Go.Operand.tmp 70, Go.Operand.tmp 73], argTypes := #[24, 3] }, type := 4, pos := "laws.go:1785", after := #[{ on := 0, ground := Go.Ground.data }, { on := 3, ground := Go.Ground.data }], guard := none }) rfl (fun K hK => ?_) AllReadyH.nil
                go_simp
                (go_at_call 16; (first | (with_reducible refine (P1.out _).mono ?_) | (with_reducible refine (P2.out _).mono ?_) | (with_reducible refine (P3.out _).mono ?_)); rintro e w8 ⟨rfl, hb4⟩; have hbb4 := below_on (w := wr) (by go_grown) hb4)
                (try go_wp2_with fail)
                refine hK.out _ _ ?_ (fun hHeld => ?_)
                · try dsimp only
                  refine kp2 s_7 x_7 ?_; go_grown
                clear hK K
                try simp only [Act.put, List.setIfInBounds_toArray, List.set_cons_zero, List.set_cons_succ]
                refine wpAnyH_ready (rs := [7]) (by kernel_rfl) (by simp) ?_
                refine AllReadyH.cons (o := { dst := some 77, op := Go.Op.call { callee := Go.Callee.value (Go.Operand.func 16), args := #[Go.Operand.tmp 75, Go.Operand.tmp 76], argTypes := #[24, 3] }, type := 4, pos := "laws.go:1785", after := #[{ on := 5, ground := Go.Ground.data }, { on := 6, ground := Go.Ground.data }, { on := 4, ground := Go.Ground.chain }], guard := none }) rfl (fun K hK => ?_) AllReadyH.nil
                go_simp
                (go_at_call 16; (first | (with_reducible refine (P1.out _).mono ?_) | (with_reducible refine (P2.out _).mono ?_) | (with_reducible refine (P3.out _).mono ?_)); rintro e w8 ⟨rfl, hb4⟩; have hbb4 := below_on (w := wr) (by go_grown) hb4)
                (try go_wp2_with fail)
                refine hK.out _ _ ?_ (fun hHeld => ?_)
                · try dsimp only
                  refine kp2 s_7 x_7 ?_; go_grown
                clear hK K
                try simp only [Act.put, List.setIfInBounds_toArray, List.set_cons_zero, List.set_cons_succ]
                refine wpAnyH_take (i := 8) (oi := { dst := some 78, op := Go.Op.binOp Go.BinOp.neq 4 (Go.Operand.tmp 74) (Go.Operand.tmp 77) 4, type := 4, pos := "laws.go:1785", after := #[{ on := 4, ground := Go.Ground.data }, { on := 7, ground := Go.Ground.data }], guard := none }) (v := ?_) rfl (by kernel_rfl) (by kernel_rfl) (by kernel_rfl) (fun _ _ _ h => h) (Or.inl ⟨by rfl, ?_⟩) (by assumption) ?_
                rotate_left
                · (intro w hSw; (try dsimp only at hSw); first | (go_simp; done) | (go_simp; with_reducible rfl))
                try simp only [Act.put, List.setIfInBounds_toArray, List.set_cons_zero, List.set_cons_succ]
                refine wpAnyH_take (i := 9) (oi := { dst := some 79, op := Go.Op.move (Go.Operand.tmp 78), type := 4, pos := "laws.go:1785", after := #[{ on := 8, ground := Go.Ground.data }, { on := 7, ground := Go.Ground.chain }], guard := none }) (v := ?_) rfl (by kernel_rfl) (by kernel_rfl) (by kernel_rfl) (fun _ _ _ h => h) (Or.inl ⟨by rfl, ?_⟩) (by assumption) ?_
                rotate_left
                · (intro w hSw; (try dsimp only at hSw); first | (go_simp; done) | (go_simp; with_reducible rfl))
                try simp only [Act.put, List.setIfInBounds_toArray, List.set_cons_zero, List.set_cons_succ]
                refine wpAnyH_take (i := 10) (oi := { dst := some 80, op := Go.Op.move (Go.Operand.tmp 11), type := 3, pos := "laws.go:1785", after := #[{ on := 9, ground := Go.Ground.guard }], guard := some (9, false) }) (v := ?_) rfl (by kernel_rfl) (by kernel_rfl) (by kernel_rfl) (fun _ _ _ h => h) (Or.inl ⟨by rfl, ?_⟩) (by assumption) ?_
                rotate_left
                · (intro w hSw; (try dsimp only at hSw); first | (go_simp; done) | (go_simp; with_reducible rfl))
                try simp only [Act.put, List.setIfInBounds_toArray, List.set_cons_zero, List.set_cons_succ]
                refine wpAnyH_take (i := 11) (oi := { dst := some 81, op := Go.Op.move (Go.Operand.tmp 6), type := 3, pos := "laws.go:1785", after := #[{ on := 9, ground := Go.Ground.guard }], guard := some (9, false) }) (v := ?_) rfl (by kernel_rfl) (by kernel_rfl) (by kernel_rfl) (fun _ _ _ h => h) (Or.inl ⟨by rfl, ?_⟩) (by assumption) ?_
                rotate_left
                · (intro w hSw; (try dsimp only at hSw); first | (go_simp; done) | (go_simp; with_reducible rfl))
                try simp only [Act.put, List.setIfInBounds_toArray, List.set_cons_zero, List.set_cons_succ]
                refine wpAnyH_take (i := 12) (oi := { dst := some 82, op := Go.Op.binOp Go.BinOp.lss 3 (Go.Operand.tmp 80) (Go.Operand.tmp 81) 3, type := 4, pos := "laws.go:1785", after := #[{ on := 10, ground := Go.Ground.data }, { on := 11, ground := Go.Ground.data }, { on := 9, ground := Go.Ground.guard }], guard := some (9, false) }) (v := ?_) rfl (by kernel_rfl) (by kernel_rfl) (by kernel_rfl) (fun _ _ _ h => h) (Or.inl ⟨by rfl, ?_⟩) (by assumption) ?_
                rotate_left
                · (intro w hSw; (try dsimp only at hSw); first | (go_simp; done) | (go_simp; with_reducible rfl))
                try simp only [Act.put, List.setIfInBounds_toArray, List.set_cons_zero, List.set_cons_succ]
                refine wpAnyH_take (i := 13) (oi := { dst := some 83, op := Go.Op.move (Go.Operand.tmp 82), type := 4, pos := "laws.go:1785", after := #[{ on := 12, ground := Go.Ground.data }, { on := 9, ground := Go.Ground.chain }, { on := 9, ground := Go.Ground.guard }], guard := some (9, false) }) (v := ?_) rfl (by kernel_rfl) (by kernel_rfl) (by kernel_rfl) (fun _ _ _ h => h) (Or.inl ⟨by rfl, ?_⟩) (by assumption) ?_
                rotate_left
                · (intro w hSw; (try dsimp only at hSw); first | (go_simp; done) | (go_simp; with_reducible rfl))
                try simp only [Act.put, List.setIfInBounds_toArray, List.set_cons_zero, List.set_cons_succ]
                refine wpAnyH_take (i := 14) (oi := { dst := some 84, op := Go.Op.load 24 (Go.Operand.tmp 7), type := 24, pos := "laws.go:1785", after := #[{ on := 13, ground := Go.Ground.guard }], guard := some (13, true) }) (v := ?_) rfl (by kernel_rfl) (by kernel_rfl) (by kernel_rfl) (fun _ _ _ h => h) (Or.inl ⟨by rfl, ?_⟩) (by assumption) ?_
                rotate_left
                · (intro w hSw; (try dsimp only at hSw); first | (go_simp; done) | (go_simp; with_reducible rfl))
                try simp only [Act.put, List.setIfInBounds_toArray, List.set_cons_zero, List.set_cons_succ]
                refine wpAnyH_take (i := 15) (oi := { dst := some 85, op := Go.Op.move (Go.Operand.tmp 11), type := 3, pos := "laws.go:1785", after := #[{ on := 13, ground := Go.Ground.guard }], guard := some (13, true) }) (v := ?_) rfl (by kernel_rfl) (by kernel_rfl) (by kernel_rfl) (fun _ _ _ h => h) (Or.inl ⟨by rfl, ?_⟩) (by assumption) ?_
                rotate_left
                · (intro w hSw; (try dsimp only at hSw); first | (go_simp; done) | (go_simp; with_reducible rfl))
                try simp only [Act.put, List.setIfInBounds_toArray, List.set_cons_zero, List.set_cons_succ]
                refine wpAnyH_ready (rs := [16]) (by kernel_rfl) (by simp) ?_
                refine AllReadyH.cons (o := { dst := some 86, op := Go.Op.call { callee := Go.Callee.value (Go.Operand.func 16), args := #[Go.Operand.tmp 84, Go.Operand.tmp 85], argTypes := #[24, 3] }, type := 4, pos := "laws.go:1785", after := #[{ on := 14, ground := Go.Ground.data }, { on := 15, ground := Go.Ground.data }, { on := 13, ground := Go.Ground.chain }, { on := 13, ground := Go.Ground.guard }], guard := some (13, true) }) rfl (fun K hK => ?_) AllReadyH.nil
                go_simp
                (go_at_call 16; (first | (with_reducible refine (P1.out _).mono ?_) | (with_reducible refine (P2.out _).mono ?_) | (with_reducible refine (P3.out _).mono ?_)); rintro e w8 ⟨rfl, hb4⟩; have hbb4 := below_on (w := wr) (by go_grown) hb4)
                (try go_wp2_with fail)
                refine hK.out _ _ ?_ (fun hHeld => ?_)
                · try dsimp only
                  refine kp2 s_7 x_7 ?_; go_grown
                clear hK K
                try simp only [Act.put, List.setIfInBounds_toArray, List.set_cons_zero, List.set_cons_succ]
                refine wpAnyH_take (i := 17) (oi := { dst := some 87, op := Go.Op.pick (Go.Operand.tmp 83) (Go.Operand.tmp 86) (Go.Operand.const (Go.Value.bool false)), type := 4, pos := "laws.go:1785", after := #[{ on := 13, ground := Go.Ground.data }, { on := 16, ground := Go.Ground.data }, { on := 9, ground := Go.Ground.guard }], guard := some (9, false) }) (v := ?_) rfl (by kernel_rfl) (by kernel_rfl) (by kernel_rfl) (fun _ _ _ h => h) (Or.inl ⟨by rfl, ?_⟩) (by assumption) ?_
                rotate_left
                · (intro w hSw; (try dsimp only at hSw); first | (go_simp; done) | (go_simp; with_reducible rfl))
                try simp only [Act.put, List.setIfInBounds_toArray, List.set_cons_zero, List.set_cons_succ]
                refine wpAnyH_take (i := 18) (oi := { dst := some 88, op := Go.Op.pick (Go.Operand.tmp 79) (Go.Operand.const (Go.Value.bool true)) (Go.Operand.tmp 87), type := 4, pos := "laws.go:1785", after := #[{ on := 9, ground := Go.Ground.data }, { on := 17, ground := Go.Ground.data }], guard := none }) (v := ?_) rfl (by kernel_rfl) (by kernel_rfl) (by kernel_rfl) (fun _ _ _ h => h) (Or.inl ⟨by rfl, ?_⟩) (by assumption) ?_
                rotate_left
                · (intro w hSw; (try dsimp only at hSw); first | (go_simp; done) | (go_simp; with_reducible rfl))
                try simp only [Act.put, List.setIfInBounds_toArray, List.set_cons_zero, List.set_cons_succ]
                refine wpAnyH_done (by kernel_rfl) ?_ _
                have hk := hHeld.1
                clear hHeld
                have k9 := below_on k7 hk
                have s_9 := s2_on s_7 hk
                have x_9 := s2_on x_7 hk
                clear k7 s_7 x_7
                clear hk
                go_wp2
                go_roundw
                case rel => exact ⟨k + 1, rfl, by omega, s_9, x_9, k9⟩
                case measure => simp [intOf]; omega
              · skip
                have P1 := Lib.hid fun w => pbIn_is X U q true w z4 z5 (by omega) (by omega) (hX)
                have P2 := Lib.hid fun w => pbIn_is h l k true w z0 z1 (by omega) (by omega) (hp)
                clear hX hp
                go_upto_region 11 with fail
                refine wp_region_held_drew (S := (fun w' => Below wr.heap.size wr w' ∧ (w'.cell? ⟨w1.heap.size, 0, none⟩ = some (.string (bs h)) ∧ w'.cell? ⟨w1.heap.size, 1, none⟩ = some (.string (bs l))) ∧ (w'.cell? ⟨w3.heap.size, 0, none⟩ = some (.string (bs X)) ∧ w'.cell? ⟨w3.heap.size, 1, none⟩ = some (.string (bs U))))) (by kernel_rfl) ?_ (fun hHeld => ?_)
                · try dsimp only
                  refine kp2 s_7 x_7 ?_; go_grown
                refine wpAnyH_take (i := 0) (oi := { dst := some 70, op := Go.Op.load 24 (Go.Operand.tmp 7), type := 24, pos := "laws.go:1785", after := #[], guard := none }) (v := ?_) rfl (by kernel_rfl) (by kernel_rfl) (by kernel_rfl) (fun _ _ _ h => h) (Or.inl ⟨by rfl, ?_⟩) (by assumption) ?_
                rotate_left
                · (intro w hSw; (try dsimp only at hSw); first | (go_simp; done) | (go_simp; with_reducible rfl))
                try simp only [Act.put, List.setIfInBounds_toArray, List.set_cons_zero, List.set_cons_succ]
                refine wpAnyH_take (i := 1) (oi := { dst := some 71, op := Go.Op.move (Go.Operand.tmp 11), type := 3, pos := "laws.go:1785", after := #[], guard := none }) (v := ?_) rfl (by kernel_rfl) (by kernel_rfl) (by kernel_rfl) (fun _ _ _ h => h) (Or.inl ⟨by rfl, ?_⟩) (by assumption) ?_
                rotate_left
                · (intro w hSw; (try dsimp only at hSw); first | (go_simp; done) | (go_simp; with_reducible rfl))
                try simp only [Act.put, List.setIfInBounds_toArray, List.set_cons_zero, List.set_cons_succ]
                refine wpAnyH_take (i := 2) (oi := { dst := some 72, op := Go.Op.move (Go.Operand.tmp 6), type := 3, pos := "laws.go:1785", after := #[], guard := none }) (v := ?_) rfl (by kernel_rfl) (by kernel_rfl) (by kernel_rfl) (fun _ _ _ h => h) (Or.inl ⟨by rfl, ?_⟩) (by assumption) ?_
                rotate_left
                · (intro w hSw; (try dsimp only at hSw); first | (go_simp; done) | (go_simp; with_reducible rfl))
                try simp only [Act.put, List.setIfInBounds_toArray, List.set_cons_zero, List.set_cons_succ]
                refine wpAnyH_take (i := 3) (oi := { dst := some 73, op := Go.Op.binOp Go.BinOp.add 3 (Go.Operand.tmp 71) (Go.Operand.tmp 72) 3, type := 3, pos := "laws.go:1785", after := #[{ on := 1, ground := Go.Ground.data }, { on := 2, ground := Go.Ground.data }], guard := none }) (v := ?_) rfl (by kernel_rfl) (by kernel_rfl) (by kernel_rfl) (fun _ _ _ h => h) (Or.inl ⟨by rfl, ?_⟩) (by assumption) ?_
                rotate_left
                · (intro w hSw; (try dsimp only at hSw); first | (go_simp; done) | (go_simp; with_reducible rfl))
                try simp only [Act.put, List.setIfInBounds_toArray, List.set_cons_zero, List.set_cons_succ]
                refine wpAnyH_take (i := 5) (oi := { dst := some 75, op := Go.Op.load 24 (Go.Operand.tmp 5), type := 24, pos := "laws.go:1785", after := #[], guard := none }) (v := ?_) rfl (by kernel_rfl) (by kernel_rfl) (by kernel_rfl) (fun _ _ _ h => h) (Or.inl ⟨by rfl, ?_⟩) (by assumption) ?_
                rotate_left
                · (intro w hSw; (try dsimp only at hSw); first | (go_simp; done) | (go_simp; with_reducible rfl))
                try simp only [Act.put, List.setIfInBounds_toArray, List.set_cons_zero, List.set_cons_succ]
                refine wpAnyH_take (i := 6) (oi := { dst := some 76, op := Go.Op.move (Go.Operand.tmp 11), type := 3, pos := "laws.go:1785", after := #[], guard := none }) (v := ?_) rfl (by kernel_rfl) (by kernel_rfl) (by kernel_rfl) (fun _ _ _ h => h) (Or.inl ⟨by rfl, ?_⟩) (by assumption) ?_
                rotate_left
                · (intro w hSw; (try dsimp only at hSw); first | (go_simp; done) | (go_simp; with_reducible rfl))
                try simp only [Act.put, List.setIfInBounds_toArray, List.set_cons_zero, List.set_cons_succ]
                refine wpAnyH_ready (rs := [4]) (by kernel_rfl) (by simp) ?_
                refine AllReadyH.cons (o := { dst := some 74, op := Go.Op.call { callee := Go.Callee.value (Go.Operand.func 16), args := #[Go.Operand.tmp 70, Go.Operand.tmp 73], argTypes := #[24, 3] }, type := 4, pos := "laws.go:1785", after := #[{ on := 0, ground := Go.Ground.data }, { on := 3, ground := Go.Ground.data }], guard := none }) rfl (fun K hK => ?_) AllReadyH.nil
                go_simp
                (go_at_call 16; (first | (with_reducible refine (P1.out _).mono ?_) | (with_reducible refine (P2.out _).mono ?_) | (with_reducible refine (P3.out _).mono ?_)); rintro e w8 ⟨rfl, hb4⟩; have hbb4 := below_on (w := wr) (by go_grown) hb4)
                (try go_wp2_with fail)
                refine hK.out _ _ ?_ (fun hHeld => ?_)
                · try dsimp only
                  refine kp2 s_7 x_7 ?_; go_grown
                clear hK K
                try simp only [Act.put, List.setIfInBounds_toArray, List.set_cons_zero, List.set_cons_succ]
                refine wpAnyH_ready (rs := [7]) (by kernel_rfl) (by simp) ?_
                refine AllReadyH.cons (o := { dst := some 77, op := Go.Op.call { callee := Go.Callee.value (Go.Operand.func 16), args := #[Go.Operand.tmp 75, Go.Operand.tmp 76], argTypes := #[24, 3] }, type := 4, pos := "laws.go:1785", after := #[{ on := 5, ground := Go.Ground.data }, { on := 6, ground := Go.Ground.data }, { on := 4, ground := Go.Ground.chain }], guard := none }) rfl (fun K hK => ?_) AllReadyH.nil
                go_simp
                (go_at_call 16; (first | (with_reducible refine (P1.out _).mono ?_) | (with_reducible refine (P2.out _).mono ?_) | (with_reducible refine (P3.out _).mono ?_)); rintro e w8 ⟨rfl, hb4⟩; have hbb4 := below_on (w := wr) (by go_grown) hb4)
                (try go_wp2_with fail)
                refine hK.out _ _ ?_ (fun hHeld => ?_)
                · try dsimp only
                  refine kp2 s_7 x_7 ?_; go_grown
                clear hK K
                try simp only [Act.put, List.setIfInBounds_toArray, List.set_cons_zero, List.set_cons_succ]
                refine wpAnyH_take (i := 8) (oi := { dst := some 78, op := Go.Op.binOp Go.BinOp.neq 4 (Go.Operand.tmp 74) (Go.Operand.tmp 77) 4, type := 4, pos := "laws.go:1785", after := #[{ on := 4, ground := Go.Ground.data }, { on := 7, ground := Go.Ground.data }], guard := none }) (v := ?_) rfl (by kernel_rfl) (by kernel_rfl) (by kernel_rfl) (fun _ _ _ h => h) (Or.inl ⟨by rfl, ?_⟩) (by assumption) ?_
                rotate_left
                · (intro w hSw; (try dsimp only at hSw); first | (go_simp; done) | (go_simp; with_reducible rfl))
                try simp only [Act.put, List.setIfInBounds_toArray, List.set_cons_zero, List.set_cons_succ]
                refine wpAnyH_take (i := 9) (oi := { dst := some 79, op := Go.Op.move (Go.Operand.tmp 78), type := 4, pos := "laws.go:1785", after := #[{ on := 8, ground := Go.Ground.data }, { on := 7, ground := Go.Ground.chain }], guard := none }) (v := ?_) rfl (by kernel_rfl) (by kernel_rfl) (by kernel_rfl) (fun _ _ _ h => h) (Or.inl ⟨by rfl, ?_⟩) (by assumption) ?_
                rotate_left
                · (intro w hSw; (try dsimp only at hSw); first | (go_simp; done) | (go_simp; with_reducible rfl))
                try simp only [Act.put, List.setIfInBounds_toArray, List.set_cons_zero, List.set_cons_succ]
                refine wpAnyH_take (i := 10) (oi := { dst := some 80, op := Go.Op.move (Go.Operand.tmp 11), type := 3, pos := "laws.go:1785", after := #[{ on := 9, ground := Go.Ground.guard }], guard := some (9, false) }) (v := ?_) rfl (by kernel_rfl) (by kernel_rfl) (by kernel_rfl) (fun _ _ _ h => h) (Or.inl ⟨by rfl, ?_⟩) (by assumption) ?_
                rotate_left
                · (intro w hSw; (try dsimp only at hSw); first | (go_simp; done) | (go_simp; with_reducible rfl))
                try simp only [Act.put, List.setIfInBounds_toArray, List.set_cons_zero, List.set_cons_succ]
                refine wpAnyH_take (i := 11) (oi := { dst := some 81, op := Go.Op.move (Go.Operand.tmp 6), type := 3, pos := "laws.go:1785", after := #[{ on := 9, ground := Go.Ground.guard }], guard := some (9, false) }) (v := ?_) rfl (by kernel_rfl) (by kernel_rfl) (by kernel_rfl) (fun _ _ _ h => h) (Or.inl ⟨by rfl, ?_⟩) (by assumption) ?_
                rotate_left
                · (intro w hSw; (try dsimp only at hSw); first | (go_simp; done) | (go_simp; with_reducible rfl))
                try simp only [Act.put, List.setIfInBounds_toArray, List.set_cons_zero, List.set_cons_succ]
                refine wpAnyH_take (i := 12) (oi := { dst := some 82, op := Go.Op.binOp Go.BinOp.lss 3 (Go.Operand.tmp 80) (Go.Operand.tmp 81) 3, type := 4, pos := "laws.go:1785", after := #[{ on := 10, ground := Go.Ground.data }, { on := 11, ground := Go.Ground.data }, { on := 9, ground := Go.Ground.guard }], guard := some (9, false) }) (v := ?_) rfl (by kernel_rfl) (by kernel_rfl) (by kernel_rfl) (fun _ _ _ h => h) (Or.inl ⟨by rfl, ?_⟩) (by assumption) ?_
                rotate_left
                · (intro w hSw; (try dsimp only at hSw); first | (go_simp; done) | (go_simp; with_reducible rfl))
                try simp only [Act.put, List.setIfInBounds_toArray, List.set_cons_zero, List.set_cons_succ]
                refine wpAnyH_take (i := 13) (oi := { dst := some 83, op := Go.Op.move (Go.Operand.tmp 82), type := 4, pos := "laws.go:1785", after := #[{ on := 12, ground := Go.Ground.data }, { on := 9, ground := Go.Ground.chain }, { on := 9, ground := Go.Ground.guard }], guard := some (9, false) }) (v := ?_) rfl (by kernel_rfl) (by kernel_rfl) (by kernel_rfl) (fun _ _ _ h => h) (Or.inl ⟨by rfl, ?_⟩) (by assumption) ?_
                rotate_left
                · (intro w hSw; (try dsimp only at hSw); first | (go_simp; done) | (go_simp; with_reducible rfl))
                try simp only [Act.put, List.setIfInBounds_toArray, List.set_cons_zero, List.set_cons_succ]
                refine wpAnyH_take (i := 14) (oi := { dst := some 84, op := Go.Op.load 24 (Go.Operand.tmp 7), type := 24, pos := "laws.go:1785", after := #[{ on := 13, ground := Go.Ground.guard }], guard := some (13, true) }) (v := ?_) rfl (by kernel_rfl) (by kernel_rfl) (by kernel_rfl) (fun _ _ _ h => h) (Or.inl ⟨by rfl, ?_⟩) (by assumption) ?_
                rotate_left
                · (intro w hSw; (try dsimp only at hSw); first | (go_simp; done) | (go_simp; with_reducible rfl))
                try simp only [Act.put, List.setIfInBounds_toArray, List.set_cons_zero, List.set_cons_succ]
                refine wpAnyH_take (i := 15) (oi := { dst := some 85, op := Go.Op.move (Go.Operand.tmp 11), type := 3, pos := "laws.go:1785", after := #[{ on := 13, ground := Go.Ground.guard }], guard := some (13, true) }) (v := ?_) rfl (by kernel_rfl) (by kernel_rfl) (by kernel_rfl) (fun _ _ _ h => h) (Or.inl ⟨by rfl, ?_⟩) (by assumption) ?_
                rotate_left
                · (intro w hSw; (try dsimp only at hSw); first | (go_simp; done) | (go_simp; with_reducible rfl))
                try simp only [Act.put, List.setIfInBounds_toArray, List.set_cons_zero, List.set_cons_succ]
                refine wpAnyH_ready (rs := [16]) (by kernel_rfl) (by simp) ?_
                refine AllReadyH.cons (o := { dst := some 86, op := Go.Op.call { callee := Go.Callee.value (Go.Operand.func 16), args := #[Go.Operand.tmp 84, Go.Operand.tmp 85], argTypes := #[24, 3] }, type := 4, pos := "laws.go:1785", after := #[{ on := 14, ground := Go.Ground.data }, { on := 15, ground := Go.Ground.data }, { on := 13, ground := Go.Ground.chain }, { on := 13, ground := Go.Ground.guard }], guard := some (13, true) }) rfl (fun K hK => ?_) AllReadyH.nil
                go_simp
                (go_at_call 16; (first | (with_reducible refine (P1.out _).mono ?_) | (with_reducible refine (P2.out _).mono ?_) | (with_reducible refine (P3.out _).mono ?_)); rintro e w8 ⟨rfl, hb4⟩; have hbb4 := below_on (w := wr) (by go_grown) hb4)
                (try go_wp2_with fail)
                refine hK.out _ _ ?_ (fun hHeld => ?_)
                · try dsimp only
                  refine kp2 s_7 x_7 ?_; go_grown
                clear hK K
                try simp only [Act.put, List.setIfInBounds_toArray, List.set_cons_zero, List.set_cons_succ]
                refine wpAnyH_take (i := 17) (oi := { dst := some 87, op := Go.Op.pick (Go.Operand.tmp 83) (Go.Operand.tmp 86) (Go.Operand.const (Go.Value.bool false)), type := 4, pos := "laws.go:1785", after := #[{ on := 13, ground := Go.Ground.data }, { on := 16, ground := Go.Ground.data }, { on := 9, ground := Go.Ground.guard }], guard := some (9, false) }) (v := ?_) rfl (by kernel_rfl) (by kernel_rfl) (by kernel_rfl) (fun _ _ _ h => h) (Or.inl ⟨by rfl, ?_⟩) (by assumption) ?_
                rotate_left
                · (intro w hSw; (try dsimp only at hSw); first | (go_simp; done) | (go_simp; with_reducible rfl))
                try simp only [Act.put, List.setIfInBounds_toArray, List.set_cons_zero, List.set_cons_succ]
                refine wpAnyH_take (i := 18) (oi := { dst := some 88, op := Go.Op.pick (Go.Operand.tmp 79) (Go.Operand.const (Go.Value.bool true)) (Go.Operand.tmp 87), type := 4, pos := "laws.go:1785", after := #[{ on := 9, ground := Go.Ground.data }, { on := 17, ground := Go.Ground.data }], guard := none }) (v := ?_) rfl (by kernel_rfl) (by kernel_rfl) (by kernel_rfl) (fun _ _ _ h => h) (Or.inl ⟨by rfl, ?_⟩) (by assumption) ?_
                rotate_left
                · (intro w hSw; (try dsimp only at hSw); first | (go_simp; done) | (go_simp; with_reducible rfl))
                try simp only [Act.put, List.setIfInBounds_toArray, List.set_cons_zero, List.set_cons_succ]
                refine wpAnyH_done (by kernel_rfl) ?_ _
                have hk := hHeld.1
                clear hHeld
                have k9 := below_on k7 hk
                have s_9 := s2_on s_7 hk
                have x_9 := s2_on x_7 hk
                clear k7 s_7 x_7
                clear hk
                go_wp2
                go_roundw
                case rel => exact ⟨k + 1, rfl, by omega, s_9, x_9, k9⟩
                case measure => simp [intOf]; omega
            · have hlk : decide ((k : Int) < (K : Int)) = false := decide_eq_false (by omega)
              have hlk2 : decide (k < K) = false := decide_eq_false hkK
              clear hY hkK
              cases p
              · skip
                have P1 := Lib.hid fun w => pbIn_is X U q false w z4 z5 (by omega) (by omega) (hX)
                have P2 := Lib.hid fun w => pbIn_is h l k false w z0 z1 (by omega) (by omega) (hp)
                clear hX hp
                go_upto_region 11 with fail
                refine wp_region_held_drew (S := (fun w' => Below wr.heap.size wr w' ∧ (w'.cell? ⟨w1.heap.size, 0, none⟩ = some (.string (bs h)) ∧ w'.cell? ⟨w1.heap.size, 1, none⟩ = some (.string (bs l))) ∧ (w'.cell? ⟨w3.heap.size, 0, none⟩ = some (.string (bs X)) ∧ w'.cell? ⟨w3.heap.size, 1, none⟩ = some (.string (bs U))))) (by kernel_rfl) ?_ (fun hHeld => ?_)
                · try dsimp only
                  refine kp2 s_7 x_7 ?_; go_grown
                refine wpAnyH_take (i := 0) (oi := { dst := some 70, op := Go.Op.load 24 (Go.Operand.tmp 7), type := 24, pos := "laws.go:1785", after := #[], guard := none }) (v := ?_) rfl (by kernel_rfl) (by kernel_rfl) (by kernel_rfl) (fun _ _ _ h => h) (Or.inl ⟨by rfl, ?_⟩) (by assumption) ?_
                rotate_left
                · (intro w hSw; (try dsimp only at hSw); first | (go_simp; done) | (go_simp; with_reducible rfl))
                try simp only [Act.put, List.setIfInBounds_toArray, List.set_cons_zero, List.set_cons_succ]
                refine wpAnyH_take (i := 1) (oi := { dst := some 71, op := Go.Op.move (Go.Operand.tmp 11), type := 3, pos := "laws.go:1785", after := #[], guard := none }) (v := ?_) rfl (by kernel_rfl) (by kernel_rfl) (by kernel_rfl) (fun _ _ _ h => h) (Or.inl ⟨by rfl, ?_⟩) (by assumption) ?_
                rotate_left
                · (intro w hSw; (try dsimp only at hSw); first | (go_simp; done) | (go_simp; with_reducible rfl))
                try simp only [Act.put, List.setIfInBounds_toArray, List.set_cons_zero, List.set_cons_succ]
                refine wpAnyH_take (i := 2) (oi := { dst := some 72, op := Go.Op.move (Go.Operand.tmp 6), type := 3, pos := "laws.go:1785", after := #[], guard := none }) (v := ?_) rfl (by kernel_rfl) (by kernel_rfl) (by kernel_rfl) (fun _ _ _ h => h) (Or.inl ⟨by rfl, ?_⟩) (by assumption) ?_
                rotate_left
                · (intro w hSw; (try dsimp only at hSw); first | (go_simp; done) | (go_simp; with_reducible rfl))
                try simp only [Act.put, List.setIfInBounds_toArray, List.set_cons_zero, List.set_cons_succ]
                refine wpAnyH_take (i := 3) (oi := { dst := some 73, op := Go.Op.binOp Go.BinOp.add 3 (Go.Operand.tmp 71) (Go.Operand.tmp 72) 3, type := 3, pos := "laws.go:1785", after := #[{ on := 1, ground := Go.Ground.data }, { on := 2, ground := Go.Ground.data }], guard := none }) (v := ?_) rfl (by kernel_rfl) (by kernel_rfl) (by kernel_rfl) (fun _ _ _ h => h) (Or.inl ⟨by rfl, ?_⟩) (by assumption) ?_
                rotate_left
                · (intro w hSw; (try dsimp only at hSw); first | (go_simp; done) | (go_simp; with_reducible rfl))
                try simp only [Act.put, List.setIfInBounds_toArray, List.set_cons_zero, List.set_cons_succ]
                refine wpAnyH_take (i := 5) (oi := { dst := some 75, op := Go.Op.load 24 (Go.Operand.tmp 5), type := 24, pos := "laws.go:1785", after := #[], guard := none }) (v := ?_) rfl (by kernel_rfl) (by kernel_rfl) (by kernel_rfl) (fun _ _ _ h => h) (Or.inl ⟨by rfl, ?_⟩) (by assumption) ?_
                rotate_left
                · (intro w hSw; (try dsimp only at hSw); first | (go_simp; done) | (go_simp; with_reducible rfl))
                try simp only [Act.put, List.setIfInBounds_toArray, List.set_cons_zero, List.set_cons_succ]
                refine wpAnyH_take (i := 6) (oi := { dst := some 76, op := Go.Op.move (Go.Operand.tmp 11), type := 3, pos := "laws.go:1785", after := #[], guard := none }) (v := ?_) rfl (by kernel_rfl) (by kernel_rfl) (by kernel_rfl) (fun _ _ _ h => h) (Or.inl ⟨by rfl, ?_⟩) (by assumption) ?_
                rotate_left
                · (intro w hSw; (try dsimp only at hSw); first | (go_simp; done) | (go_simp; with_reducible rfl))
                try simp only [Act.put, List.setIfInBounds_toArray, List.set_cons_zero, List.set_cons_succ]
                refine wpAnyH_ready (rs := [4]) (by kernel_rfl) (by simp) ?_
                refine AllReadyH.cons (o := { dst := some 74, op := Go.Op.call { callee := Go.Callee.value (Go.Operand.func 16), args := #[Go.Operand.tmp 70, Go.Operand.tmp 73], argTypes := #[24, 3] }, type := 4, pos := "laws.go:1785", after := #[{ on := 0, ground := Go.Ground.data }, { on := 3, ground := Go.Ground.data }], guard := none }) rfl (fun K hK => ?_) AllReadyH.nil
                go_simp
                (go_at_call 16; (first | (with_reducible refine (P1.out _).mono ?_) | (with_reducible refine (P2.out _).mono ?_)); rintro e w8 ⟨rfl, hb4⟩; have hbb4 := below_on (w := wr) (by go_grown) hb4)
                (try go_wp2_with fail)
                refine hK.out _ _ ?_ (fun hHeld => ?_)
                · try dsimp only
                  refine kp2 s_7 x_7 ?_; go_grown
                clear hK K
                try simp only [Act.put, List.setIfInBounds_toArray, List.set_cons_zero, List.set_cons_succ]
                refine wpAnyH_ready (rs := [7]) (by kernel_rfl) (by simp) ?_
                refine AllReadyH.cons (o := { dst := some 77, op := Go.Op.call { callee := Go.Callee.value (Go.Operand.func 16), args := #[Go.Operand.tmp 75, Go.Operand.tmp 76], argTypes := #[24, 3] }, type := 4, pos := "laws.go:1785", after := #[{ on := 5, ground := Go.Ground.data }, { on := 6, ground := Go.Ground.data }, { on := 4, ground := Go.Ground.chain }], guard := none }) rfl (fun K hK => ?_) AllReadyH.nil
                go_simp
                (go_at_call 16; (first | (with_reducible refine (P1.out _).mono ?_) | (with_reducible refine (P2.out _).mono ?_)); rintro e w8 ⟨rfl, hb4⟩; have hbb4 := below_on (w := wr) (by go_grown) hb4)
                (try go_wp2_with fail)
                refine hK.out _ _ ?_ (fun hHeld => ?_)
                · try dsimp only
                  refine kp2 s_7 x_7 ?_; go_grown
                clear hK K
                try simp only [Act.put, List.setIfInBounds_toArray, List.set_cons_zero, List.set_cons_succ]
                refine wpAnyH_take (i := 8) (oi := { dst := some 78, op := Go.Op.binOp Go.BinOp.neq 4 (Go.Operand.tmp 74) (Go.Operand.tmp 77) 4, type := 4, pos := "laws.go:1785", after := #[{ on := 4, ground := Go.Ground.data }, { on := 7, ground := Go.Ground.data }], guard := none }) (v := ?_) rfl (by kernel_rfl) (by kernel_rfl) (by kernel_rfl) (fun _ _ _ h => h) (Or.inl ⟨by rfl, ?_⟩) (by assumption) ?_
                rotate_left
                · (intro w hSw; (try dsimp only at hSw); first | (go_simp; done) | (go_simp; with_reducible rfl))
                try simp only [Act.put, List.setIfInBounds_toArray, List.set_cons_zero, List.set_cons_succ]
                refine wpAnyH_take (i := 9) (oi := { dst := some 79, op := Go.Op.move (Go.Operand.tmp 78), type := 4, pos := "laws.go:1785", after := #[{ on := 8, ground := Go.Ground.data }, { on := 7, ground := Go.Ground.chain }], guard := none }) (v := ?_) rfl (by kernel_rfl) (by kernel_rfl) (by kernel_rfl) (fun _ _ _ h => h) (Or.inl ⟨by rfl, ?_⟩) (by assumption) ?_
                rotate_left
                · (intro w hSw; (try dsimp only at hSw); first | (go_simp; done) | (go_simp; with_reducible rfl))
                try simp only [Act.put, List.setIfInBounds_toArray, List.set_cons_zero, List.set_cons_succ]
                refine wpAnyH_take (i := 10) (oi := { dst := some 80, op := Go.Op.move (Go.Operand.tmp 11), type := 3, pos := "laws.go:1785", after := #[{ on := 9, ground := Go.Ground.guard }], guard := some (9, false) }) (v := ?_) rfl (by kernel_rfl) (by kernel_rfl) (by kernel_rfl) (fun _ _ _ h => h) (Or.inl ⟨by rfl, ?_⟩) (by assumption) ?_
                rotate_left
                · (intro w hSw; (try dsimp only at hSw); first | (go_simp; done) | (go_simp; with_reducible rfl))
                try simp only [Act.put, List.setIfInBounds_toArray, List.set_cons_zero, List.set_cons_succ]
                refine wpAnyH_take (i := 11) (oi := { dst := some 81, op := Go.Op.move (Go.Operand.tmp 6), type := 3, pos := "laws.go:1785", after := #[{ on := 9, ground := Go.Ground.guard }], guard := some (9, false) }) (v := ?_) rfl (by kernel_rfl) (by kernel_rfl) (by kernel_rfl) (fun _ _ _ h => h) (Or.inl ⟨by rfl, ?_⟩) (by assumption) ?_
                rotate_left
                · (intro w hSw; (try dsimp only at hSw); first | (go_simp; done) | (go_simp; with_reducible rfl))
                try simp only [Act.put, List.setIfInBounds_toArray, List.set_cons_zero, List.set_cons_succ]
                refine wpAnyH_take (i := 12) (oi := { dst := some 82, op := Go.Op.binOp Go.BinOp.lss 3 (Go.Operand.tmp 80) (Go.Operand.tmp 81) 3, type := 4, pos := "laws.go:1785", after := #[{ on := 10, ground := Go.Ground.data }, { on := 11, ground := Go.Ground.data }, { on := 9, ground := Go.Ground.guard }], guard := some (9, false) }) (v := ?_) rfl (by kernel_rfl) (by kernel_rfl) (by kernel_rfl) (fun _ _ _ h => h) (Or.inl ⟨by rfl, ?_⟩) (by assumption) ?_
                rotate_left
                · (intro w hSw; (try dsimp only at hSw); first | (go_simp; done) | (go_simp; with_reducible rfl))
                try simp only [Act.put, List.setIfInBounds_toArray, List.set_cons_zero, List.set_cons_succ]
                refine wpAnyH_take (i := 13) (oi := { dst := some 83, op := Go.Op.move (Go.Operand.tmp 82), type := 4, pos := "laws.go:1785", after := #[{ on := 12, ground := Go.Ground.data }, { on := 9, ground := Go.Ground.chain }, { on := 9, ground := Go.Ground.guard }], guard := some (9, false) }) (v := ?_) rfl (by kernel_rfl) (by kernel_rfl) (by kernel_rfl) (fun _ _ _ h => h) (Or.inl ⟨by rfl, ?_⟩) (by assumption) ?_
                rotate_left
                · (intro w hSw; (try dsimp only at hSw); first | (go_simp; done) | (go_simp; with_reducible rfl))
                try simp only [Act.put, List.setIfInBounds_toArray, List.set_cons_zero, List.set_cons_succ]
                refine wpAnyH_take (i := 14) (oi := { dst := some 84, op := Go.Op.load 24 (Go.Operand.tmp 7), type := 24, pos := "laws.go:1785", after := #[{ on := 13, ground := Go.Ground.guard }], guard := some (13, true) }) (v := undef) rfl (by kernel_rfl) (by kernel_rfl) (by kernel_rfl) (fun _ _ _ h => h) (Or.inr ⟨by rfl, rfl⟩) (by assumption) ?_
                try simp only [Act.put, List.setIfInBounds_toArray, List.set_cons_zero, List.set_cons_succ]
                refine wpAnyH_take (i := 15) (oi := { dst := some 85, op := Go.Op.move (Go.Operand.tmp 11), type := 3, pos := "laws.go:1785", after := #[{ on := 13, ground := Go.Ground.guard }], guard := some (13, true) }) (v := undef) rfl (by kernel_rfl) (by kernel_rfl) (by kernel_rfl) (fun _ _ _ h => h) (Or.inr ⟨by rfl, rfl⟩) (by assumption) ?_
                try simp only [Act.put, List.setIfInBounds_toArray, List.set_cons_zero, List.set_cons_succ]
                refine wpAnyH_take (i := 16) (oi := { dst := some 86, op := Go.Op.call { callee := Go.Callee.value (Go.Operand.func 16), args := #[Go.Operand.tmp 84, Go.Operand.tmp 85], argTypes := #[24, 3] }, type := 4, pos := "laws.go:1785", after := #[{ on := 14, ground := Go.Ground.data }, { on := 15, ground := Go.Ground.data }, { on := 13, ground := Go.Ground.chain }, { on := 13, ground := Go.Ground.guard }], guard := some (13, true) }) (v := undef) rfl (by kernel_rfl) (by kernel_rfl) (by kernel_rfl) (fun _ _ _ h => h) (Or.inr ⟨by rfl, rfl⟩) (by assumption) ?_
                try simp only [Act.put, List.setIfInBounds_toArray, List.set_cons_zero, List.set_cons_succ]
                refine wpAnyH_take (i := 17) (oi := { dst := some 87, op := Go.Op.pick (Go.Operand.tmp 83) (Go.Operand.tmp 86) (Go.Operand.const (Go.Value.bool false)), type := 4, pos := "laws.go:1785", after := #[{ on := 13, ground := Go.Ground.data }, { on := 16, ground := Go.Ground.data }, { on := 9, ground := Go.Ground.guard }], guard := some (9, false) }) (v := ?_) rfl (by kernel_rfl) (by kernel_rfl) (by kernel_rfl) (fun _ _ _ h => h) (Or.inl ⟨by rfl, ?_⟩) (by assumption) ?_
                rotate_left
                · (intro w hSw; (try dsimp only at hSw); first | (go_simp; done) | (go_simp; with_reducible rfl))
                try simp only [Act.put, List.setIfInBounds_toArray, List.set_cons_zero, List.set_cons_succ]
                refine wpAnyH_take (i := 18) (oi := { dst := some 88, op := Go.Op.pick (Go.Operand.tmp 79) (Go.Operand.const (Go.Value.bool true)) (Go.Operand.tmp 87), type := 4, pos := "laws.go:1785", after := #[{ on := 9, ground := Go.Ground.data }, { on := 17, ground := Go.Ground.data }], guard := none }) (v := ?_) rfl (by kernel_rfl) (by kernel_rfl) (by kernel_rfl) (fun _ _ _ h => h) (Or.inl ⟨by rfl, ?_⟩) (by assumption) ?_
                rotate_left
                · (intro w hSw; (try dsimp only at hSw); first | (go_simp; done) | (go_simp; with_reducible rfl))
                try simp only [Act.put, List.setIfInBounds_toArray, List.set_cons_zero, List.set_cons_succ]
                refine wpAnyH_done (by kernel_rfl) ?_ _
                have hk := hHeld.1
                clear hHeld
                have k9 := below_on k7 hk
                have s_9 := s2_on s_7 hk
                have x_9 := s2_on x_7 hk
                clear k7 s_7 x_7
                clear hk
                go_wp2
                go_roundw
                case rel => exact ⟨k + 1, rfl, by omega, s_9, x_9, k9⟩
                case measure => simp [intOf]; omega
              · skip
                have P1 := Lib.hid fun w => pbIn_is X U q true w z4 z5 (by omega) (by omega) (hX)
                have P2 := Lib.hid fun w => pbIn_is h l k true w z0 z1 (by omega) (by omega) (hp)
                clear hX hp
                go_upto_region 11 with fail
                refine wp_region_held_drew (S := (fun w' => Below wr.heap.size wr w' ∧ (w'.cell? ⟨w1.heap.size, 0, none⟩ = some (.string (bs h)) ∧ w'.cell? ⟨w1.heap.size, 1, none⟩ = some (.string (bs l))) ∧ (w'.cell? ⟨w3.heap.size, 0, none⟩ = some (.string (bs X)) ∧ w'.cell? ⟨w3.heap.size, 1, none⟩ = some (.string (bs U))))) (by kernel_rfl) ?_ (fun hHeld => ?_)
                · try dsimp only
                  refine kp2 s_7 x_7 ?_; go_grown
                refine wpAnyH_take (i := 0) (oi := { dst := some 70, op := Go.Op.load 24 (Go.Operand.tmp 7), type := 24, pos := "laws.go:1785", after := #[], guard := none }) (v := ?_) rfl (by kernel_rfl) (by kernel_rfl) (by kernel_rfl) (fun _ _ _ h => h) (Or.inl ⟨by rfl, ?_⟩) (by assumption) ?_
                rotate_left
                · (intro w hSw; (try dsimp only at hSw); first | (go_simp; done) | (go_simp; with_reducible rfl))
                try simp only [Act.put, List.setIfInBounds_toArray, List.set_cons_zero, List.set_cons_succ]
                refine wpAnyH_take (i := 1) (oi := { dst := some 71, op := Go.Op.move (Go.Operand.tmp 11), type := 3, pos := "laws.go:1785", after := #[], guard := none }) (v := ?_) rfl (by kernel_rfl) (by kernel_rfl) (by kernel_rfl) (fun _ _ _ h => h) (Or.inl ⟨by rfl, ?_⟩) (by assumption) ?_
                rotate_left
                · (intro w hSw; (try dsimp only at hSw); first | (go_simp; done) | (go_simp; with_reducible rfl))
                try simp only [Act.put, List.setIfInBounds_toArray, List.set_cons_zero, List.set_cons_succ]
                refine wpAnyH_take (i := 2) (oi := { dst := some 72, op := Go.Op.move (Go.Operand.tmp 6), type := 3, pos := "laws.go:1785", after := #[], guard := none }) (v := ?_) rfl (by kernel_rfl) (by kernel_rfl) (by kernel_rfl) (fun _ _ _ h => h) (Or.inl ⟨by rfl, ?_⟩) (by assumption) ?_
                rotate_left
                · (intro w hSw; (try dsimp only at hSw); first | (go_simp; done) | (go_simp; with_reducible rfl))
                try simp only [Act.put, List.setIfInBounds_toArray, List.set_cons_zero, List.set_cons_succ]
                refine wpAnyH_take (i := 3) (oi := { dst := some 73, op := Go.Op.binOp Go.BinOp.add 3 (Go.Operand.tmp 71) (Go.Operand.tmp 72) 3, type := 3, pos := "laws.go:1785", after := #[{ on := 1, ground := Go.Ground.data }, { on := 2, ground := Go.Ground.data }], guard := none }) (v := ?_) rfl (by kernel_rfl) (by kernel_rfl) (by kernel_rfl) (fun _ _ _ h => h) (Or.inl ⟨by rfl, ?_⟩) (by assumption) ?_
                rotate_left
                · (intro w hSw; (try dsimp only at hSw); first | (go_simp; done) | (go_simp; with_reducible rfl))
                try simp only [Act.put, List.setIfInBounds_toArray, List.set_cons_zero, List.set_cons_succ]
                refine wpAnyH_take (i := 5) (oi := { dst := some 75, op := Go.Op.load 24 (Go.Operand.tmp 5), type := 24, pos := "laws.go:1785", after := #[], guard := none }) (v := ?_) rfl (by kernel_rfl) (by kernel_rfl) (by kernel_rfl) (fun _ _ _ h => h) (Or.inl ⟨by rfl, ?_⟩) (by assumption) ?_
                rotate_left
                · (intro w hSw; (try dsimp only at hSw); first | (go_simp; done) | (go_simp; with_reducible rfl))
                try simp only [Act.put, List.setIfInBounds_toArray, List.set_cons_zero, List.set_cons_succ]
                refine wpAnyH_take (i := 6) (oi := { dst := some 76, op := Go.Op.move (Go.Operand.tmp 11), type := 3, pos := "laws.go:1785", after := #[], guard := none }) (v := ?_) rfl (by kernel_rfl) (by kernel_rfl) (by kernel_rfl) (fun _ _ _ h => h) (Or.inl ⟨by rfl, ?_⟩) (by assumption) ?_
                rotate_left
                · (intro w hSw; (try dsimp only at hSw); first | (go_simp; done) | (go_simp; with_reducible rfl))
                try simp only [Act.put, List.setIfInBounds_toArray, List.set_cons_zero, List.set_cons_succ]
                refine wpAnyH_ready (rs := [4]) (by kernel_rfl) (by simp) ?_
                refine AllReadyH.cons (o := { dst := some 74, op := Go.Op.call { callee := Go.Callee.value (Go.Operand.func 16), args := #[Go.Operand.tmp 70, Go.Operand.tmp 73], argTypes := #[24, 3] }, type := 4, pos := "laws.go:1785", after := #[{ on := 0, ground := Go.Ground.data }, { on := 3, ground := Go.Ground.data }], guard := none }) rfl (fun K hK => ?_) AllReadyH.nil
                go_simp
                (go_at_call 16; (first | (with_reducible refine (P1.out _).mono ?_) | (with_reducible refine (P2.out _).mono ?_)); rintro e w8 ⟨rfl, hb4⟩; have hbb4 := below_on (w := wr) (by go_grown) hb4)
                (try go_wp2_with fail)
                refine hK.out _ _ ?_ (fun hHeld => ?_)
                · try dsimp only
                  refine kp2 s_7 x_7 ?_; go_grown
                clear hK K
                try simp only [Act.put, List.setIfInBounds_toArray, List.set_cons_zero, List.set_cons_succ]
                refine wpAnyH_ready (rs := [7]) (by kernel_rfl) (by simp) ?_
                refine AllReadyH.cons (o := { dst := some 77, op := Go.Op.call { callee := Go.Callee.value (Go.Operand.func 16), args := #[Go.Operand.tmp 75, Go.Operand.tmp 76], argTypes := #[24, 3] }, type := 4, pos := "laws.go:1785", after := #[{ on := 5, ground := Go.Ground.data }, { on := 6, ground := Go.Ground.data }, { on := 4, ground := Go.Ground.chain }], guard := none }) rfl (fun K hK => ?_) AllReadyH.nil
                go_simp
                (go_at_call 16; (first | (with_reducible refine (P1.out _).mono ?_) | (with_reducible refine (P2.out _).mono ?_)); rintro e w8 ⟨rfl, hb4⟩; have hbb4 := below_on (w := wr) (by go_grown) hb4)
                (try go_wp2_with fail)
                refine hK.out _ _ ?_ (fun hHeld => ?_)
                · try dsimp only
                  refine kp2 s_7 x_7 ?_; go_grown
                clear hK K
                try simp only [Act.put, List.setIfInBounds_toArray, List.set_cons_zero, List.set_cons_succ]
                refine wpAnyH_take (i := 8) (oi := { dst := some 78, op := Go.Op.binOp Go.BinOp.neq 4 (Go.Operand.tmp 74) (Go.Operand.tmp 77) 4, type := 4, pos := "laws.go:1785", after := #[{ on := 4, ground := Go.Ground.data }, { on := 7, ground := Go.Ground.data }], guard := none }) (v := ?_) rfl (by kernel_rfl) (by kernel_rfl) (by kernel_rfl) (fun _ _ _ h => h) (Or.inl ⟨by rfl, ?_⟩) (by assumption) ?_
                rotate_left
                · (intro w hSw; (try dsimp only at hSw); first | (go_simp; done) | (go_simp; with_reducible rfl))
                try simp only [Act.put, List.setIfInBounds_toArray, List.set_cons_zero, List.set_cons_succ]
                refine wpAnyH_take (i := 9) (oi := { dst := some 79, op := Go.Op.move (Go.Operand.tmp 78), type := 4, pos := "laws.go:1785", after := #[{ on := 8, ground := Go.Ground.data }, { on := 7, ground := Go.Ground.chain }], guard := none }) (v := ?_) rfl (by kernel_rfl) (by kernel_rfl) (by kernel_rfl) (fun _ _ _ h => h) (Or.inl ⟨by rfl, ?_⟩) (by assumption) ?_
                rotate_left
                · (intro w hSw; (try dsimp only at hSw); first | (go_simp; done) | (go_simp; with_reducible rfl))
                try simp only [Act.put, List.setIfInBounds_toArray, List.set_cons_zero, List.set_cons_succ]
                refine wpAnyH_take (i := 10) (oi := { dst := some 80, op := Go.Op.move (Go.Operand.tmp 11), type := 3, pos := "laws.go:1785", after := #[{ on := 9, ground := Go.Ground.guard }], guard := some (9, false) }) (v := ?_) rfl (by kernel_rfl) (by kernel_rfl) (by kernel_rfl) (fun _ _ _ h => h) (Or.inl ⟨by rfl, ?_⟩) (by assumption) ?_
                rotate_left
                · (intro w hSw; (try dsimp only at hSw); first | (go_simp; done) | (go_simp; with_reducible rfl))
                try simp only [Act.put, List.setIfInBounds_toArray, List.set_cons_zero, List.set_cons_succ]
                refine wpAnyH_take (i := 11) (oi := { dst := some 81, op := Go.Op.move (Go.Operand.tmp 6), type := 3, pos := "laws.go:1785", after := #[{ on := 9, ground := Go.Ground.guard }], guard := some (9, false) }) (v := ?_) rfl (by kernel_rfl) (by kernel_rfl) (by kernel_rfl) (fun _ _ _ h => h) (Or.inl ⟨by rfl, ?_⟩) (by assumption) ?_
                rotate_left
                · (intro w hSw; (try dsimp only at hSw); first | (go_simp; done) | (go_simp; with_reducible rfl))
                try simp only [Act.put, List.setIfInBounds_toArray, List.set_cons_zero, List.set_cons_succ]
                refine wpAnyH_take (i := 12) (oi := { dst := some 82, op := Go.Op.binOp Go.BinOp.lss 3 (Go.Operand.tmp 80) (Go.Operand.tmp 81) 3, type := 4, pos := "laws.go:1785", after := #[{ on := 10, ground := Go.Ground.data }, { on := 11, ground := Go.Ground.data }, { on := 9, ground := Go.Ground.guard }], guard := some (9, false) }) (v := ?_) rfl (by kernel_rfl) (by kernel_rfl) (by kernel_rfl) (fun _ _ _ h => h) (Or.inl ⟨by rfl, ?_⟩) (by assumption) ?_
                rotate_left
                · (intro w hSw; (try dsimp only at hSw); first | (go_simp; done) | (go_simp; with_reducible rfl))
                try simp only [Act.put, List.setIfInBounds_toArray, List.set_cons_zero, List.set_cons_succ]
                refine wpAnyH_take (i := 13) (oi := { dst := some 83, op := Go.Op.move (Go.Operand.tmp 82), type := 4, pos := "laws.go:1785", after := #[{ on := 12, ground := Go.Ground.data }, { on := 9, ground := Go.Ground.chain }, { on := 9, ground := Go.Ground.guard }], guard := some (9, false) }) (v := ?_) rfl (by kernel_rfl) (by kernel_rfl) (by kernel_rfl) (fun _ _ _ h => h) (Or.inl ⟨by rfl, ?_⟩) (by assumption) ?_
                rotate_left
                · (intro w hSw; (try dsimp only at hSw); first | (go_simp; done) | (go_simp; with_reducible rfl))
                try simp only [Act.put, List.setIfInBounds_toArray, List.set_cons_zero, List.set_cons_succ]
                refine wpAnyH_take (i := 14) (oi := { dst := some 84, op := Go.Op.load 24 (Go.Operand.tmp 7), type := 24, pos := "laws.go:1785", after := #[{ on := 13, ground := Go.Ground.guard }], guard := some (13, true) }) (v := undef) rfl (by kernel_rfl) (by kernel_rfl) (by kernel_rfl) (fun _ _ _ h => h) (Or.inr ⟨by rfl, rfl⟩) (by assumption) ?_
                try simp only [Act.put, List.setIfInBounds_toArray, List.set_cons_zero, List.set_cons_succ]
                refine wpAnyH_take (i := 15) (oi := { dst := some 85, op := Go.Op.move (Go.Operand.tmp 11), type := 3, pos := "laws.go:1785", after := #[{ on := 13, ground := Go.Ground.guard }], guard := some (13, true) }) (v := undef) rfl (by kernel_rfl) (by kernel_rfl) (by kernel_rfl) (fun _ _ _ h => h) (Or.inr ⟨by rfl, rfl⟩) (by assumption) ?_
                try simp only [Act.put, List.setIfInBounds_toArray, List.set_cons_zero, List.set_cons_succ]
                refine wpAnyH_take (i := 16) (oi := { dst := some 86, op := Go.Op.call { callee := Go.Callee.value (Go.Operand.func 16), args := #[Go.Operand.tmp 84, Go.Operand.tmp 85], argTypes := #[24, 3] }, type := 4, pos := "laws.go:1785", after := #[{ on := 14, ground := Go.Ground.data }, { on := 15, ground := Go.Ground.data }, { on := 13, ground := Go.Ground.chain }, { on := 13, ground := Go.Ground.guard }], guard := some (13, true) }) (v := undef) rfl (by kernel_rfl) (by kernel_rfl) (by kernel_rfl) (fun _ _ _ h => h) (Or.inr ⟨by rfl, rfl⟩) (by assumption) ?_
                try simp only [Act.put, List.setIfInBounds_toArray, List.set_cons_zero, List.set_cons_succ]
                refine wpAnyH_take (i := 17) (oi := { dst := some 87, op := Go.Op.pick (Go.Operand.tmp 83) (Go.Operand.tmp 86) (Go.Operand.const (Go.Value.bool false)), type := 4, pos := "laws.go:1785", after := #[{ on := 13, ground := Go.Ground.data }, { on := 16, ground := Go.Ground.data }, { on := 9, ground := Go.Ground.guard }], guard := some (9, false) }) (v := ?_) rfl (by kernel_rfl) (by kernel_rfl) (by kernel_rfl) (fun _ _ _ h => h) (Or.inl ⟨by rfl, ?_⟩) (by assumption) ?_
                rotate_left
                · (intro w hSw; (try dsimp only at hSw); first | (go_simp; done) | (go_simp; with_reducible rfl))
                try simp only [Act.put, List.setIfInBounds_toArray, List.set_cons_zero, List.set_cons_succ]
                refine wpAnyH_take (i := 18) (oi := { dst := some 88, op := Go.Op.pick (Go.Operand.tmp 79) (Go.Operand.const (Go.Value.bool true)) (Go.Operand.tmp 87), type := 4, pos := "laws.go:1785", after := #[{ on := 9, ground := Go.Ground.data }, { on := 17, ground := Go.Ground.data }], guard := none }) (v := ?_) rfl (by kernel_rfl) (by kernel_rfl) (by kernel_rfl) (fun _ _ _ h => h) (Or.inl ⟨by rfl, ?_⟩) (by assumption) ?_
                rotate_left
                · (intro w hSw; (try dsimp only at hSw); first | (go_simp; done) | (go_simp; with_reducible rfl))
                try simp only [Act.put, List.setIfInBounds_toArray, List.set_cons_zero, List.set_cons_succ]
                refine wpAnyH_done (by kernel_rfl) ?_ _
                have hk := hHeld.1
                clear hHeld
                have k9 := below_on k7 hk
                have s_9 := s2_on s_7 hk
                have x_9 := s2_on x_7 hk
                clear k7 s_7 x_7
                clear hk
                go_wp2
                go_roundw
                case rel => exact ⟨k + 1, rfl, by omega, s_9, x_9, k9⟩
                case measure => simp [intOf]; omega
          · have hk' : ¬ (k : Int) ≤ 60 := by omega
            clear hlt hk
            obtain ⟨s_a, s_b, s_c, s_d⟩ := id s_7
            obtain ⟨x_a, x_b, x_c, x_d⟩ := id x_7
            go_wp2_with fail
            refine (U1.out _).mono ?_
            rintro e w13 ⟨rfl, hb⟩
            clear s_a s_b s_c s_d x_a x_b x_c x_d
            have k13 := below_on k7 hb
            have s_13 := s2_on s_7 hb
            have x_13 := s2_on x_7 hb
            clear k7 s_7 x_7
            clear hb
            go_upto_region 15 with fail
            generalize hW : World.alloc w13 _ = w14
            obtain ⟨hx, hsx, hb⟩ := s2_new hW
            clear hW
            have k14 := below_on k13 hb
            have s_14 := s2_on s_13 hb
            have x_14 := s2_on x_13 hb
            clear k13 s_13 x_13
            have y_14 := hx
            clear hx hb
            obtain ⟨s_a, s_b, s_c, s_d⟩ := id s_14
            obtain ⟨x_a, x_b, x_c, x_d⟩ := id x_14
            obtain ⟨y_a, y_b, y_c, y_d⟩ := id y_14
            go_wp2_with fail
            refine (U2.out _).mono ?_
            rintro e w15 ⟨rfl, hb⟩
            clear s_a s_b s_c s_d x_a x_b x_c x_d y_a y_b y_c y_d
            have k15 := below_on k14 hb
            have s_15 := s2_on s_14 hb
            have x_15 := s2_on x_14 hb
            have y_15 := s2_on y_14 hb
            clear k14 s_14 x_14 y_14
            clear hb
            go_upto_region 16 with fail
            generalize hW : World.alloc w15 _ = w16
            obtain ⟨hx, hsx, hb⟩ := s2_new hW
            clear hW
            have k16 := below_on k15 hb
            have s_16 := s2_on s_15 hb
            have x_16 := s2_on x_15 hb
            have y_16 := s2_on y_15 hb
            clear k15 s_15 x_15 y_15
            have z_16 := hx
            clear hx hb
            obtain ⟨s_a, s_b, s_c, s_d⟩ := id s_16
            obtain ⟨x_a, x_b, x_c, x_d⟩ := id x_16
            obtain ⟨y_a, y_b, y_c, y_d⟩ := id y_16
            obtain ⟨z_a, z_b, z_c, z_d⟩ := id z_16
            go_wp2_with fail
            refine (U3.out _).mono ?_
            rintro e w17 ⟨rfl, hb⟩
            clear s_a s_b s_c s_d x_a x_b x_c x_d y_a y_b y_c y_d z_a z_b z_c z_d
            have k17 := below_on k16 hb
            have s_17 := s2_on s_16 hb
            have x_17 := s2_on x_16 hb
            have y_17 := s2_on y_16 hb
            have z_17 := s2_on z_16 hb
            clear k16 s_16 x_16 y_16 z_16
            clear hb
            go_upto_region 17 with fail
            generalize hW : World.alloc w17 _ = w18
            obtain ⟨hx, hsx, hb⟩ := s2_new hW
            clear hW
            have k18 := below_on k17 hb
            have s_18 := s2_on s_17 hb
            have x_18 := s2_on x_17 hb
            have y_18 := s2_on y_17 hb
            have z_18 := s2_on z_17 hb
            clear k17 s_17 x_17 y_17 z_17
            have g_18 := hx
            clear hx hb
            obtain ⟨s_a, s_b, s_c, s_d⟩ := id s_18
            obtain ⟨x_a, x_b, x_c, x_d⟩ := id x_18
            obtain ⟨y_a, y_b, y_c, y_d⟩ := id y_18
            obtain ⟨z_a, z_b, z_c, z_d⟩ := id z_18
            obtain ⟨g_a, g_b, g_c, g_d⟩ := id g_18
            go_wp2_with fail
            refine (U4.out _).mono ?_
            rintro e w19 ⟨rfl, hb⟩
            clear s_a s_b s_c s_d x_a x_b x_c x_d y_a y_b y_c y_d z_a z_b z_c z_d g_a g_b g_c g_d
            have k19 := below_on k18 hb
            have s_19 := s2_on s_18 hb
            have x_19 := s2_on x_18 hb
            have y_19 := s2_on y_18 hb
            have z_19 := s2_on z_18 hb
            have g_19 := s2_on g_18 hb
            clear k18 s_18 x_18 y_18 z_18 g_18
            clear hb
            go_upto_region 18 with fail
            generalize hW : World.alloc w19 _ = w20
            obtain ⟨hx, hsx, hb⟩ := s2_new hW
            clear hW
            have k20 := below_on k19 hb
            have s_20 := s2_on s_19 hb
            have x_20 := s2_on x_19 hb
            have y_20 := s2_on y_19 hb
            have z_20 := s2_on z_19 hb
            have g_20 := s2_on g_19 hb
            clear k19 s_19 x_19 y_19 z_19 g_19
            have q_20 := hx
            clear hx hb
            cases b1 with
            | false =>
              cases b4 with
              | false =>
                obtain ⟨s_a, s_b, s_c, s_d⟩ := id s_20
                obtain ⟨x_a, x_b, x_c, x_d⟩ := id x_20
                obtain ⟨y_a, y_b, y_c, y_d⟩ := id y_20
                obtain ⟨z_a, z_b, z_c, z_d⟩ := id z_20
                obtain ⟨g_a, g_b, g_c, g_d⟩ := id g_20
                obtain ⟨q_a, q_b, q_c, q_d⟩ := id q_20
                go_wp2
                go_ret
                exact ⟨rfl, k20⟩
              | true =>
                obtain ⟨rfl, rfl⟩ := HL2.out rfl
                have he4 := eql_same A4 B4
                obtain ⟨s_a, s_b, s_c, s_d⟩ := id s_20
                obtain ⟨x_a, x_b, x_c, x_d⟩ := id x_20
                obtain ⟨y_a, y_b, y_c, y_d⟩ := id y_20
                obtain ⟨z_a, z_b, z_c, z_d⟩ := id z_20
                obtain ⟨g_a, g_b, g_c, g_d⟩ := id g_20
                obtain ⟨q_a, q_b, q_c, q_d⟩ := id q_20
                go_wp2
                go_ret
                exact ⟨rfl, k20⟩
            | true =>
              cases b2 with
              | false =>
                cases b4 with
                | false =>
                  obtain ⟨s_a, s_b, s_c, s_d⟩ := id s_20
                  obtain ⟨x_a, x_b, x_c, x_d⟩ := id x_20
                  obtain ⟨y_a, y_b, y_c, y_d⟩ := id y_20
                  obtain ⟨z_a, z_b, z_c, z_d⟩ := id z_20
                  obtain ⟨g_a, g_b, g_c, g_d⟩ := id g_20
                  obtain ⟨q_a, q_b, q_c, q_d⟩ := id q_20
                  go_wp2
                  go_ret
                  exact ⟨rfl, k20⟩
                | true =>
                  obtain ⟨rfl, rfl⟩ := HL2.out rfl
                  have he4 := eql_same A4 B4
                  obtain ⟨s_a, s_b, s_c, s_d⟩ := id s_20
                  obtain ⟨x_a, x_b, x_c, x_d⟩ := id x_20
                  obtain ⟨y_a, y_b, y_c, y_d⟩ := id y_20
                  obtain ⟨z_a, z_b, z_c, z_d⟩ := id z_20
                  obtain ⟨g_a, g_b, g_c, g_d⟩ := id g_20
                  obtain ⟨q_a, q_b, q_c, q_d⟩ := id q_20
                  go_wp2
                  go_ret
                  exact ⟨rfl, k20⟩
              | true =>
                obtain ⟨rfl, rfl⟩ := HL.out rfl rfl
                have he2 := eql_same A1 B1
                cases b4 with
                | false =>
                  obtain ⟨s_a, s_b, s_c, s_d⟩ := id s_20
                  obtain ⟨x_a, x_b, x_c, x_d⟩ := id x_20
                  obtain ⟨y_a, y_b, y_c, y_d⟩ := id y_20
                  obtain ⟨z_a, z_b, z_c, z_d⟩ := id z_20
                  obtain ⟨g_a, g_b, g_c, g_d⟩ := id g_20
                  obtain ⟨q_a, q_b, q_c, q_d⟩ := id q_20
                  go_wp2
                  go_ret
                  exact ⟨rfl, k20⟩
                | true =>
                  obtain ⟨rfl, rfl⟩ := HL2.out rfl
                  have he4 := eql_same A4 B4
                  obtain ⟨s_a, s_b, s_c, s_d⟩ := id s_20
                  obtain ⟨x_a, x_b, x_c, x_d⟩ := id x_20
                  obtain ⟨y_a, y_b, y_c, y_d⟩ := id y_20
                  obtain ⟨z_a, z_b, z_c, z_d⟩ := id z_20
                  obtain ⟨g_a, g_b, g_c, g_d⟩ := id g_20
                  obtain ⟨q_a, q_b, q_c, q_d⟩ := id q_20
                  go_wp2
                  go_ret
                  exact ⟨rfl, k20⟩
    · have hm' : (1048576 : Int) < (n2 : Int) := by omega
      go_enter Tryd.func6, Tryd.ntmps6
      go_wp2
      go_ret
      exact ⟨rfl, by go_grown⟩
  · have hn' : (1048576 : Int) < (n : Int) := by omega
    go_enter Tryd.func6, Tryd.ntmps6
    go_wp2
    go_ret
    exact ⟨rfl, by go_grown⟩

end Go.Proofs.YtknocndfjnjjfaaDoor
