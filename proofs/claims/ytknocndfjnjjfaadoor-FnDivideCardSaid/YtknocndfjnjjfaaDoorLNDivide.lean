/- The walk of the law FnDivide. -/
import Derived.Test.YtknocndfjnjjfaaDoorLwK
import Derived.BigQuiet
import Derived.Deep.RegionHeld3
import Derived.BigGuardPart
import Derived.Deep.DeepCutAuto
namespace Go.Proofs.YtknocndfjnjjfaaDoor
open Go.RowKit

set_option maxRecDepth 10000 in
set_option maxHeartbeats 4000000 in
theorem fnDivide_walk (sp : Option Addr) (n cap : Nat) (w : World) (h : Code w sp n cap) :
    Calls Tryd.prog 8 #[.slice sp n cap] w fun e w' => e = .returned (.bool true) ∧ Below w.heap.size w w' := by
  have HC := Lib.hid h
  clear h
  by_cases hn : n ≤ 1048576
  · have hn' : ¬ (1048576 : Int) < (n : Int) := by omega
    go_enter Tryd.func8, Tryd.ntmps8
    go_wp2_with fail
    refine (DrawDivideSet_t sp n cap w HC.out).mono ?_
    rintro e w1 ⟨h, l, n', rfl, ⟨s0, s1⟩, ⟨i0, i1⟩, k0⟩
    go_upto_region 4 with fail
    generalize hW : World.alloc w1 _ = w2
    obtain ⟨hx, hsx, hb⟩ := s2_new hW
    clear hW
    have k2 := below_on k0 hb
    clear k0
    have s_2 := hx
    clear hx hb
    obtain ⟨z0, z1⟩ : h.length ≤ 1000000000 ∧ l.length ≤ 1000000000 := ⟨by omega, by omega⟩
    have HI := Lib.hid fun w => DivideSet_any h l n' w z0 z1 i0 i1
    have HS := Lib.hid fun w => specDivideSet_any h l n' w z0 z1 i0 i1
    obtain ⟨RR, er⟩ : ∃ RR, dvR h l n' = RR := ⟨_, rfl⟩
    obtain ⟨⟨X, U⟩, b⟩ := RR
    rw [er] at HI HS
    have ER := Lib.hid er
    have hn1 := nel_same X U
    have he1 := eql_same X U
    clear er s0 s1
    obtain ⟨s_a, s_b, s_c, s_d⟩ := id s_2
    go_wp2_with fail
    refine (HI.out _).mono ?_
    rintro e w3 ⟨rfl, hb⟩
    clear s_a s_b s_c s_d
    have k3 := below_on k2 hb
    have s_3 := s2_on s_2 hb
    clear k2 s_2
    clear hb
    go_upto_region 5 with fail
    generalize hW : World.alloc w3 _ = w4
    obtain ⟨hx, hsx, hb⟩ := s2_new hW
    clear hW
    have k4 := below_on k3 hb
    have s_4 := s2_on s_3 hb
    clear k3 s_3
    have x_4 := hx
    clear hx hb
    obtain ⟨s_a, s_b, s_c, s_d⟩ := id s_4
    obtain ⟨x_a, x_b, x_c, x_d⟩ := id x_4
    go_wp2_with fail
    refine (HS.out _).mono ?_
    rintro e w5 ⟨rfl, hb⟩
    clear s_a s_b s_c s_d x_a x_b x_c x_d
    have k5 := below_on k4 hb
    have s_5 := s2_on s_4 hb
    have x_5 := s2_on x_4 hb
    clear k4 s_4 x_4
    clear hb
    go_upto_region 6 with fail
    generalize hW : World.alloc w5 _ = w6
    obtain ⟨hx, hsx, hb⟩ := s2_new hW
    clear hW
    have k6 := below_on k5 hb
    have s_6 := s2_on s_5 hb
    have x_6 := s2_on x_5 hb
    clear k5 s_5 x_5
    have want_6 := hx
    clear hx hb
    obtain ⟨s_a, s_b, s_c, s_d⟩ := id s_6
    obtain ⟨x_a, x_b, x_c, x_d⟩ := id x_6
    obtain ⟨want_a, want_b, want_c, want_d⟩ := id want_6
    cases b with
    | false =>
      go_wp2
      go_ret
      exact ⟨rfl, k6⟩
    | true =>
      obtain ⟨K, rfl, hK1, hK2, v1, v2, nX, hlaw⟩ := dv_law ER.out
      have z4 : X.length ≤ 1000000000 := by have := (svS_parts v2).2.2.1; omega
      have z5 : U.length ≤ 1000000000 := by have := (svS_parts v2).2.2.2.2.1; omega
      have U1 := Lib.hid fun w => StretchSet_any X U (K : Int) w z4 z5 i0 i1
      obtain ⟨RR, e1⟩ : ∃ RR, stR X U K = RR := ⟨_, rfl⟩
      obtain ⟨⟨P, Q⟩, b1⟩ := RR
      rw [e1] at U1
      have U2 := Lib.hid fun w => ProgressionSet_any 0 (K : Int) w (by omega) (by omega) i0 i1
      have hps := pr_small9 0 (K : Int)
      obtain ⟨RR, e2⟩ : ∃ RR, prR 0 K = RR := ⟨_, rfl⟩
      obtain ⟨⟨R, S⟩, b2⟩ := RR
      rw [e2] at U2 hps
      have U3 := Lib.hid fun w => MeetSets_any h l R S w z0 z1 (by have := hps.1; dsimp only at this; omega) (by have := hps.2; dsimp only at this; omega)
      obtain ⟨RR, e3⟩ : ∃ RR, combR (fun x y => x && y) h l R S = RR := ⟨_, rfl⟩
      obtain ⟨⟨T, V⟩, b3⟩ := RR
      rw [e3] at U3
      have HL : Hid (b1 = true → b2 = true → b3 = true → P = T ∧ Q = V) := Lib.hid fun g1 g2 g3 => by rw [g1] at e1; rw [g2] at e2; rw [g3] at e3; exact Prod.mk.inj (hlaw P Q R S T V e1 e2 e3)
      have NX := Lib.hid nX
      clear nX hlaw e1 e2 e3 hps v1 v2 ER HI HS
      go_upto_region 8 with fail
      clear s_a s_b s_c s_d x_a x_b x_c x_d want_a want_b want_c want_d
      clear want_6
      go_wp2_with fail
      go_loopw [9] (fun i wr => ∃ k : Nat, i = .int .i64 k ∧ k ≤ 61 ∧ S2 wr (w1.heap.size) (bs h) (bs l) ∧ S2 wr (w3.heap.size) (bs X) (bs U) ∧ Below w.heap.size w wr) (fun i _ => 61 - (intOf i).toNat)
      case atStart => exact ⟨0, rfl, Nat.zero_le _, s_6, x_6, k6⟩
      case round =>
        clear s_6 x_6 k6
        obtain ⟨k, rfl, hk, s_7, x_7, k7⟩ := hrel
        by_cases hlt : k ≤ 60
        · have hk' : (k : Int) ≤ 60 := by omega
          have hwk : IntKind.i64.wrap ((k : Int) + 1) = ((k + 1 : Nat) : Int) := by rw [IntKind.wrap_i64]; omega
          obtain ⟨q, hq⟩ : ∃ q, K * k = q := ⟨_, rfl⟩
          have hqb : q ≤ 240 * 60 := by rw [← hq]; exact Nat.mul_le_mul hK2 hlt
          have hwq : IntKind.i64.wrap ((K : Int) * (k : Int)) = (q : Int) := by rw [← Int.natCast_mul, hq, IntKind.wrap_i64]; omega
          have hX := NX.out k
          rw [hq] at hX
          clear hq
          obtain ⟨p, hp⟩ : ∃ p, hnB h l q = p := ⟨_, rfl⟩
          rw [hp] at hX
          cases p
          · skip
            have P1 := Lib.hid fun w => pbIn_is X U k false w z4 z5 (by omega) (by omega) (hX)
            have P2 := Lib.hid fun w => pbIn_is h l q false w z0 z1 (by omega) (by omega) (hp)
            clear hX hp
            go_upto_region 11 with fail
            refine wp_region_held_drew (S := (fun w' => Below wr.heap.size wr w' ∧ (w'.cell? ⟨w1.heap.size, 0, none⟩ = some (.string (bs h)) ∧ w'.cell? ⟨w1.heap.size, 1, none⟩ = some (.string (bs l))) ∧ (w'.cell? ⟨w3.heap.size, 0, none⟩ = some (.string (bs X)) ∧ w'.cell? ⟨w3.heap.size, 1, none⟩ = some (.string (bs U))))) (by kernel_rfl) ?_ (fun hHeld => ?_)
            · try dsimp only
              refine kp2 s_7 x_7 ?_; go_grown
            refine wpAnyH_take (i := 0) (oi := { dst := some 60, op := Go.Op.load 24 (Go.Operand.tmp 5), type := 24, pos := "laws.go:1830", after := #[], guard := none }) (v := ?_) rfl (by kernel_rfl) (by kernel_rfl) (by kernel_rfl) (fun _ _ _ h => h) (Or.inl ⟨by rfl, ?_⟩) (by assumption) ?_
            rotate_left
            · (intro w hSw; (try dsimp only at hSw); first | (go_simp; done) | (go_simp; with_reducible rfl))
            try simp only [Act.put, List.setIfInBounds_toArray, List.set_cons_zero, List.set_cons_succ]
            refine wpAnyH_take (i := 1) (oi := { dst := some 61, op := Go.Op.move (Go.Operand.tmp 9), type := 3, pos := "laws.go:1830", after := #[], guard := none }) (v := ?_) rfl (by kernel_rfl) (by kernel_rfl) (by kernel_rfl) (fun _ _ _ h => h) (Or.inl ⟨by rfl, ?_⟩) (by assumption) ?_
            rotate_left
            · (intro w hSw; (try dsimp only at hSw); first | (go_simp; done) | (go_simp; with_reducible rfl))
            try simp only [Act.put, List.setIfInBounds_toArray, List.set_cons_zero, List.set_cons_succ]
            refine wpAnyH_take (i := 3) (oi := { dst := some 63, op := Go.Op.load 24 (Go.Operand.tmp 3), type := 24, pos := "laws.go:1830", after := #[], guard := none }) (v := ?_) rfl (by kernel_rfl) (by kernel_rfl) (by kernel_rfl) (fun _ _ _ h => h) (Or.inl ⟨by rfl, ?_⟩) (by assumption) ?_
            rotate_left
            · (intro w hSw; (try dsimp only at hSw); first | (go_simp; done) | (go_simp; with_reducible rfl))
            try simp only [Act.put, List.setIfInBounds_toArray, List.set_cons_zero, List.set_cons_succ]
            refine wpAnyH_take (i := 4) (oi := { dst := some 64, op := Go.Op.move (Go.Operand.tmp 4), type := 3, pos := "laws.go:1830", after := #[], guard := none }) (v := ?_) rfl (by kernel_rfl) (by kernel_rfl) (by kernel_rfl) (fun _ _ _ h => h) (Or.inl ⟨by rfl, ?_⟩) (by assumption) ?_
            rotate_left
            · (intro w hSw; (try dsimp only at hSw); first | (go_simp; done) | (go_simp; with_reducible rfl))
            try simp only [Act.put, List.setIfInBounds_toArray, List.set_cons_zero, List.set_cons_succ]
            refine wpAnyH_take (i := 5) (oi := { dst := some 65, op := Go.Op.move (Go.Operand.tmp 9), type := 3, pos := "laws.go:1830", after := #[], guard := none }) (v := ?_) rfl (by kernel_rfl) (by kernel_rfl) (by kernel_rfl) (fun _ _ _ h => h) (Or.inl ⟨by rfl, ?_⟩) (by assumption) ?_
            rotate_left
            · (intro w hSw; (try dsimp only at hSw); first | (go_simp; done) | (go_simp; with_reducible rfl))
            try simp only [Act.put, List.setIfInBounds_toArray, List.set_cons_zero, List.set_cons_succ]
            refine wpAnyH_take (i := 6) (oi := { dst := some 66, op := Go.Op.binOp Go.BinOp.mul 3 (Go.Operand.tmp 64) (Go.Operand.tmp 65) 3, type := 3, pos := "laws.go:1830", after := #[{ on := 4, ground := Go.Ground.data }, { on := 5, ground := Go.Ground.data }], guard := none }) (v := ?_) rfl (by kernel_rfl) (by kernel_rfl) (by kernel_rfl) (fun _ _ _ h => h) (Or.inl ⟨by rfl, ?_⟩) (by assumption) ?_
            rotate_left
            · (intro w hSw; (try dsimp only at hSw); first | (go_simp; done) | (go_simp; with_reducible rfl))
            try simp only [Act.put, List.setIfInBounds_toArray, List.set_cons_zero, List.set_cons_succ]
            refine wpAnyH_ready (rs := [2]) (by kernel_rfl) (by simp) ?_
            refine AllReadyH.cons (o := { dst := some 62, op := Go.Op.call { callee := Go.Callee.value (Go.Operand.func 16), args := #[Go.Operand.tmp 60, Go.Operand.tmp 61], argTypes := #[24, 3] }, type := 4, pos := "laws.go:1830", after := #[{ on := 0, ground := Go.Ground.data }, { on := 1, ground := Go.Ground.data }], guard := none }) rfl (fun K hK => ?_) AllReadyH.nil
            go_simp
            (go_at_call 16; (first | (with_reducible refine (P1.out _).mono ?_) | (with_reducible refine (P2.out _).mono ?_)); rintro e w8 ⟨rfl, hb4⟩; have hbb4 := below_on (w := wr) (by go_grown) hb4)
            (try go_wp2_with fail)
            refine hK.out _ _ ?_ (fun hHeld => ?_)
            · try dsimp only
              refine kp2 s_7 x_7 ?_; go_grown
            clear hK K
            try simp only [Act.put, List.setIfInBounds_toArray, List.set_cons_zero, List.set_cons_succ]
            refine wpAnyH_ready (rs := [7]) (by kernel_rfl) (by simp) ?_
            refine AllReadyH.cons (o := { dst := some 67, op := Go.Op.call { callee := Go.Callee.value (Go.Operand.func 16), args := #[Go.Operand.tmp 63, Go.Operand.tmp 66], argTypes := #[24, 3] }, type := 4, pos := "laws.go:1830", after := #[{ on := 3, ground := Go.Ground.data }, { on := 6, ground := Go.Ground.data }, { on := 2, ground := Go.Ground.chain }], guard := none }) rfl (fun K hK => ?_) AllReadyH.nil
            go_simp
            (go_at_call 16; (first | (with_reducible refine (P1.out _).mono ?_) | (with_reducible refine (P2.out _).mono ?_)); rintro e w8 ⟨rfl, hb4⟩; have hbb4 := below_on (w := wr) (by go_grown) hb4)
            (try go_wp2_with fail)
            refine hK.out _ _ ?_ (fun hHeld => ?_)
            · try dsimp only
              refine kp2 s_7 x_7 ?_; go_grown
            clear hK K
            try simp only [Act.put, List.setIfInBounds_toArray, List.set_cons_zero, List.set_cons_succ]
            refine wpAnyH_take (i := 8) (oi := { dst := some 68, op := Go.Op.binOp Go.BinOp.neq 4 (Go.Operand.tmp 62) (Go.Operand.tmp 67) 4, type := 4, pos := "laws.go:1830", after := #[{ on := 2, ground := Go.Ground.data }, { on := 7, ground := Go.Ground.data }], guard := none }) (v := ?_) rfl (by kernel_rfl) (by kernel_rfl) (by kernel_rfl) (fun _ _ _ h => h) (Or.inl ⟨by rfl, ?_⟩) (by assumption) ?_
            rotate_left
            · (intro w hSw; (try dsimp only at hSw); first | (go_simp; done) | (go_simp; with_reducible rfl))
            try simp only [Act.put, List.setIfInBounds_toArray, List.set_cons_zero, List.set_cons_succ]
            refine wpAnyH_done (by kernel_rfl) ?_ _
            have hk := hHeld.1
            clear hHeld
            have k9 := below_on k7 hk
            have s_9 := s2_on s_7 hk
            have x_9 := s2_on x_7 hk
            clear k7 s_7 x_7
            clear hk
            go_wp2
            go_roundw
            case rel => exact ⟨k + 1, rfl, by omega, s_9, x_9, k9⟩
            case measure => simp [intOf]; omega
          · skip
            have P1 := Lib.hid fun w => pbIn_is X U k true w z4 z5 (by omega) (by omega) (hX)
            have P2 := Lib.hid fun w => pbIn_is h l q true w z0 z1 (by omega) (by omega) (hp)
            clear hX hp
            go_upto_region 11 with fail
            refine wp_region_held_drew (S := (fun w' => Below wr.heap.size wr w' ∧ (w'.cell? ⟨w1.heap.size, 0, none⟩ = some (.string (bs h)) ∧ w'.cell? ⟨w1.heap.size, 1, none⟩ = some (.string (bs l))) ∧ (w'.cell? ⟨w3.heap.size, 0, none⟩ = some (.string (bs X)) ∧ w'.cell? ⟨w3.heap.size, 1, none⟩ = some (.string (bs U))))) (by kernel_rfl) ?_ (fun hHeld => ?_)
            · try dsimp only
              refine kp2 s_7 x_7 ?_; go_grown
            refine wpAnyH_take (i := 0) (oi := { dst := some 60, op := Go.Op.load 24 (Go.Operand.tmp 5), type := 24, pos := "laws.go:1830", after := #[], guard := none }) (v := ?_) rfl (by kernel_rfl) (by kernel_rfl) (by kernel_rfl) (fun _ _ _ h => h) (Or.inl ⟨by rfl, ?_⟩) (by assumption) ?_
            rotate_left
            · (intro w hSw; (try dsimp only at hSw); first | (go_simp; done) | (go_simp; with_reducible rfl))
            try simp only [Act.put, List.setIfInBounds_toArray, List.set_cons_zero, List.set_cons_succ]
            refine wpAnyH_take (i := 1) (oi := { dst := some 61, op := Go.Op.move (Go.Operand.tmp 9), type := 3, pos := "laws.go:1830", after := #[], guard := none }) (v := ?_) rfl (by kernel_rfl) (by kernel_rfl) (by kernel_rfl) (fun _ _ _ h => h) (Or.inl ⟨by rfl, ?_⟩) (by assumption) ?_
            rotate_left
            · (intro w hSw; (try dsimp only at hSw); first | (go_simp; done) | (go_simp; with_reducible rfl))
            try simp only [Act.put, List.setIfInBounds_toArray, List.set_cons_zero, List.set_cons_succ]
            refine wpAnyH_take (i := 3) (oi := { dst := some 63, op := Go.Op.load 24 (Go.Operand.tmp 3), type := 24, pos := "laws.go:1830", after := #[], guard := none }) (v := ?_) rfl (by kernel_rfl) (by kernel_rfl) (by kernel_rfl) (fun _ _ _ h => h) (Or.inl ⟨by rfl, ?_⟩) (by assumption) ?_
            rotate_left
            · (intro w hSw; (try dsimp only at hSw); first | (go_simp; done) | (go_simp; with_reducible rfl))
            try simp only [Act.put, List.setIfInBounds_toArray, List.set_cons_zero, List.set_cons_succ]
            refine wpAnyH_take (i := 4) (oi := { dst := some 64, op := Go.Op.move (Go.Operand.tmp 4), type := 3, pos := "laws.go:1830", after := #[], guard := none }) (v := ?_) rfl (by kernel_rfl) (by kernel_rfl) (by kernel_rfl) (fun _ _ _ h => h) (Or.inl ⟨by rfl, ?_⟩) (by assumption) ?_
            rotate_left
            · (intro w hSw; (try dsimp only at hSw); first | (go_simp; done) | (go_simp; with_reducible rfl))
            try simp only [Act.put, List.setIfInBounds_toArray, List.set_cons_zero, List.set_cons_succ]
            refine wpAnyH_take (i := 5) (oi := { dst := some 65, op := Go.Op.move (Go.Operand.tmp 9), type := 3, pos := "laws.go:1830", after := #[], guard := none }) (v := ?_) rfl (by kernel_rfl) (by kernel_rfl) (by kernel_rfl) (fun _ _ _ h => h) (Or.inl ⟨by rfl, ?_⟩) (by assumption) ?_
            rotate_left
            · (intro w hSw; (try dsimp only at hSw); first | (go_simp; done) | (go_simp; with_reducible rfl))
            try simp only [Act.put, List.setIfInBounds_toArray, List.set_cons_zero, List.set_cons_succ]
            refine wpAnyH_take (i := 6) (oi := { dst := some 66, op := Go.Op.binOp Go.BinOp.mul 3 (Go.Operand.tmp 64) (Go.Operand.tmp 65) 3, type := 3, pos := "laws.go:1830", after := #[{ on := 4, ground := Go.Ground.data }, { on := 5, ground := Go.Ground.data }], guard := none }) (v := ?_) rfl (by kernel_rfl) (by kernel_rfl) (by kernel_rfl) (fun _ _ _ h => h) (Or.inl ⟨by rfl, ?_⟩) (by assumption) ?_
            rotate_left
            · (intro w hSw; (try dsimp only at hSw); first | (go_simp; done) | (go_simp; with_reducible rfl))
            try simp only [Act.put, List.setIfInBounds_toArray, List.set_cons_zero, List.set_cons_succ]
            refine wpAnyH_ready (rs := [2]) (by kernel_rfl) (by simp) ?_
            refine AllReadyH.cons (o := { dst := some 62, op := Go.Op.call { callee := Go.Callee.value (Go.Operand.func 16), args := #[Go.Operand.tmp 60, Go.Operand.tmp 61], argTypes := #[24, 3] }, type := 4, pos := "laws.go:1830", after := #[{ on := 0, ground := Go.Ground.data }, { on := 1, ground := Go.Ground.data }], guard := none }) rfl (fun K hK => ?_) AllReadyH.nil
            go_simp
            (go_at_call 16; (first | (with_reducible refine (P1.out _).mono ?_) | (with_reducible refine (P2.out _).mono ?_)); rintro e w8 ⟨rfl, hb4⟩; have hbb4 := below_on (w := wr) (by go_grown) hb4)
            (try go_wp2_with fail)
            refine hK.out _ _ ?_ (fun hHeld => ?_)
            · try dsimp only
              refine kp2 s_7 x_7 ?_; go_grown
            clear hK K
            try simp only [Act.put, List.setIfInBounds_toArray, List.set_cons_zero, List.set_cons_succ]
            refine wpAnyH_ready (rs := [7]) (by kernel_rfl) (by simp) ?_
            refine AllReadyH.cons (o := { dst := some 67, op := Go.Op.call { callee := Go.Callee.value (Go.Operand.func 16), args := #[Go.Operand.tmp 63, Go.Operand.tmp 66], argTypes := #[24, 3] }, type := 4, pos := "laws.go:1830", after := #[{ on := 3, ground := Go.Ground.data }, { on := 6, ground := Go.Ground.data }, { on := 2, ground := Go.Ground.chain }], guard := none }) rfl (fun K hK => ?_) AllReadyH.nil
            go_simp
            (go_at_call 16; (first | (with_reducible refine (P1.out _).mono ?_) | (with_reducible refine (P2.out _).mono ?_)); rintro e w8 ⟨rfl, hb4⟩; have hbb4 := below_on (w := wr) (by go_grown) hb4)
            (try go_wp2_with fail)
            refine hK.out _ _ ?_ (fun hHeld => ?_)
            · try dsimp only
              refine kp2 s_7 x_7 ?_; go_grown
            clear hK K
            try simp only [Act.put, List.setIfInBounds_toArray, List.set_cons_zero, List.set_cons_succ]
            refine wpAnyH_take (i := 8) (oi := { dst := some 68, op := Go.Op.binOp Go.BinOp.neq 4 (Go.Operand.tmp 62) (Go.Operand.tmp 67) 4, type := 4, pos := "laws.go:1830", after := #[{ on := 2, ground := Go.Ground.data }, { on := 7, ground := Go.Ground.data }], guard := none }) (v := ?_) rfl (by kernel_rfl) (by kernel_rfl) (by kernel_rfl) (fun _ _ _ h => h) (Or.inl ⟨by rfl, ?_⟩) (by assumption) ?_
            rotate_left
            · (intro w hSw; (try dsimp only at hSw); first | (go_simp; done) | (go_simp; with_reducible rfl))
            try simp only [Act.put, List.setIfInBounds_toArray, List.set_cons_zero, List.set_cons_succ]
            refine wpAnyH_done (by kernel_rfl) ?_ _
            have hk := hHeld.1
            clear hHeld
            have k9 := below_on k7 hk
            have s_9 := s2_on s_7 hk
            have x_9 := s2_on x_7 hk
            clear k7 s_7 x_7
            clear hk
            go_wp2
            go_roundw
            case rel => exact ⟨k + 1, rfl, by omega, s_9, x_9, k9⟩
            case measure => simp [intOf]; omega
        · have hk' : ¬ (k : Int) ≤ 60 := by omega
          clear hlt hk
          obtain ⟨s_a, s_b, s_c, s_d⟩ := id s_7
          obtain ⟨x_a, x_b, x_c, x_d⟩ := id x_7
          go_wp2_with fail
          refine (U1.out _).mono ?_
          rintro e w13 ⟨rfl, hb⟩
          clear s_a s_b s_c s_d x_a x_b x_c x_d
          have k13 := below_on k7 hb
          have s_13 := s2_on s_7 hb
          have x_13 := s2_on x_7 hb
          clear k7 s_7 x_7
          clear hb
          go_upto_region 14 with fail
          generalize hW : World.alloc w13 _ = w14
          obtain ⟨hx, hsx, hb⟩ := s2_new hW
          clear hW
          have k14 := below_on k13 hb
          have s_14 := s2_on s_13 hb
          have x_14 := s2_on x_13 hb
          clear k13 s_13 x_13
          have y_14 := hx
          clear hx hb
          obtain ⟨s_a, s_b, s_c, s_d⟩ := id s_14
          obtain ⟨x_a, x_b, x_c, x_d⟩ := id x_14
          obtain ⟨y_a, y_b, y_c, y_d⟩ := id y_14
          go_wp2_with fail
          refine (U2.out _).mono ?_
          rintro e w15 ⟨rfl, hb⟩
          clear s_a s_b s_c s_d x_a x_b x_c x_d y_a y_b y_c y_d
          have k15 := below_on k14 hb
          have s_15 := s2_on s_14 hb
          have x_15 := s2_on x_14 hb
          have y_15 := s2_on y_14 hb
          clear k14 s_14 x_14 y_14
          clear hb
          go_upto_region 15 with fail
          generalize hW : World.alloc w15 _ = w16
          obtain ⟨hx, hsx, hb⟩ := s2_new hW
          clear hW
          have k16 := below_on k15 hb
          have s_16 := s2_on s_15 hb
          have x_16 := s2_on x_15 hb
          have y_16 := s2_on y_15 hb
          clear k15 s_15 x_15 y_15
          have m_16 := hx
          clear hx hb
          obtain ⟨s_a, s_b, s_c, s_d⟩ := id s_16
          obtain ⟨x_a, x_b, x_c, x_d⟩ := id x_16
          obtain ⟨y_a, y_b, y_c, y_d⟩ := id y_16
          obtain ⟨m_a, m_b, m_c, m_d⟩ := id m_16
          go_wp2_with fail
          refine (U3.out _).mono ?_
          rintro e w17 ⟨rfl, hb⟩
          clear s_a s_b s_c s_d x_a x_b x_c x_d y_a y_b y_c y_d m_a m_b m_c m_d
          have k17 := below_on k16 hb
          have s_17 := s2_on s_16 hb
          have x_17 := s2_on x_16 hb
          have y_17 := s2_on y_16 hb
          have m_17 := s2_on m_16 hb
          clear k16 s_16 x_16 y_16 m_16
          clear hb
          go_upto_region 16 with fail
          generalize hW : World.alloc w17 _ = w18
          obtain ⟨hx, hsx, hb⟩ := s2_new hW
          clear hW
          have k18 := below_on k17 hb
          have s_18 := s2_on s_17 hb
          have x_18 := s2_on x_17 hb
          have y_18 := s2_on y_17 hb
          have m_18 := s2_on m_17 hb
          clear k17 s_17 x_17 y_17 m_17
          have z_18 := hx
          clear hx hb
          obtain ⟨s_a, s_b, s_c, s_d⟩ := id s_18
          obtain ⟨x_a, x_b, x_c, x_d⟩ := id x_18
          obtain ⟨y_a, y_b, y_c, y_d⟩ := id y_18
          obtain ⟨m_a, m_b, m_c, m_d⟩ := id m_18
          obtain ⟨z_a, z_b, z_c, z_d⟩ := id z_18
          cases b1 with
          | false =>
            go_wp2
            go_ret
            exact ⟨rfl, k18⟩
          | true =>
            cases b2 with
            | false =>
              go_wp2
              go_ret
              exact ⟨rfl, k18⟩
            | true =>
              cases b3 with
              | false =>
                go_wp2
                go_ret
                exact ⟨rfl, k18⟩
              | true =>
                clear s_a s_b s_c s_d x_a x_b x_c x_d y_a y_b y_c y_d m_a m_b m_c m_d z_a z_b z_c z_d
                obtain ⟨rfl, rfl⟩ := HL.out rfl rfl rfl
                have he2 := eql_same P Q
                obtain ⟨s_a, s_b, s_c, s_d⟩ := id s_18
                obtain ⟨x_a, x_b, x_c, x_d⟩ := id x_18
                obtain ⟨y_a, y_b, y_c, y_d⟩ := id y_18
                obtain ⟨m_a, m_b, m_c, m_d⟩ := id m_18
                obtain ⟨z_a, z_b, z_c, z_d⟩ := id z_18
                go_wp2
                go_ret
                exact ⟨rfl, k18⟩
  · have hn' : (1048576 : Int) < (n : Int) := by omega
    go_enter Tryd.func8, Tryd.ntmps8
    go_wp2
    go_ret
    exact ⟨rfl, by go_grown⟩

end Go.Proofs.YtknocndfjnjjfaaDoor
