/- The walk of the law FnUnionMeet. -/
import Derived.Test.YtknocndfjnjjfaaDoorLwK
import Derived.Test.YtknocndfjnjjfaaDoorSfP
import Derived.BigQuiet
import Derived.Deep.RegionHeld3
import Derived.BigGuardPart
import Derived.Deep.DeepCutAuto
namespace Go.Proofs.YtknocndfjnjjfaaDoor
open Go.RowKit

set_option maxRecDepth 10000 in
set_option maxHeartbeats 4000000 in
theorem fnUnionMeet_walk (sp : Option Addr) (n cap : Nat) (w : World) (h : Code w sp n cap) :
    Calls Tryd.prog 3 #[.slice sp n cap] w fun e w' => e = .returned (.bool true) ∧ Below w.heap.size w w' := by
  have HC := Lib.hid h
  clear h
  by_cases hn : n ≤ 1048576
  · have hn' : ¬ (1048576 : Int) < (n : Int) := by omega
    go_enter Tryd.func3, Tryd.ntmps3
    go_wp2_with fail
    refine (DrawUnionSets_t sp n cap w HC.out).mono ?_
    rintro e w1 ⟨h, l, h', l', rfl, ⟨s0, s1⟩, ⟨s2, s3⟩, k0⟩
    go_upto_region 4 with fail
    generalize hW : World.alloc w1 _ = w2
    obtain ⟨hx, hsx, hb⟩ := s2_new hW
    clear hW
    have k2 := below_on k0 hb
    clear k0
    have s_2 := hx
    clear hx hb
    have hsx1 := hsx
    clear hsx
    generalize hW : World.alloc w2 _ = w3
    obtain ⟨hx, hsx, hb⟩ := s2_new hW
    clear hW
    have k3 := below_on k2 hb
    have s_3 := s2_on s_2 hb
    clear k2 s_2
    have t_3 := hx
    clear hx hb
    rw [hsx1] at t_3
    clear hsx hsx1
    have hsz : h.length ≤ 1000000000 ∧ l.length ≤ 1000000000 ∧ h'.length ≤ 1000000000 ∧ l'.length ≤ 1000000000 := ⟨by omega, by omega, by omega, by omega⟩
    obtain ⟨z0, z1, z2, z3⟩ := hsz
    have HU := Lib.hid fun w => UnionSets_any h l h' l' w z0 z1 z2 z3
    have HV := Lib.hid fun w => specUnionSets_any h l h' l' w z0 z1 z2 z3
    have HM := Lib.hid fun w => MeetSets_any h l h' l' w z0 z1 z2 z3
    have HN := Lib.hid fun w => specMeetSets_any h l h' l' w z0 z1 z2 z3
    obtain ⟨R, er1⟩ : ∃ R, combR (fun x y => x || y) h l h' l' = R := ⟨_, rfl⟩
    obtain ⟨⟨X, U⟩, b⟩ := R
    rw [er1] at HU HV
    obtain ⟨R, er2⟩ : ∃ R, combR (fun x y => x && y) h l h' l' = R := ⟨_, rfl⟩
    obtain ⟨⟨Y, V⟩, c⟩ := R
    rw [er2] at HM HN
    have ER1 := Lib.hid er1
    have ER2 := Lib.hid er2
    have hn1 := nel_same X U
    have hn2 := nel_same Y V
    have he1 := eql_same X U
    have he2 := eql_same Y V
    clear er1 er2
    obtain ⟨s_a, s_b, s_c, s_d⟩ := id s_3
    obtain ⟨t_a, t_b, t_c, t_d⟩ := id t_3
    go_wp2_with fail
    refine (HU.out _).mono ?_
    rintro e w4 ⟨rfl, hb⟩
    clear s_a s_b s_c s_d t_a t_b t_c t_d
    have k4 := below_on k3 hb
    have s_4 := s2_on s_3 hb
    have t_4 := s2_on t_3 hb
    clear k3 s_3 t_3
    clear hb
    go_upto_region 5 with fail
    generalize hW : World.alloc w4 _ = w5
    obtain ⟨hx, hsx, hb⟩ := s2_new hW
    clear hW
    have k5 := below_on k4 hb
    have s_5 := s2_on s_4 hb
    have t_5 := s2_on t_4 hb
    clear k4 s_4 t_4
    have x_5 := hx
    clear hx hb
    obtain ⟨s_a, s_b, s_c, s_d⟩ := id s_5
    obtain ⟨t_a, t_b, t_c, t_d⟩ := id t_5
    obtain ⟨x_a, x_b, x_c, x_d⟩ := id x_5
    go_wp2_with fail
    refine (HV.out _).mono ?_
    rintro e w6 ⟨rfl, hb⟩
    clear s_a s_b s_c s_d t_a t_b t_c t_d x_a x_b x_c x_d
    have k6 := below_on k5 hb
    have s_6 := s2_on s_5 hb
    have t_6 := s2_on t_5 hb
    have x_6 := s2_on x_5 hb
    clear k5 s_5 t_5 x_5
    clear hb
    go_upto_region 6 with fail
    generalize hW : World.alloc w6 _ = w7
    obtain ⟨hx, hsx, hb⟩ := s2_new hW
    clear hW
    have k7 := below_on k6 hb
    have s_7 := s2_on s_6 hb
    have t_7 := s2_on t_6 hb
    have x_7 := s2_on x_6 hb
    clear k6 s_6 t_6 x_6
    have want_7 := hx
    clear hx hb
    obtain ⟨s_a, s_b, s_c, s_d⟩ := id s_7
    obtain ⟨t_a, t_b, t_c, t_d⟩ := id t_7
    obtain ⟨x_a, x_b, x_c, x_d⟩ := id x_7
    obtain ⟨want_a, want_b, want_c, want_d⟩ := id want_7
    go_wp2_with fail
    refine (HM.out _).mono ?_
    rintro e w8 ⟨rfl, hb⟩
    clear s_a s_b s_c s_d t_a t_b t_c t_d x_a x_b x_c x_d want_a want_b want_c want_d
    have k8 := below_on k7 hb
    have s_8 := s2_on s_7 hb
    have t_8 := s2_on t_7 hb
    have x_8 := s2_on x_7 hb
    have want_8 := s2_on want_7 hb
    clear k7 s_7 t_7 x_7 want_7
    clear hb
    go_upto_region 7 with fail
    generalize hW : World.alloc w8 _ = w9
    obtain ⟨hx, hsx, hb⟩ := s2_new hW
    clear hW
    have k9 := below_on k8 hb
    have s_9 := s2_on s_8 hb
    have t_9 := s2_on t_8 hb
    have x_9 := s2_on x_8 hb
    have want_9 := s2_on want_8 hb
    clear k8 s_8 t_8 x_8 want_8
    have y_9 := hx
    clear hx hb
    obtain ⟨s_a, s_b, s_c, s_d⟩ := id s_9
    obtain ⟨t_a, t_b, t_c, t_d⟩ := id t_9
    obtain ⟨x_a, x_b, x_c, x_d⟩ := id x_9
    obtain ⟨want_a, want_b, want_c, want_d⟩ := id want_9
    obtain ⟨y_a, y_b, y_c, y_d⟩ := id y_9
    go_wp2_with fail
    refine (HN.out _).mono ?_
    rintro e w10 ⟨rfl, hb⟩
    clear s_a s_b s_c s_d t_a t_b t_c t_d x_a x_b x_c x_d want_a want_b want_c want_d y_a y_b y_c y_d
    have k10 := below_on k9 hb
    have s_10 := s2_on s_9 hb
    have t_10 := s2_on t_9 hb
    have x_10 := s2_on x_9 hb
    have want_10 := s2_on want_9 hb
    have y_10 := s2_on y_9 hb
    clear k9 s_9 t_9 x_9 want_9 y_9
    clear hb
    go_upto_region 8 with fail
    generalize hW : World.alloc w10 _ = w11
    obtain ⟨hx, hsx, hb⟩ := s2_new hW
    clear hW
    have k11 := below_on k10 hb
    have s_11 := s2_on s_10 hb
    have t_11 := s2_on t_10 hb
    have x_11 := s2_on x_10 hb
    have want_11 := s2_on want_10 hb
    have y_11 := s2_on y_10 hb
    clear k10 s_10 t_10 x_10 want_10 y_10
    have wanty_11 := hx
    clear hx hb
    obtain ⟨s_a, s_b, s_c, s_d⟩ := id s_11
    obtain ⟨t_a, t_b, t_c, t_d⟩ := id t_11
    obtain ⟨x_a, x_b, x_c, x_d⟩ := id x_11
    obtain ⟨want_a, want_b, want_c, want_d⟩ := id want_11
    obtain ⟨y_a, y_b, y_c, y_d⟩ := id y_11
    obtain ⟨wanty_a, wanty_b, wanty_c, wanty_d⟩ := id wanty_11
    cases b with
    | false =>
      go_wp2
      go_ret
      exact ⟨rfl, k11⟩
    | true =>
      cases c with
      | false =>
        go_wp2
        go_ret
        exact ⟨rfl, k11⟩
      | true =>
        obtain ⟨v1, v2, v3, v4, nX, nY, c1, c2, c3, a, bb, cc, d, d1, d2, d3, d4, dd, l1, l2, l3, l4⟩ := um_law ER1.out ER2.out
        have U1 := Lib.hid fun w => UnionSets_any h' l' h l w z2 z3 z0 z1
        rw [c1] at U1
        have U2 := Lib.hid fun w => MeetSets_any h' l' h l w z2 z3 z0 z1
        rw [c2] at U2
        have U3 := Lib.hid fun w => UnionSets_any X U h l w (by have := (svS_parts v3).2.2.1; omega) (by have := (svS_parts v3).2.2.2.2.1; omega) z0 z1
        rw [c3] at U3
        have x9 : X.length ≤ 1000000000 ∧ U.length ≤ 1000000000 ∧ Y.length ≤ 1000000000 ∧ V.length ≤ 1000000000 := ⟨by have := (svS_parts v3).2.2.1; omega, by have := (svS_parts v3).2.2.2.2.1; omega, by have := (svS_parts v4).2.2.1; omega, by have := (svS_parts v4).2.2.2.2.1; omega⟩
        obtain ⟨z4, z5, z6, z7⟩ := x9
        have C1 := Lib.hid fun w => CountBelow_any X U 50 w z4 z5 (by omega) (by omega)
        rw [d1] at C1
        have C2 := Lib.hid fun w => CountBelow_any Y V 50 w z6 z7 (by omega) (by omega)
        rw [d2] at C2
        have C3 := Lib.hid fun w => CountBelow_any h l 50 w z0 z1 (by omega) (by omega)
        rw [d3] at C3
        have C4 := Lib.hid fun w => CountBelow_any h' l' 50 w z2 z3 (by omega) (by omega)
        rw [d4] at C4
        have NX := Lib.hid nX
        have NY := Lib.hid nY
        obtain ⟨T, hT⟩ : ∃ T, a + bb = T := ⟨_, rfl⟩
        have hw1 : IntKind.i64.wrap ((a : Int) + (bb : Int)) = (T : Int) := by rw [IntKind.wrap_i64]; omega
        have hw2 : IntKind.i64.wrap ((cc : Int) + (d : Int)) = (T : Int) := by rw [IntKind.wrap_i64]; omega
        clear nX nY c1 c2 c3 d1 d2 d3 d4 dd hT v1 v2 v3 v4 ER1 ER2 HU HV HM HN l1 l2 l3 l4 s0 s1 s2 s3
        go_upto_region 10 with fail
        clear s_a s_b s_c s_d t_a t_b t_c t_d x_a x_b x_c x_d want_a want_b want_c want_d y_a y_b y_c y_d wanty_a wanty_b wanty_c wanty_d
        clear want_11
        clear wanty_11
        go_wp2_with fail
        go_loopw [13] (fun i wr => ∃ k : Nat, i = .int .i64 k ∧ k ≤ 61 ∧ S2 wr (w1.heap.size) (bs h) (bs l) ∧ S2 wr (w1.heap.size + 1) (bs h') (bs l') ∧ S2 wr (w4.heap.size) (bs X) (bs U) ∧ S2 wr (w8.heap.size) (bs Y) (bs V) ∧ Below w.heap.size w wr) (fun i _ => 61 - (intOf i).toNat)
        case atStart => exact ⟨0, rfl, Nat.zero_le _, s_11, t_11, x_11, y_11, k11⟩
        case round =>
          clear s_11 t_11 x_11 y_11 k11
          obtain ⟨k, rfl, hk, s_12, t_12, x_12, y_12, k12⟩ := hrel
          by_cases hlt : k ≤ 60
          · have hk' : (k : Int) ≤ 60 := by omega
            obtain ⟨p, hp⟩ : ∃ p, hnB h l k = p := ⟨_, rfl⟩
            obtain ⟨q, hq⟩ : ∃ q, hnB h' l' k = q := ⟨_, rfl⟩
            have hX := NX.out k
            have hY := NY.out k
            rw [hp, hq] at hX hY
            have hwk : IntKind.i64.wrap ((k : Int) + 1) = ((k + 1 : Nat) : Int) := by rw [IntKind.wrap_i64]; omega
            cases p <;> cases q
            · skip
              have P1 := Lib.hid fun w => pbIn_is X U k false w z4 z5 (by omega) (by omega) (hX)
              have P2 := Lib.hid fun w => pbIn_is Y V k false w z6 z7 (by omega) (by omega) (hY)
              have P3 := Lib.hid fun w => pbIn_is h l k false w z0 z1 (by omega) (by omega) (hp)
              have P4 := Lib.hid fun w => pbIn_is h' l' k false w z2 z3 (by omega) (by omega) (hq)
              clear hX hY hp hq
              go_upto_region 13 with fail
              refine wp_region_held_drew (S := (fun w' => Below wr.heap.size wr w' ∧ (w'.cell? ⟨w1.heap.size, 0, none⟩ = some (.string (bs h)) ∧ w'.cell? ⟨w1.heap.size, 1, none⟩ = some (.string (bs l))) ∧ (w'.cell? ⟨w1.heap.size + 1, 0, none⟩ = some (.string (bs h')) ∧ w'.cell? ⟨w1.heap.size + 1, 1, none⟩ = some (.string (bs l'))) ∧ (w'.cell? ⟨w4.heap.size, 0, none⟩ = some (.string (bs X)) ∧ w'.cell? ⟨w4.heap.size, 1, none⟩ = some (.string (bs U))) ∧ (w'.cell? ⟨w8.heap.size, 0, none⟩ = some (.string (bs Y)) ∧ w'.cell? ⟨w8.heap.size, 1, none⟩ = some (.string (bs V))))) (by kernel_rfl) ?_ (fun hHeld => ?_)
              · try dsimp only
                refine kp4 s_12 t_12 x_12 y_12 ?_; go_grown
              refine wpAnyH_take (i := 0) (oi := { dst := some 100, op := Go.Op.load 24 (Go.Operand.tmp 5), type := 24, pos := "laws.go:1679", after := #[], guard := none }) (v := ?_) rfl (by kernel_rfl) (by kernel_rfl) (by kernel_rfl) (fun _ _ _ h => h) (Or.inl ⟨by rfl, ?_⟩) (by assumption) ?_
              rotate_left
              · (intro w hSw; (try dsimp only at hSw); first | (go_simp; done) | (go_simp; with_reducible rfl))
              try simp only [Act.put, List.setIfInBounds_toArray, List.set_cons_zero, List.set_cons_succ]
              refine wpAnyH_take (i := 1) (oi := { dst := some 101, op := Go.Op.move (Go.Operand.tmp 13), type := 3, pos := "laws.go:1679", after := #[], guard := none }) (v := ?_) rfl (by kernel_rfl) (by kernel_rfl) (by kernel_rfl) (fun _ _ _ h => h) (Or.inl ⟨by rfl, ?_⟩) (by assumption) ?_
              rotate_left
              · (intro w hSw; (try dsimp only at hSw); first | (go_simp; done) | (go_simp; with_reducible rfl))
              try simp only [Act.put, List.setIfInBounds_toArray, List.set_cons_zero, List.set_cons_succ]
              refine wpAnyH_take (i := 3) (oi := { dst := some 103, op := Go.Op.load 24 (Go.Operand.tmp 3), type := 24, pos := "laws.go:1679", after := #[], guard := none }) (v := ?_) rfl (by kernel_rfl) (by kernel_rfl) (by kernel_rfl) (fun _ _ _ h => h) (Or.inl ⟨by rfl, ?_⟩) (by assumption) ?_
              rotate_left
              · (intro w hSw; (try dsimp only at hSw); first | (go_simp; done) | (go_simp; with_reducible rfl))
              try simp only [Act.put, List.setIfInBounds_toArray, List.set_cons_zero, List.set_cons_succ]
              refine wpAnyH_take (i := 4) (oi := { dst := some 104, op := Go.Op.move (Go.Operand.tmp 13), type := 3, pos := "laws.go:1679", after := #[], guard := none }) (v := ?_) rfl (by kernel_rfl) (by kernel_rfl) (by kernel_rfl) (fun _ _ _ h => h) (Or.inl ⟨by rfl, ?_⟩) (by assumption) ?_
              rotate_left
              · (intro w hSw; (try dsimp only at hSw); first | (go_simp; done) | (go_simp; with_reducible rfl))
              try simp only [Act.put, List.setIfInBounds_toArray, List.set_cons_zero, List.set_cons_succ]
              refine wpAnyH_ready (rs := [2]) (by kernel_rfl) (by simp) ?_
              refine AllReadyH.cons (o := { dst := some 102, op := Go.Op.call { callee := Go.Callee.value (Go.Operand.func 16), args := #[Go.Operand.tmp 100, Go.Operand.tmp 101], argTypes := #[24, 3] }, type := 4, pos := "laws.go:1679", after := #[{ on := 0, ground := Go.Ground.data }, { on := 1, ground := Go.Ground.data }], guard := none }) rfl (fun K hK => ?_) AllReadyH.nil
              go_simp
              (go_at_call 16; (first | (with_reducible refine (P1.out _).mono ?_) | (with_reducible refine (P2.out _).mono ?_) | (with_reducible refine (P3.out _).mono ?_) | (with_reducible refine (P4.out _).mono ?_)); rintro e w13 ⟨rfl, hb4⟩; have hbb4 := below_on (w := wr) (by go_grown) hb4)
              (try go_wp2_with fail)
              refine hK.out _ _ ?_ (fun hHeld => ?_)
              · try dsimp only
                refine kp4 s_12 t_12 x_12 y_12 ?_; go_grown
              clear hK K
              try simp only [Act.put, List.setIfInBounds_toArray, List.set_cons_zero, List.set_cons_succ]
              refine wpAnyH_ready (rs := [5]) (by kernel_rfl) (by simp) ?_
              refine AllReadyH.cons (o := { dst := some 105, op := Go.Op.call { callee := Go.Callee.value (Go.Operand.func 16), args := #[Go.Operand.tmp 103, Go.Operand.tmp 104], argTypes := #[24, 3] }, type := 4, pos := "laws.go:1679", after := #[{ on := 3, ground := Go.Ground.data }, { on := 4, ground := Go.Ground.data }, { on := 2, ground := Go.Ground.chain }], guard := none }) rfl (fun K hK => ?_) AllReadyH.nil
              go_simp
              (go_at_call 16; (first | (with_reducible refine (P1.out _).mono ?_) | (with_reducible refine (P2.out _).mono ?_) | (with_reducible refine (P3.out _).mono ?_) | (with_reducible refine (P4.out _).mono ?_)); rintro e w13 ⟨rfl, hb4⟩; have hbb4 := below_on (w := wr) (by go_grown) hb4)
              (try go_wp2_with fail)
              refine hK.out _ _ ?_ (fun hHeld => ?_)
              · try dsimp only
                refine kp4 s_12 t_12 x_12 y_12 ?_; go_grown
              clear hK K
              try simp only [Act.put, List.setIfInBounds_toArray, List.set_cons_zero, List.set_cons_succ]
              refine wpAnyH_take (i := 6) (oi := { dst := some 106, op := Go.Op.move (Go.Operand.tmp 105), type := 4, pos := "laws.go:1679", after := #[{ on := 5, ground := Go.Ground.data }, { on := 5, ground := Go.Ground.chain }], guard := none }) (v := ?_) rfl (by kernel_rfl) (by kernel_rfl) (by kernel_rfl) (fun _ _ _ h => h) (Or.inl ⟨by rfl, ?_⟩) (by assumption) ?_
              rotate_left
              · (intro w hSw; (try dsimp only at hSw); first | (go_simp; done) | (go_simp; with_reducible rfl))
              try simp only [Act.put, List.setIfInBounds_toArray, List.set_cons_zero, List.set_cons_succ]
              refine wpAnyH_take (i := 7) (oi := { dst := some 107, op := Go.Op.load 24 (Go.Operand.tmp 4), type := 24, pos := "laws.go:1679", after := #[{ on := 6, ground := Go.Ground.guard }], guard := some (6, false) }) (v := ?_) rfl (by kernel_rfl) (by kernel_rfl) (by kernel_rfl) (fun _ _ _ h => h) (Or.inl ⟨by rfl, ?_⟩) (by assumption) ?_
              rotate_left
              · (intro w hSw; (try dsimp only at hSw); first | (go_simp; done) | (go_simp; with_reducible rfl))
              try simp only [Act.put, List.setIfInBounds_toArray, List.set_cons_zero, List.set_cons_succ]
              refine wpAnyH_take (i := 8) (oi := { dst := some 108, op := Go.Op.move (Go.Operand.tmp 13), type := 3, pos := "laws.go:1679", after := #[{ on := 6, ground := Go.Ground.guard }], guard := some (6, false) }) (v := ?_) rfl (by kernel_rfl) (by kernel_rfl) (by kernel_rfl) (fun _ _ _ h => h) (Or.inl ⟨by rfl, ?_⟩) (by assumption) ?_
              rotate_left
              · (intro w hSw; (try dsimp only at hSw); first | (go_simp; done) | (go_simp; with_reducible rfl))
              try simp only [Act.put, List.setIfInBounds_toArray, List.set_cons_zero, List.set_cons_succ]
              refine wpAnyH_ready (rs := [9]) (by kernel_rfl) (by simp) ?_
              refine AllReadyH.cons (o := { dst := some 109, op := Go.Op.call { callee := Go.Callee.value (Go.Operand.func 16), args := #[Go.Operand.tmp 107, Go.Operand.tmp 108], argTypes := #[24, 3] }, type := 4, pos := "laws.go:1679", after := #[{ on := 7, ground := Go.Ground.data }, { on := 8, ground := Go.Ground.data }, { on := 6, ground := Go.Ground.chain }, { on := 6, ground := Go.Ground.guard }], guard := some (6, false) }) rfl (fun K hK => ?_) AllReadyH.nil
              go_simp
              (go_at_call 16; (first | (with_reducible refine (P1.out _).mono ?_) | (with_reducible refine (P2.out _).mono ?_) | (with_reducible refine (P3.out _).mono ?_) | (with_reducible refine (P4.out _).mono ?_)); rintro e w13 ⟨rfl, hb4⟩; have hbb4 := below_on (w := wr) (by go_grown) hb4)
              (try go_wp2_with fail)
              refine hK.out _ _ ?_ (fun hHeld => ?_)
              · try dsimp only
                refine kp4 s_12 t_12 x_12 y_12 ?_; go_grown
              clear hK K
              try simp only [Act.put, List.setIfInBounds_toArray, List.set_cons_zero, List.set_cons_succ]
              refine wpAnyH_take (i := 10) (oi := { dst := some 110, op := Go.Op.pick (Go.Operand.tmp 106) (Go.Operand.const (Go.Value.bool true)) (Go.Operand.tmp 109), type := 4, pos := "laws.go:1679", after := #[{ on := 6, ground := Go.Ground.data }, { on := 9, ground := Go.Ground.data }], guard := none }) (v := ?_) rfl (by kernel_rfl) (by kernel_rfl) (by kernel_rfl) (fun _ _ _ h => h) (Or.inl ⟨by rfl, ?_⟩) (by assumption) ?_
              rotate_left
              · (intro w hSw; (try dsimp only at hSw); first | (go_simp; done) | (go_simp; with_reducible rfl))
              try simp only [Act.put, List.setIfInBounds_toArray, List.set_cons_zero, List.set_cons_succ]
              refine wpAnyH_take (i := 11) (oi := { dst := some 111, op := Go.Op.binOp Go.BinOp.neq 4 (Go.Operand.tmp 102) (Go.Operand.tmp 110) 4, type := 4, pos := "laws.go:1679", after := #[{ on := 2, ground := Go.Ground.data }, { on := 10, ground := Go.Ground.data }], guard := none }) (v := ?_) rfl (by kernel_rfl) (by kernel_rfl) (by kernel_rfl) (fun _ _ _ h => h) (Or.inl ⟨by rfl, ?_⟩) (by assumption) ?_
              rotate_left
              · (intro w hSw; (try dsimp only at hSw); first | (go_simp; done) | (go_simp; with_reducible rfl))
              try simp only [Act.put, List.setIfInBounds_toArray, List.set_cons_zero, List.set_cons_succ]
              refine wpAnyH_take (i := 12) (oi := { dst := some 112, op := Go.Op.move (Go.Operand.tmp 111), type := 4, pos := "laws.go:1679", after := #[{ on := 11, ground := Go.Ground.data }, { on := 9, ground := Go.Ground.chain }], guard := none }) (v := ?_) rfl (by kernel_rfl) (by kernel_rfl) (by kernel_rfl) (fun _ _ _ h => h) (Or.inl ⟨by rfl, ?_⟩) (by assumption) ?_
              rotate_left
              · (intro w hSw; (try dsimp only at hSw); first | (go_simp; done) | (go_simp; with_reducible rfl))
              try simp only [Act.put, List.setIfInBounds_toArray, List.set_cons_zero, List.set_cons_succ]
              refine wpAnyH_take (i := 13) (oi := { dst := some 113, op := Go.Op.load 24 (Go.Operand.tmp 9), type := 24, pos := "laws.go:1679", after := #[{ on := 12, ground := Go.Ground.guard }], guard := some (12, false) }) (v := ?_) rfl (by kernel_rfl) (by kernel_rfl) (by kernel_rfl) (fun _ _ _ h => h) (Or.inl ⟨by rfl, ?_⟩) (by assumption) ?_
              rotate_left
              · (intro w hSw; (try dsimp only at hSw); first | (go_simp; done) | (go_simp; with_reducible rfl))
              try simp only [Act.put, List.setIfInBounds_toArray, List.set_cons_zero, List.set_cons_succ]
              refine wpAnyH_take (i := 14) (oi := { dst := some 114, op := Go.Op.move (Go.Operand.tmp 13), type := 3, pos := "laws.go:1679", after := #[{ on := 12, ground := Go.Ground.guard }], guard := some (12, false) }) (v := ?_) rfl (by kernel_rfl) (by kernel_rfl) (by kernel_rfl) (fun _ _ _ h => h) (Or.inl ⟨by rfl, ?_⟩) (by assumption) ?_
              rotate_left
              · (intro w hSw; (try dsimp only at hSw); first | (go_simp; done) | (go_simp; with_reducible rfl))
              try simp only [Act.put, List.setIfInBounds_toArray, List.set_cons_zero, List.set_cons_succ]
              refine wpAnyH_take (i := 16) (oi := { dst := some 116, op := Go.Op.load 24 (Go.Operand.tmp 3), type := 24, pos := "laws.go:1679", after := #[{ on := 12, ground := Go.Ground.guard }], guard := some (12, false) }) (v := ?_) rfl (by kernel_rfl) (by kernel_rfl) (by kernel_rfl) (fun _ _ _ h => h) (Or.inl ⟨by rfl, ?_⟩) (by assumption) ?_
              rotate_left
              · (intro w hSw; (try dsimp only at hSw); first | (go_simp; done) | (go_simp; with_reducible rfl))
              try simp only [Act.put, List.setIfInBounds_toArray, List.set_cons_zero, List.set_cons_succ]
              refine wpAnyH_take (i := 17) (oi := { dst := some 117, op := Go.Op.move (Go.Operand.tmp 13), type := 3, pos := "laws.go:1679", after := #[{ on := 12, ground := Go.Ground.guard }], guard := some (12, false) }) (v := ?_) rfl (by kernel_rfl) (by kernel_rfl) (by kernel_rfl) (fun _ _ _ h => h) (Or.inl ⟨by rfl, ?_⟩) (by assumption) ?_
              rotate_left
              · (intro w hSw; (try dsimp only at hSw); first | (go_simp; done) | (go_simp; with_reducible rfl))
              try simp only [Act.put, List.setIfInBounds_toArray, List.set_cons_zero, List.set_cons_succ]
              refine wpAnyH_ready (rs := [15]) (by kernel_rfl) (by simp) ?_
              refine AllReadyH.cons (o := { dst := some 115, op := Go.Op.call { callee := Go.Callee.value (Go.Operand.func 16), args := #[Go.Operand.tmp 113, Go.Operand.tmp 114], argTypes := #[24, 3] }, type := 4, pos := "laws.go:1679", after := #[{ on := 13, ground := Go.Ground.data }, { on := 14, ground := Go.Ground.data }, { on := 12, ground := Go.Ground.chain }, { on := 12, ground := Go.Ground.guard }], guard := some (12, false) }) rfl (fun K hK => ?_) AllReadyH.nil
              go_simp
              (go_at_call 16; (first | (with_reducible refine (P1.out _).mono ?_) | (with_reducible refine (P2.out _).mono ?_) | (with_reducible refine (P3.out _).mono ?_) | (with_reducible refine (P4.out _).mono ?_)); rintro e w13 ⟨rfl, hb4⟩; have hbb4 := below_on (w := wr) (by go_grown) hb4)
              (try go_wp2_with fail)
              refine hK.out _ _ ?_ (fun hHeld => ?_)
              · try dsimp only
                refine kp4 s_12 t_12 x_12 y_12 ?_; go_grown
              clear hK K
              try simp only [Act.put, List.setIfInBounds_toArray, List.set_cons_zero, List.set_cons_succ]
              refine wpAnyH_ready (rs := [18]) (by kernel_rfl) (by simp) ?_
              refine AllReadyH.cons (o := { dst := some 118, op := Go.Op.call { callee := Go.Callee.value (Go.Operand.func 16), args := #[Go.Operand.tmp 116, Go.Operand.tmp 117], argTypes := #[24, 3] }, type := 4, pos := "laws.go:1679", after := #[{ on := 16, ground := Go.Ground.data }, { on := 17, ground := Go.Ground.data }, { on := 15, ground := Go.Ground.chain }, { on := 12, ground := Go.Ground.guard }], guard := some (12, false) }) rfl (fun K hK => ?_) AllReadyH.nil
              go_simp
              (go_at_call 16; (first | (with_reducible refine (P1.out _).mono ?_) | (with_reducible refine (P2.out _).mono ?_) | (with_reducible refine (P3.out _).mono ?_) | (with_reducible refine (P4.out _).mono ?_)); rintro e w13 ⟨rfl, hb4⟩; have hbb4 := below_on (w := wr) (by go_grown) hb4)
              (try go_wp2_with fail)
              refine hK.out _ _ ?_ (fun hHeld => ?_)
              · try dsimp only
                refine kp4 s_12 t_12 x_12 y_12 ?_; go_grown
              clear hK K
              try simp only [Act.put, List.setIfInBounds_toArray, List.set_cons_zero, List.set_cons_succ]
              refine wpAnyH_take (i := 19) (oi := { dst := some 119, op := Go.Op.move (Go.Operand.tmp 118), type := 4, pos := "laws.go:1679", after := #[{ on := 18, ground := Go.Ground.data }, { on := 18, ground := Go.Ground.chain }, { on := 12, ground := Go.Ground.guard }], guard := some (12, false) }) (v := ?_) rfl (by kernel_rfl) (by kernel_rfl) (by kernel_rfl) (fun _ _ _ h => h) (Or.inl ⟨by rfl, ?_⟩) (by assumption) ?_
              rotate_left
              · (intro w hSw; (try dsimp only at hSw); first | (go_simp; done) | (go_simp; with_reducible rfl))
              try simp only [Act.put, List.setIfInBounds_toArray, List.set_cons_zero, List.set_cons_succ]
              refine wpAnyH_take (i := 20) (oi := { dst := some 120, op := Go.Op.load 24 (Go.Operand.tmp 4), type := 24, pos := "laws.go:1679", after := #[{ on := 19, ground := Go.Ground.guard }], guard := some (19, true) }) (v := undef) rfl (by kernel_rfl) (by kernel_rfl) (by kernel_rfl) (fun _ _ _ h => h) (Or.inr ⟨by rfl, rfl⟩) (by assumption) ?_
              try simp only [Act.put, List.setIfInBounds_toArray, List.set_cons_zero, List.set_cons_succ]
              refine wpAnyH_take (i := 21) (oi := { dst := some 121, op := Go.Op.move (Go.Operand.tmp 13), type := 3, pos := "laws.go:1679", after := #[{ on := 19, ground := Go.Ground.guard }], guard := some (19, true) }) (v := undef) rfl (by kernel_rfl) (by kernel_rfl) (by kernel_rfl) (fun _ _ _ h => h) (Or.inr ⟨by rfl, rfl⟩) (by assumption) ?_
              try simp only [Act.put, List.setIfInBounds_toArray, List.set_cons_zero, List.set_cons_succ]
              refine wpAnyH_take (i := 22) (oi := { dst := some 122, op := Go.Op.call { callee := Go.Callee.value (Go.Operand.func 16), args := #[Go.Operand.tmp 120, Go.Operand.tmp 121], argTypes := #[24, 3] }, type := 4, pos := "laws.go:1679", after := #[{ on := 20, ground := Go.Ground.data }, { on := 21, ground := Go.Ground.data }, { on := 19, ground := Go.Ground.chain }, { on := 19, ground := Go.Ground.guard }], guard := some (19, true) }) (v := undef) rfl (by kernel_rfl) (by kernel_rfl) (by kernel_rfl) (fun _ _ _ h => h) (Or.inr ⟨by rfl, rfl⟩) (by assumption) ?_
              try simp only [Act.put, List.setIfInBounds_toArray, List.set_cons_zero, List.set_cons_succ]
              refine wpAnyH_take (i := 23) (oi := { dst := some 123, op := Go.Op.pick (Go.Operand.tmp 119) (Go.Operand.tmp 122) (Go.Operand.const (Go.Value.bool false)), type := 4, pos := "laws.go:1679", after := #[{ on := 19, ground := Go.Ground.data }, { on := 22, ground := Go.Ground.data }, { on := 12, ground := Go.Ground.guard }], guard := some (12, false) }) (v := ?_) rfl (by kernel_rfl) (by kernel_rfl) (by kernel_rfl) (fun _ _ _ h => h) (Or.inl ⟨by rfl, ?_⟩) (by assumption) ?_
              rotate_left
              · (intro w hSw; (try dsimp only at hSw); first | (go_simp; done) | (go_simp; with_reducible rfl))
              try simp only [Act.put, List.setIfInBounds_toArray, List.set_cons_zero, List.set_cons_succ]
              refine wpAnyH_take (i := 24) (oi := { dst := some 124, op := Go.Op.binOp Go.BinOp.neq 4 (Go.Operand.tmp 115) (Go.Operand.tmp 123) 4, type := 4, pos := "laws.go:1679", after := #[{ on := 15, ground := Go.Ground.data }, { on := 23, ground := Go.Ground.data }, { on := 12, ground := Go.Ground.guard }], guard := some (12, false) }) (v := ?_) rfl (by kernel_rfl) (by kernel_rfl) (by kernel_rfl) (fun _ _ _ h => h) (Or.inl ⟨by rfl, ?_⟩) (by assumption) ?_
              rotate_left
              · (intro w hSw; (try dsimp only at hSw); first | (go_simp; done) | (go_simp; with_reducible rfl))
              try simp only [Act.put, List.setIfInBounds_toArray, List.set_cons_zero, List.set_cons_succ]
              refine wpAnyH_take (i := 25) (oi := { dst := some 125, op := Go.Op.pick (Go.Operand.tmp 112) (Go.Operand.const (Go.Value.bool true)) (Go.Operand.tmp 124), type := 4, pos := "laws.go:1679", after := #[{ on := 12, ground := Go.Ground.data }, { on := 24, ground := Go.Ground.data }], guard := none }) (v := ?_) rfl (by kernel_rfl) (by kernel_rfl) (by kernel_rfl) (fun _ _ _ h => h) (Or.inl ⟨by rfl, ?_⟩) (by assumption) ?_
              rotate_left
              · (intro w hSw; (try dsimp only at hSw); first | (go_simp; done) | (go_simp; with_reducible rfl))
              try simp only [Act.put, List.setIfInBounds_toArray, List.set_cons_zero, List.set_cons_succ]
              refine wpAnyH_done (by kernel_rfl) ?_ _
              have hk := hHeld.1
              clear hHeld
              have k14 := below_on k12 hk
              have s_14 := s2_on s_12 hk
              have t_14 := s2_on t_12 hk
              have x_14 := s2_on x_12 hk
              have y_14 := s2_on y_12 hk
              clear k12 s_12 t_12 x_12 y_12
              clear hk
              go_wp2
              go_roundw
              case rel => exact ⟨k + 1, rfl, by omega, s_14, t_14, x_14, y_14, k14⟩
              case measure => simp [intOf]; omega
            · skip
              have P1 := Lib.hid fun w => pbIn_is X U k true w z4 z5 (by omega) (by omega) (hX)
              have P2 := Lib.hid fun w => pbIn_is Y V k false w z6 z7 (by omega) (by omega) (hY)
              have P3 := Lib.hid fun w => pbIn_is h l k false w z0 z1 (by omega) (by omega) (hp)
              have P4 := Lib.hid fun w => pbIn_is h' l' k true w z2 z3 (by omega) (by omega) (hq)
              clear hX hY hp hq
              go_upto_region 13 with fail
              refine wp_region_held_drew (S := (fun w' => Below wr.heap.size wr w' ∧ (w'.cell? ⟨w1.heap.size, 0, none⟩ = some (.string (bs h)) ∧ w'.cell? ⟨w1.heap.size, 1, none⟩ = some (.string (bs l))) ∧ (w'.cell? ⟨w1.heap.size + 1, 0, none⟩ = some (.string (bs h')) ∧ w'.cell? ⟨w1.heap.size + 1, 1, none⟩ = some (.string (bs l'))) ∧ (w'.cell? ⟨w4.heap.size, 0, none⟩ = some (.string (bs X)) ∧ w'.cell? ⟨w4.heap.size, 1, none⟩ = some (.string (bs U))) ∧ (w'.cell? ⟨w8.heap.size, 0, none⟩ = some (.string (bs Y)) ∧ w'.cell? ⟨w8.heap.size, 1, none⟩ = some (.string (bs V))))) (by kernel_rfl) ?_ (fun hHeld => ?_)
              · try dsimp only
                refine kp4 s_12 t_12 x_12 y_12 ?_; go_grown
              refine wpAnyH_take (i := 0) (oi := { dst := some 100, op := Go.Op.load 24 (Go.Operand.tmp 5), type := 24, pos := "laws.go:1679", after := #[], guard := none }) (v := ?_) rfl (by kernel_rfl) (by kernel_rfl) (by kernel_rfl) (fun _ _ _ h => h) (Or.inl ⟨by rfl, ?_⟩) (by assumption) ?_
              rotate_left
              · (intro w hSw; (try dsimp only at hSw); first | (go_simp; done) | (go_simp; with_reducible rfl))
              try simp only [Act.put, List.setIfInBounds_toArray, List.set_cons_zero, List.set_cons_succ]
              refine wpAnyH_take (i := 1) (oi := { dst := some 101, op := Go.Op.move (Go.Operand.tmp 13), type := 3, pos := "laws.go:1679", after := #[], guard := none }) (v := ?_) rfl (by kernel_rfl) (by kernel_rfl) (by kernel_rfl) (fun _ _ _ h => h) (Or.inl ⟨by rfl, ?_⟩) (by assumption) ?_
              rotate_left
              · (intro w hSw; (try dsimp only at hSw); first | (go_simp; done) | (go_simp; with_reducible rfl))
              try simp only [Act.put, List.setIfInBounds_toArray, List.set_cons_zero, List.set_cons_succ]
              refine wpAnyH_take (i := 3) (oi := { dst := some 103, op := Go.Op.load 24 (Go.Operand.tmp 3), type := 24, pos := "laws.go:1679", after := #[], guard := none }) (v := ?_) rfl (by kernel_rfl) (by kernel_rfl) (by kernel_rfl) (fun _ _ _ h => h) (Or.inl ⟨by rfl, ?_⟩) (by assumption) ?_
              rotate_left
              · (intro w hSw; (try dsimp only at hSw); first | (go_simp; done) | (go_simp; with_reducible rfl))
              try simp only [Act.put, List.setIfInBounds_toArray, List.set_cons_zero, List.set_cons_succ]
              refine wpAnyH_take (i := 4) (oi := { dst := some 104, op := Go.Op.move (Go.Operand.tmp 13), type := 3, pos := "laws.go:1679", after := #[], guard := none }) (v := ?_) rfl (by kernel_rfl) (by kernel_rfl) (by kernel_rfl) (fun _ _ _ h => h) (Or.inl ⟨by rfl, ?_⟩) (by assumption) ?_
              rotate_left
              · (intro w hSw; (try dsimp only at hSw); first | (go_simp; done) | (go_simp; with_reducible rfl))
              try simp only [Act.put, List.setIfInBounds_toArray, List.set_cons_zero, List.set_cons_succ]
              refine wpAnyH_ready (rs := [2]) (by kernel_rfl) (by simp) ?_
              refine AllReadyH.cons (o := { dst := some 102, op := Go.Op.call { callee := Go.Callee.value (Go.Operand.func 16), args := #[Go.Operand.tmp 100, Go.Operand.tmp 101], argTypes := #[24, 3] }, type := 4, pos := "laws.go:1679", after := #[{ on := 0, ground := Go.Ground.data }, { on := 1, ground := Go.Ground.data }], guard := none }) rfl (fun K hK => ?_) AllReadyH.nil
              go_simp
              (go_at_call 16; (first | (with_reducible refine (P1.out _).mono ?_) | (with_reducible refine (P2.out _).mono ?_) | (with_reducible refine (P3.out _).mono ?_) | (with_reducible refine (P4.out _).mono ?_)); rintro e w13 ⟨rfl, hb4⟩; have hbb4 := below_on (w := wr) (by go_grown) hb4)
              (try go_wp2_with fail)
              refine hK.out _ _ ?_ (fun hHeld => ?_)
              · try dsimp only
                refine kp4 s_12 t_12 x_12 y_12 ?_; go_grown
              clear hK K
              try simp only [Act.put, List.setIfInBounds_toArray, List.set_cons_zero, List.set_cons_succ]
              refine wpAnyH_ready (rs := [5]) (by kernel_rfl) (by simp) ?_
              refine AllReadyH.cons (o := { dst := some 105, op := Go.Op.call { callee := Go.Callee.value (Go.Operand.func 16), args := #[Go.Operand.tmp 103, Go.Operand.tmp 104], argTypes := #[24, 3] }, type := 4, pos := "laws.go:1679", after := #[{ on := 3, ground := Go.Ground.data }, { on := 4, ground := Go.Ground.data }, { on := 2, ground := Go.Ground.chain }], guard := none }) rfl (fun K hK => ?_) AllReadyH.nil
              go_simp
              (go_at_call 16; (first | (with_reducible refine (P1.out _).mono ?_) | (with_reducible refine (P2.out _).mono ?_) | (with_reducible refine (P3.out _).mono ?_) | (with_reducible refine (P4.out _).mono ?_)); rintro e w13 ⟨rfl, hb4⟩; have hbb4 := below_on (w := wr) (by go_grown) hb4)
              (try go_wp2_with fail)
              refine hK.out _ _ ?_ (fun hHeld => ?_)
              · try dsimp only
                refine kp4 s_12 t_12 x_12 y_12 ?_; go_grown
              clear hK K
              try simp only [Act.put, List.setIfInBounds_toArray, List.set_cons_zero, List.set_cons_succ]
              refine wpAnyH_take (i := 6) (oi := { dst := some 106, op := Go.Op.move (Go.Operand.tmp 105), type := 4, pos := "laws.go:1679", after := #[{ on := 5, ground := Go.Ground.data }, { on := 5, ground := Go.Ground.chain }], guard := none }) (v := ?_) rfl (by kernel_rfl) (by kernel_rfl) (by kernel_rfl) (fun _ _ _ h => h) (Or.inl ⟨by rfl, ?_⟩) (by assumption) ?_
              rotate_left
              · (intro w hSw; (try dsimp only at hSw); first | (go_simp; done) | (go_simp; with_reducible rfl))
              try simp only [Act.put, List.setIfInBounds_toArray, List.set_cons_zero, List.set_cons_succ]
              refine wpAnyH_take (i := 7) (oi := { dst := some 107, op := Go.Op.load 24 (Go.Operand.tmp 4), type := 24, pos := "laws.go:1679", after := #[{ on := 6, ground := Go.Ground.guard }], guard := some (6, false) }) (v := ?_) rfl (by kernel_rfl) (by kernel_rfl) (by kernel_rfl) (fun _ _ _ h => h) (Or.inl ⟨by rfl, ?_⟩) (by assumption) ?_
              rotate_left
              · (intro w hSw; (try dsimp only at hSw); first | (go_simp; done) | (go_simp; with_reducible rfl))
              try simp only [Act.put, List.setIfInBounds_toArray, List.set_cons_zero, List.set_cons_succ]
              refine wpAnyH_take (i := 8) (oi := { dst := some 108, op := Go.Op.move (Go.Operand.tmp 13), type := 3, pos := "laws.go:1679", after := #[{ on := 6, ground := Go.Ground.guard }], guard := some (6, false) }) (v := ?_) rfl (by kernel_rfl) (by kernel_rfl) (by kernel_rfl) (fun _ _ _ h => h) (Or.inl ⟨by rfl, ?_⟩) (by assumption) ?_
              rotate_left
              · (intro w hSw; (try dsimp only at hSw); first | (go_simp; done) | (go_simp; with_reducible rfl))
              try simp only [Act.put, List.setIfInBounds_toArray, List.set_cons_zero, List.set_cons_succ]
              refine wpAnyH_ready (rs := [9]) (by kernel_rfl) (by simp) ?_
              refine AllReadyH.cons (o := { dst := some 109, op := Go.Op.call { callee := Go.Callee.value (Go.Operand.func 16), args := #[Go.Operand.tmp 107, Go.Operand.tmp 108], argTypes := #[24, 3] }, type := 4, pos := "laws.go:1679", after := #[{ on := 7, ground := Go.Ground.data }, { on := 8, ground := Go.Ground.data }, { on := 6, ground := Go.Ground.chain }, { on := 6, ground := Go.Ground.guard }], guard := some (6, false) }) rfl (fun K hK => ?_) AllReadyH.nil
              go_simp
              (go_at_call 16; (first | (with_reducible refine (P1.out _).mono ?_) | (with_reducible refine (P2.out _).mono ?_) | (with_reducible refine (P3.out _).mono ?_) | (with_reducible refine (P4.out _).mono ?_)); rintro e w13 ⟨rfl, hb4⟩; have hbb4 := below_on (w := wr) (by go_grown) hb4)
              (try go_wp2_with fail)
              refine hK.out _ _ ?_ (fun hHeld => ?_)
              · try dsimp only
                refine kp4 s_12 t_12 x_12 y_12 ?_; go_grown
              clear hK K
              try simp only [Act.put, List.setIfInBounds_toArray, List.set_cons_zero, List.set_cons_succ]
              refine wpAnyH_take (i := 10) (oi := { dst := some 110, op := Go.Op.pick (Go.Operand.tmp 106) (Go.Operand.const (Go.Value.bool true)) (Go.Operand.tmp 109), type := 4, pos := "laws.go:1679", after := #[{ on := 6, ground := Go.Ground.data }, { on := 9, ground := Go.Ground.data }], guard := none }) (v := ?_) rfl (by kernel_rfl) (by kernel_rfl) (by kernel_rfl) (fun _ _ _ h => h) (Or.inl ⟨by rfl, ?_⟩) (by assumption) ?_
              rotate_left
              · (intro w hSw; (try dsimp only at hSw); first | (go_simp; done) | (go_simp; with_reducible rfl))
              try simp only [Act.put, List.setIfInBounds_toArray, List.set_cons_zero, List.set_cons_succ]
              refine wpAnyH_take (i := 11) (oi := { dst := some 111, op := Go.Op.binOp Go.BinOp.neq 4 (Go.Operand.tmp 102) (Go.Operand.tmp 110) 4, type := 4, pos := "laws.go:1679", after := #[{ on := 2, ground := Go.Ground.data }, { on := 10, ground := Go.Ground.data }], guard := none }) (v := ?_) rfl (by kernel_rfl) (by kernel_rfl) (by kernel_rfl) (fun _ _ _ h => h) (Or.inl ⟨by rfl, ?_⟩) (by assumption) ?_
              rotate_left
              · (intro w hSw; (try dsimp only at hSw); first | (go_simp; done) | (go_simp; with_reducible rfl))
              try simp only [Act.put, List.setIfInBounds_toArray, List.set_cons_zero, List.set_cons_succ]
              refine wpAnyH_take (i := 12) (oi := { dst := some 112, op := Go.Op.move (Go.Operand.tmp 111), type := 4, pos := "laws.go:1679", after := #[{ on := 11, ground := Go.Ground.data }, { on := 9, ground := Go.Ground.chain }], guard := none }) (v := ?_) rfl (by kernel_rfl) (by kernel_rfl) (by kernel_rfl) (fun _ _ _ h => h) (Or.inl ⟨by rfl, ?_⟩) (by assumption) ?_
              rotate_left
              · (intro w hSw; (try dsimp only at hSw); first | (go_simp; done) | (go_simp; with_reducible rfl))
              try simp only [Act.put, List.setIfInBounds_toArray, List.set_cons_zero, List.set_cons_succ]
              refine wpAnyH_take (i := 13) (oi := { dst := some 113, op := Go.Op.load 24 (Go.Operand.tmp 9), type := 24, pos := "laws.go:1679", after := #[{ on := 12, ground := Go.Ground.guard }], guard := some (12, false) }) (v := ?_) rfl (by kernel_rfl) (by kernel_rfl) (by kernel_rfl) (fun _ _ _ h => h) (Or.inl ⟨by rfl, ?_⟩) (by assumption) ?_
              rotate_left
              · (intro w hSw; (try dsimp only at hSw); first | (go_simp; done) | (go_simp; with_reducible rfl))
              try simp only [Act.put, List.setIfInBounds_toArray, List.set_cons_zero, List.set_cons_succ]
              refine wpAnyH_take (i := 14) (oi := { dst := some 114, op := Go.Op.move (Go.Operand.tmp 13), type := 3, pos := "laws.go:1679", after := #[{ on := 12, ground := Go.Ground.guard }], guard := some (12, false) }) (v := ?_) rfl (by kernel_rfl) (by kernel_rfl) (by kernel_rfl) (fun _ _ _ h => h) (Or.inl ⟨by rfl, ?_⟩) (by assumption) ?_
              rotate_left
              · (intro w hSw; (try dsimp only at hSw); first | (go_simp; done) | (go_simp; with_reducible rfl))
              try simp only [Act.put, List.setIfInBounds_toArray, List.set_cons_zero, List.set_cons_succ]
              refine wpAnyH_take (i := 16) (oi := { dst := some 116, op := Go.Op.load 24 (Go.Operand.tmp 3), type := 24, pos := "laws.go:1679", after := #[{ on := 12, ground := Go.Ground.guard }], guard := some (12, false) }) (v := ?_) rfl (by kernel_rfl) (by kernel_rfl) (by kernel_rfl) (fun _ _ _ h => h) (Or.inl ⟨by rfl, ?_⟩) (by assumption) ?_
              rotate_left
              · (intro w hSw; (try dsimp only at hSw); first | (go_simp; done) | (go_simp; with_reducible rfl))
              try simp only [Act.put, List.setIfInBounds_toArray, List.set_cons_zero, List.set_cons_succ]
              refine wpAnyH_take (i := 17) (oi := { dst := some 117, op := Go.Op.move (Go.Operand.tmp 13), type := 3, pos := "laws.go:1679", after := #[{ on := 12, ground := Go.Ground.guard }], guard := some (12, false) }) (v := ?_) rfl (by kernel_rfl) (by kernel_rfl) (by kernel_rfl) (fun _ _ _ h => h) (Or.inl ⟨by rfl, ?_⟩) (by assumption) ?_
              rotate_left
              · (intro w hSw; (try dsimp only at hSw); first | (go_simp; done) | (go_simp; with_reducible rfl))
              try simp only [Act.put, List.setIfInBounds_toArray, List.set_cons_zero, List.set_cons_succ]
              refine wpAnyH_ready (rs := [15]) (by kernel_rfl) (by simp) ?_
              refine AllReadyH.cons (o := { dst := some 115, op := Go.Op.call { callee := Go.Callee.value (Go.Operand.func 16), args := #[Go.Operand.tmp 113, Go.Operand.tmp 114], argTypes := #[24, 3] }, type := 4, pos := "laws.go:1679", after := #[{ on := 13, ground := Go.Ground.data }, { on := 14, ground := Go.Ground.data }, { on := 12, ground := Go.Ground.chain }, { on := 12, ground := Go.Ground.guard }], guard := some (12, false) }) rfl (fun K hK => ?_) AllReadyH.nil
              go_simp
              (go_at_call 16; (first | (with_reducible refine (P1.out _).mono ?_) | (with_reducible refine (P2.out _).mono ?_) | (with_reducible refine (P3.out _).mono ?_) | (with_reducible refine (P4.out _).mono ?_)); rintro e w13 ⟨rfl, hb4⟩; have hbb4 := below_on (w := wr) (by go_grown) hb4)
              (try go_wp2_with fail)
              refine hK.out _ _ ?_ (fun hHeld => ?_)
              · try dsimp only
                refine kp4 s_12 t_12 x_12 y_12 ?_; go_grown
              clear hK K
              try simp only [Act.put, List.setIfInBounds_toArray, List.set_cons_zero, List.set_cons_succ]
              refine wpAnyH_ready (rs := [18]) (by kernel_rfl) (by simp) ?_
              refine AllReadyH.cons (o := { dst := some 118, op := Go.Op.call { callee := Go.Callee.value (Go.Operand.func 16), args := #[Go.Operand.tmp 116, Go.Operand.tmp 117], argTypes := #[24, 3] }, type := 4, pos := "laws.go:1679", after := #[{ on := 16, ground := Go.Ground.data }, { on := 17, ground := Go.Ground.data }, { on := 15, ground := Go.Ground.chain }, { on := 12, ground := Go.Ground.guard }], guard := some (12, false) }) rfl (fun K hK => ?_) AllReadyH.nil
              go_simp
              (go_at_call 16; (first | (with_reducible refine (P1.out _).mono ?_) | (with_reducible refine (P2.out _).mono ?_) | (with_reducible refine (P3.out _).mono ?_) | (with_reducible refine (P4.out _).mono ?_)); rintro e w13 ⟨rfl, hb4⟩; have hbb4 := below_on (w := wr) (by go_grown) hb4)
              (try go_wp2_with fail)
              refine hK.out _ _ ?_ (fun hHeld => ?_)
              · try dsimp only
                refine kp4 s_12 t_12 x_12 y_12 ?_; go_grown
              clear hK K
              try simp only [Act.put, List.setIfInBounds_toArray, List.set_cons_zero, List.set_cons_succ]
              refine wpAnyH_take (i := 19) (oi := { dst := some 119, op := Go.Op.move (Go.Operand.tmp 118), type := 4, pos := "laws.go:1679", after := #[{ on := 18, ground := Go.Ground.data }, { on := 18, ground := Go.Ground.chain }, { on := 12, ground := Go.Ground.guard }], guard := some (12, false) }) (v := ?_) rfl (by kernel_rfl) (by kernel_rfl) (by kernel_rfl) (fun _ _ _ h => h) (Or.inl ⟨by rfl, ?_⟩) (by assumption) ?_
              rotate_left
              · (intro w hSw; (try dsimp only at hSw); first | (go_simp; done) | (go_simp; with_reducible rfl))
              try simp only [Act.put, List.setIfInBounds_toArray, List.set_cons_zero, List.set_cons_succ]
              refine wpAnyH_take (i := 20) (oi := { dst := some 120, op := Go.Op.load 24 (Go.Operand.tmp 4), type := 24, pos := "laws.go:1679", after := #[{ on := 19, ground := Go.Ground.guard }], guard := some (19, true) }) (v := undef) rfl (by kernel_rfl) (by kernel_rfl) (by kernel_rfl) (fun _ _ _ h => h) (Or.inr ⟨by rfl, rfl⟩) (by assumption) ?_
              try simp only [Act.put, List.setIfInBounds_toArray, List.set_cons_zero, List.set_cons_succ]
              refine wpAnyH_take (i := 21) (oi := { dst := some 121, op := Go.Op.move (Go.Operand.tmp 13), type := 3, pos := "laws.go:1679", after := #[{ on := 19, ground := Go.Ground.guard }], guard := some (19, true) }) (v := undef) rfl (by kernel_rfl) (by kernel_rfl) (by kernel_rfl) (fun _ _ _ h => h) (Or.inr ⟨by rfl, rfl⟩) (by assumption) ?_
              try simp only [Act.put, List.setIfInBounds_toArray, List.set_cons_zero, List.set_cons_succ]
              refine wpAnyH_take (i := 22) (oi := { dst := some 122, op := Go.Op.call { callee := Go.Callee.value (Go.Operand.func 16), args := #[Go.Operand.tmp 120, Go.Operand.tmp 121], argTypes := #[24, 3] }, type := 4, pos := "laws.go:1679", after := #[{ on := 20, ground := Go.Ground.data }, { on := 21, ground := Go.Ground.data }, { on := 19, ground := Go.Ground.chain }, { on := 19, ground := Go.Ground.guard }], guard := some (19, true) }) (v := undef) rfl (by kernel_rfl) (by kernel_rfl) (by kernel_rfl) (fun _ _ _ h => h) (Or.inr ⟨by rfl, rfl⟩) (by assumption) ?_
              try simp only [Act.put, List.setIfInBounds_toArray, List.set_cons_zero, List.set_cons_succ]
              refine wpAnyH_take (i := 23) (oi := { dst := some 123, op := Go.Op.pick (Go.Operand.tmp 119) (Go.Operand.tmp 122) (Go.Operand.const (Go.Value.bool false)), type := 4, pos := "laws.go:1679", after := #[{ on := 19, ground := Go.Ground.data }, { on := 22, ground := Go.Ground.data }, { on := 12, ground := Go.Ground.guard }], guard := some (12, false) }) (v := ?_) rfl (by kernel_rfl) (by kernel_rfl) (by kernel_rfl) (fun _ _ _ h => h) (Or.inl ⟨by rfl, ?_⟩) (by assumption) ?_
              rotate_left
              · (intro w hSw; (try dsimp only at hSw); first | (go_simp; done) | (go_simp; with_reducible rfl))
              try simp only [Act.put, List.setIfInBounds_toArray, List.set_cons_zero, List.set_cons_succ]
              refine wpAnyH_take (i := 24) (oi := { dst := some 124, op := Go.Op.binOp Go.BinOp.neq 4 (Go.Operand.tmp 115) (Go.Operand.tmp 123) 4, type := 4, pos := "laws.go:1679", after := #[{ on := 15, ground := Go.Ground.data }, { on := 23, ground := Go.Ground.data }, { on := 12, ground := Go.Ground.guard }], guard := some (12, false) }) (v := ?_) rfl (by kernel_rfl) (by kernel_rfl) (by kernel_rfl) (fun _ _ _ h => h) (Or.inl ⟨by rfl, ?_⟩) (by assumption) ?_
              rotate_left
              · (intro w hSw; (try dsimp only at hSw); first | (go_simp; done) | (go_simp; with_reducible rfl))
              try simp only [Act.put, List.setIfInBounds_toArray, List.set_cons_zero, List.set_cons_succ]
              refine wpAnyH_take (i := 25) (oi := { dst := some 125, op := Go.Op.pick (Go.Operand.tmp 112) (Go.Operand.const (Go.Value.bool true)) (Go.Operand.tmp 124), type := 4, pos := "laws.go:1679", after := #[{ on := 12, ground := Go.Ground.data }, { on := 24, ground := Go.Ground.data }], guard := none }) (v := ?_) rfl (by kernel_rfl) (by kernel_rfl) (by kernel_rfl) (fun _ _ _ h => h) (Or.inl ⟨by rfl, ?_⟩) (by assumption) ?_
              rotate_left
              · (intro w hSw; (try dsimp only at hSw); first | (go_simp; done) | (go_simp; with_reducible rfl))
              try simp only [Act.put, List.setIfInBounds_toArray, List.set_cons_zero, List.set_cons_succ]
              refine wpAnyH_done (by kernel_rfl) ?_ _
              have hk := hHeld.1
              clear hHeld
              have k14 := below_on k12 hk
              have s_14 := s2_on s_12 hk
              have t_14 := s2_on t_12 hk
              have x_14 := s2_on x_12 hk
              have y_14 := s2_on y_12 hk
              clear k12 s_12 t_12 x_12 y_12
              clear hk
              go_wp2
              go_roundw
              case rel => exact ⟨k + 1, rfl, by omega, s_14, t_14, x_14, y_14, k14⟩
              case measure => simp [intOf]; omega
            · skip
              have P1 := Lib.hid fun w => pbIn_is X U k true w z4 z5 (by omega) (by omega) (hX)
              have P2 := Lib.hid fun w => pbIn_is Y V k false w z6 z7 (by omega) (by omega) (hY)
              have P3 := Lib.hid fun w => pbIn_is h l k true w z0 z1 (by omega) (by omega) (hp)
              have P4 := Lib.hid fun w => pbIn_is h' l' k false w z2 z3 (by omega) (by omega) (hq)
              clear hX hY hp hq
              go_upto_region 13 with fail
              refine wp_region_held_drew (S := (fun w' => Below wr.heap.size wr w' ∧ (w'.cell? ⟨w1.heap.size, 0, none⟩ = some (.string (bs h)) ∧ w'.cell? ⟨w1.heap.size, 1, none⟩ = some (.string (bs l))) ∧ (w'.cell? ⟨w1.heap.size + 1, 0, none⟩ = some (.string (bs h')) ∧ w'.cell? ⟨w1.heap.size + 1, 1, none⟩ = some (.string (bs l'))) ∧ (w'.cell? ⟨w4.heap.size, 0, none⟩ = some (.string (bs X)) ∧ w'.cell? ⟨w4.heap.size, 1, none⟩ = some (.string (bs U))) ∧ (w'.cell? ⟨w8.heap.size, 0, none⟩ = some (.string (bs Y)) ∧ w'.cell? ⟨w8.heap.size, 1, none⟩ = some (.string (bs V))))) (by kernel_rfl) ?_ (fun hHeld => ?_)
              · try dsimp only
                refine kp4 s_12 t_12 x_12 y_12 ?_; go_grown
              refine wpAnyH_take (i := 0) (oi := { dst := some 100, op := Go.Op.load 24 (Go.Operand.tmp 5), type := 24, pos := "laws.go:1679", after := #[], guard := none }) (v := ?_) rfl (by kernel_rfl) (by kernel_rfl) (by kernel_rfl) (fun _ _ _ h => h) (Or.inl ⟨by rfl, ?_⟩) (by assumption) ?_
              rotate_left
              · (intro w hSw; (try dsimp only at hSw); first | (go_simp; done) | (go_simp; with_reducible rfl))
              try simp only [Act.put, List.setIfInBounds_toArray, List.set_cons_zero, List.set_cons_succ]
              refine wpAnyH_take (i := 1) (oi := { dst := some 101, op := Go.Op.move (Go.Operand.tmp 13), type := 3, pos := "laws.go:1679", after := #[], guard := none }) (v := ?_) rfl (by kernel_rfl) (by kernel_rfl) (by kernel_rfl) (fun _ _ _ h => h) (Or.inl ⟨by rfl, ?_⟩) (by assumption) ?_
              rotate_left
              · (intro w hSw; (try dsimp only at hSw); first | (go_simp; done) | (go_simp; with_reducible rfl))
              try simp only [Act.put, List.setIfInBounds_toArray, List.set_cons_zero, List.set_cons_succ]
              refine wpAnyH_take (i := 3) (oi := { dst := some 103, op := Go.Op.load 24 (Go.Operand.tmp 3), type := 24, pos := "laws.go:1679", after := #[], guard := none }) (v := ?_) rfl (by kernel_rfl) (by kernel_rfl) (by kernel_rfl) (fun _ _ _ h => h) (Or.inl ⟨by rfl, ?_⟩) (by assumption) ?_
              rotate_left
              · (intro w hSw; (try dsimp only at hSw); first | (go_simp; done) | (go_simp; with_reducible rfl))
              try simp only [Act.put, List.setIfInBounds_toArray, List.set_cons_zero, List.set_cons_succ]
              refine wpAnyH_take (i := 4) (oi := { dst := some 104, op := Go.Op.move (Go.Operand.tmp 13), type := 3, pos := "laws.go:1679", after := #[], guard := none }) (v := ?_) rfl (by kernel_rfl) (by kernel_rfl) (by kernel_rfl) (fun _ _ _ h => h) (Or.inl ⟨by rfl, ?_⟩) (by assumption) ?_
              rotate_left
              · (intro w hSw; (try dsimp only at hSw); first | (go_simp; done) | (go_simp; with_reducible rfl))
              try simp only [Act.put, List.setIfInBounds_toArray, List.set_cons_zero, List.set_cons_succ]
              refine wpAnyH_ready (rs := [2]) (by kernel_rfl) (by simp) ?_
              refine AllReadyH.cons (o := { dst := some 102, op := Go.Op.call { callee := Go.Callee.value (Go.Operand.func 16), args := #[Go.Operand.tmp 100, Go.Operand.tmp 101], argTypes := #[24, 3] }, type := 4, pos := "laws.go:1679", after := #[{ on := 0, ground := Go.Ground.data }, { on := 1, ground := Go.Ground.data }], guard := none }) rfl (fun K hK => ?_) AllReadyH.nil
              go_simp
              (go_at_call 16; (first | (with_reducible refine (P1.out _).mono ?_) | (with_reducible refine (P2.out _).mono ?_) | (with_reducible refine (P3.out _).mono ?_) | (with_reducible refine (P4.out _).mono ?_)); rintro e w13 ⟨rfl, hb4⟩; have hbb4 := below_on (w := wr) (by go_grown) hb4)
              (try go_wp2_with fail)
              refine hK.out _ _ ?_ (fun hHeld => ?_)
              · try dsimp only
                refine kp4 s_12 t_12 x_12 y_12 ?_; go_grown
              clear hK K
              try simp only [Act.put, List.setIfInBounds_toArray, List.set_cons_zero, List.set_cons_succ]
              refine wpAnyH_ready (rs := [5]) (by kernel_rfl) (by simp) ?_
              refine AllReadyH.cons (o := { dst := some 105, op := Go.Op.call { callee := Go.Callee.value (Go.Operand.func 16), args := #[Go.Operand.tmp 103, Go.Operand.tmp 104], argTypes := #[24, 3] }, type := 4, pos := "laws.go:1679", after := #[{ on := 3, ground := Go.Ground.data }, { on := 4, ground := Go.Ground.data }, { on := 2, ground := Go.Ground.chain }], guard := none }) rfl (fun K hK => ?_) AllReadyH.nil
              go_simp
              (go_at_call 16; (first | (with_reducible refine (P1.out _).mono ?_) | (with_reducible refine (P2.out _).mono ?_) | (with_reducible refine (P3.out _).mono ?_) | (with_reducible refine (P4.out _).mono ?_)); rintro e w13 ⟨rfl, hb4⟩; have hbb4 := below_on (w := wr) (by go_grown) hb4)
              (try go_wp2_with fail)
              refine hK.out _ _ ?_ (fun hHeld => ?_)
              · try dsimp only
                refine kp4 s_12 t_12 x_12 y_12 ?_; go_grown
              clear hK K
              try simp only [Act.put, List.setIfInBounds_toArray, List.set_cons_zero, List.set_cons_succ]
              refine wpAnyH_take (i := 6) (oi := { dst := some 106, op := Go.Op.move (Go.Operand.tmp 105), type := 4, pos := "laws.go:1679", after := #[{ on := 5, ground := Go.Ground.data }, { on := 5, ground := Go.Ground.chain }], guard := none }) (v := ?_) rfl (by kernel_rfl) (by kernel_rfl) (by kernel_rfl) (fun _ _ _ h => h) (Or.inl ⟨by rfl, ?_⟩) (by assumption) ?_
              rotate_left
              · (intro w hSw; (try dsimp only at hSw); first | (go_simp; done) | (go_simp; with_reducible rfl))
              try simp only [Act.put, List.setIfInBounds_toArray, List.set_cons_zero, List.set_cons_succ]
              refine wpAnyH_take (i := 7) (oi := { dst := some 107, op := Go.Op.load 24 (Go.Operand.tmp 4), type := 24, pos := "laws.go:1679", after := #[{ on := 6, ground := Go.Ground.guard }], guard := some (6, false) }) (v := undef) rfl (by kernel_rfl) (by kernel_rfl) (by kernel_rfl) (fun _ _ _ h => h) (Or.inr ⟨by rfl, rfl⟩) (by assumption) ?_
              try simp only [Act.put, List.setIfInBounds_toArray, List.set_cons_zero, List.set_cons_succ]
              refine wpAnyH_take (i := 8) (oi := { dst := some 108, op := Go.Op.move (Go.Operand.tmp 13), type := 3, pos := "laws.go:1679", after := #[{ on := 6, ground := Go.Ground.guard }], guard := some (6, false) }) (v := undef) rfl (by kernel_rfl) (by kernel_rfl) (by kernel_rfl) (fun _ _ _ h => h) (Or.inr ⟨by rfl, rfl⟩) (by assumption) ?_
              try simp only [Act.put, List.setIfInBounds_toArray, List.set_cons_zero, List.set_cons_succ]
              refine wpAnyH_take (i := 9) (oi := { dst := some 109, op := Go.Op.call { callee := Go.Callee.value (Go.Operand.func 16), args := #[Go.Operand.tmp 107, Go.Operand.tmp 108], argTypes := #[24, 3] }, type := 4, pos := "laws.go:1679", after := #[{ on := 7, ground := Go.Ground.data }, { on := 8, ground := Go.Ground.data }, { on := 6, ground := Go.Ground.chain }, { on := 6, ground := Go.Ground.guard }], guard := some (6, false) }) (v := undef) rfl (by kernel_rfl) (by kernel_rfl) (by kernel_rfl) (fun _ _ _ h => h) (Or.inr ⟨by rfl, rfl⟩) (by assumption) ?_
              try simp only [Act.put, List.setIfInBounds_toArray, List.set_cons_zero, List.set_cons_succ]
              refine wpAnyH_take (i := 10) (oi := { dst := some 110, op := Go.Op.pick (Go.Operand.tmp 106) (Go.Operand.const (Go.Value.bool true)) (Go.Operand.tmp 109), type := 4, pos := "laws.go:1679", after := #[{ on := 6, ground := Go.Ground.data }, { on := 9, ground := Go.Ground.data }], guard := none }) (v := ?_) rfl (by kernel_rfl) (by kernel_rfl) (by kernel_rfl) (fun _ _ _ h => h) (Or.inl ⟨by rfl, ?_⟩) (by assumption) ?_
              rotate_left
              · (intro w hSw; (try dsimp only at hSw); first | (go_simp; done) | (go_simp; with_reducible rfl))
              try simp only [Act.put, List.setIfInBounds_toArray, List.set_cons_zero, List.set_cons_succ]
              refine wpAnyH_take (i := 11) (oi := { dst := some 111, op := Go.Op.binOp Go.BinOp.neq 4 (Go.Operand.tmp 102) (Go.Operand.tmp 110) 4, type := 4, pos := "laws.go:1679", after := #[{ on := 2, ground := Go.Ground.data }, { on := 10, ground := Go.Ground.data }], guard := none }) (v := ?_) rfl (by kernel_rfl) (by kernel_rfl) (by kernel_rfl) (fun _ _ _ h => h) (Or.inl ⟨by rfl, ?_⟩) (by assumption) ?_
              rotate_left
              · (intro w hSw; (try dsimp only at hSw); first | (go_simp; done) | (go_simp; with_reducible rfl))
              try simp only [Act.put, List.setIfInBounds_toArray, List.set_cons_zero, List.set_cons_succ]
              refine wpAnyH_take (i := 12) (oi := { dst := some 112, op := Go.Op.move (Go.Operand.tmp 111), type := 4, pos := "laws.go:1679", after := #[{ on := 11, ground := Go.Ground.data }, { on := 9, ground := Go.Ground.chain }], guard := none }) (v := ?_) rfl (by kernel_rfl) (by kernel_rfl) (by kernel_rfl) (fun _ _ _ h => h) (Or.inl ⟨by rfl, ?_⟩) (by assumption) ?_
              rotate_left
              · (intro w hSw; (try dsimp only at hSw); first | (go_simp; done) | (go_simp; with_reducible rfl))
              try simp only [Act.put, List.setIfInBounds_toArray, List.set_cons_zero, List.set_cons_succ]
              refine wpAnyH_take (i := 13) (oi := { dst := some 113, op := Go.Op.load 24 (Go.Operand.tmp 9), type := 24, pos := "laws.go:1679", after := #[{ on := 12, ground := Go.Ground.guard }], guard := some (12, false) }) (v := ?_) rfl (by kernel_rfl) (by kernel_rfl) (by kernel_rfl) (fun _ _ _ h => h) (Or.inl ⟨by rfl, ?_⟩) (by assumption) ?_
              rotate_left
              · (intro w hSw; (try dsimp only at hSw); first | (go_simp; done) | (go_simp; with_reducible rfl))
              try simp only [Act.put, List.setIfInBounds_toArray, List.set_cons_zero, List.set_cons_succ]
              refine wpAnyH_take (i := 14) (oi := { dst := some 114, op := Go.Op.move (Go.Operand.tmp 13), type := 3, pos := "laws.go:1679", after := #[{ on := 12, ground := Go.Ground.guard }], guard := some (12, false) }) (v := ?_) rfl (by kernel_rfl) (by kernel_rfl) (by kernel_rfl) (fun _ _ _ h => h) (Or.inl ⟨by rfl, ?_⟩) (by assumption) ?_
              rotate_left
              · (intro w hSw; (try dsimp only at hSw); first | (go_simp; done) | (go_simp; with_reducible rfl))
              try simp only [Act.put, List.setIfInBounds_toArray, List.set_cons_zero, List.set_cons_succ]
              refine wpAnyH_take (i := 16) (oi := { dst := some 116, op := Go.Op.load 24 (Go.Operand.tmp 3), type := 24, pos := "laws.go:1679", after := #[{ on := 12, ground := Go.Ground.guard }], guard := some (12, false) }) (v := ?_) rfl (by kernel_rfl) (by kernel_rfl) (by kernel_rfl) (fun _ _ _ h => h) (Or.inl ⟨by rfl, ?_⟩) (by assumption) ?_
              rotate_left
              · (intro w hSw; (try dsimp only at hSw); first | (go_simp; done) | (go_simp; with_reducible rfl))
              try simp only [Act.put, List.setIfInBounds_toArray, List.set_cons_zero, List.set_cons_succ]
              refine wpAnyH_take (i := 17) (oi := { dst := some 117, op := Go.Op.move (Go.Operand.tmp 13), type := 3, pos := "laws.go:1679", after := #[{ on := 12, ground := Go.Ground.guard }], guard := some (12, false) }) (v := ?_) rfl (by kernel_rfl) (by kernel_rfl) (by kernel_rfl) (fun _ _ _ h => h) (Or.inl ⟨by rfl, ?_⟩) (by assumption) ?_
              rotate_left
              · (intro w hSw; (try dsimp only at hSw); first | (go_simp; done) | (go_simp; with_reducible rfl))
              try simp only [Act.put, List.setIfInBounds_toArray, List.set_cons_zero, List.set_cons_succ]
              refine wpAnyH_ready (rs := [15]) (by kernel_rfl) (by simp) ?_
              refine AllReadyH.cons (o := { dst := some 115, op := Go.Op.call { callee := Go.Callee.value (Go.Operand.func 16), args := #[Go.Operand.tmp 113, Go.Operand.tmp 114], argTypes := #[24, 3] }, type := 4, pos := "laws.go:1679", after := #[{ on := 13, ground := Go.Ground.data }, { on := 14, ground := Go.Ground.data }, { on := 12, ground := Go.Ground.chain }, { on := 12, ground := Go.Ground.guard }], guard := some (12, false) }) rfl (fun K hK => ?_) AllReadyH.nil
              go_simp
              (go_at_call 16; (first | (with_reducible refine (P1.out _).mono ?_) | (with_reducible refine (P2.out _).mono ?_) | (with_reducible refine (P3.out _).mono ?_) | (with_reducible refine (P4.out _).mono ?_)); rintro e w13 ⟨rfl, hb4⟩; have hbb4 := below_on (w := wr) (by go_grown) hb4)
              (try go_wp2_with fail)
              refine hK.out _ _ ?_ (fun hHeld => ?_)
              · try dsimp only
                refine kp4 s_12 t_12 x_12 y_12 ?_; go_grown
              clear hK K
              try simp only [Act.put, List.setIfInBounds_toArray, List.set_cons_zero, List.set_cons_succ]
              refine wpAnyH_ready (rs := [18]) (by kernel_rfl) (by simp) ?_
              refine AllReadyH.cons (o := { dst := some 118, op := Go.Op.call { callee := Go.Callee.value (Go.Operand.func 16), args := #[Go.Operand.tmp 116, Go.Operand.tmp 117], argTypes := #[24, 3] }, type := 4, pos := "laws.go:1679", after := #[{ on := 16, ground := Go.Ground.data }, { on := 17, ground := Go.Ground.data }, { on := 15, ground := Go.Ground.chain }, { on := 12, ground := Go.Ground.guard }], guard := some (12, false) }) rfl (fun K hK => ?_) AllReadyH.nil
              go_simp
              (go_at_call 16; (first | (with_reducible refine (P1.out _).mono ?_) | (with_reducible refine (P2.out _).mono ?_) | (with_reducible refine (P3.out _).mono ?_) | (with_reducible refine (P4.out _).mono ?_)); rintro e w13 ⟨rfl, hb4⟩; have hbb4 := below_on (w := wr) (by go_grown) hb4)
              (try go_wp2_with fail)
              refine hK.out _ _ ?_ (fun hHeld => ?_)
              · try dsimp only
                refine kp4 s_12 t_12 x_12 y_12 ?_; go_grown
              clear hK K
              try simp only [Act.put, List.setIfInBounds_toArray, List.set_cons_zero, List.set_cons_succ]
              refine wpAnyH_take (i := 19) (oi := { dst := some 119, op := Go.Op.move (Go.Operand.tmp 118), type := 4, pos := "laws.go:1679", after := #[{ on := 18, ground := Go.Ground.data }, { on := 18, ground := Go.Ground.chain }, { on := 12, ground := Go.Ground.guard }], guard := some (12, false) }) (v := ?_) rfl (by kernel_rfl) (by kernel_rfl) (by kernel_rfl) (fun _ _ _ h => h) (Or.inl ⟨by rfl, ?_⟩) (by assumption) ?_
              rotate_left
              · (intro w hSw; (try dsimp only at hSw); first | (go_simp; done) | (go_simp; with_reducible rfl))
              try simp only [Act.put, List.setIfInBounds_toArray, List.set_cons_zero, List.set_cons_succ]
              refine wpAnyH_take (i := 20) (oi := { dst := some 120, op := Go.Op.load 24 (Go.Operand.tmp 4), type := 24, pos := "laws.go:1679", after := #[{ on := 19, ground := Go.Ground.guard }], guard := some (19, true) }) (v := ?_) rfl (by kernel_rfl) (by kernel_rfl) (by kernel_rfl) (fun _ _ _ h => h) (Or.inl ⟨by rfl, ?_⟩) (by assumption) ?_
              rotate_left
              · (intro w hSw; (try dsimp only at hSw); first | (go_simp; done) | (go_simp; with_reducible rfl))
              try simp only [Act.put, List.setIfInBounds_toArray, List.set_cons_zero, List.set_cons_succ]
              refine wpAnyH_take (i := 21) (oi := { dst := some 121, op := Go.Op.move (Go.Operand.tmp 13), type := 3, pos := "laws.go:1679", after := #[{ on := 19, ground := Go.Ground.guard }], guard := some (19, true) }) (v := ?_) rfl (by kernel_rfl) (by kernel_rfl) (by kernel_rfl) (fun _ _ _ h => h) (Or.inl ⟨by rfl, ?_⟩) (by assumption) ?_
              rotate_left
              · (intro w hSw; (try dsimp only at hSw); first | (go_simp; done) | (go_simp; with_reducible rfl))
              try simp only [Act.put, List.setIfInBounds_toArray, List.set_cons_zero, List.set_cons_succ]
              refine wpAnyH_ready (rs := [22]) (by kernel_rfl) (by simp) ?_
              refine AllReadyH.cons (o := { dst := some 122, op := Go.Op.call { callee := Go.Callee.value (Go.Operand.func 16), args := #[Go.Operand.tmp 120, Go.Operand.tmp 121], argTypes := #[24, 3] }, type := 4, pos := "laws.go:1679", after := #[{ on := 20, ground := Go.Ground.data }, { on := 21, ground := Go.Ground.data }, { on := 19, ground := Go.Ground.chain }, { on := 19, ground := Go.Ground.guard }], guard := some (19, true) }) rfl (fun K hK => ?_) AllReadyH.nil
              go_simp
              (go_at_call 16; (first | (with_reducible refine (P1.out _).mono ?_) | (with_reducible refine (P2.out _).mono ?_) | (with_reducible refine (P3.out _).mono ?_) | (with_reducible refine (P4.out _).mono ?_)); rintro e w13 ⟨rfl, hb4⟩; have hbb4 := below_on (w := wr) (by go_grown) hb4)
              (try go_wp2_with fail)
              refine hK.out _ _ ?_ (fun hHeld => ?_)
              · try dsimp only
                refine kp4 s_12 t_12 x_12 y_12 ?_; go_grown
              clear hK K
              try simp only [Act.put, List.setIfInBounds_toArray, List.set_cons_zero, List.set_cons_succ]
              refine wpAnyH_take (i := 23) (oi := { dst := some 123, op := Go.Op.pick (Go.Operand.tmp 119) (Go.Operand.tmp 122) (Go.Operand.const (Go.Value.bool false)), type := 4, pos := "laws.go:1679", after := #[{ on := 19, ground := Go.Ground.data }, { on := 22, ground := Go.Ground.data }, { on := 12, ground := Go.Ground.guard }], guard := some (12, false) }) (v := ?_) rfl (by kernel_rfl) (by kernel_rfl) (by kernel_rfl) (fun _ _ _ h => h) (Or.inl ⟨by rfl, ?_⟩) (by assumption) ?_
              rotate_left
              · (intro w hSw; (try dsimp only at hSw); first | (go_simp; done) | (go_simp; with_reducible rfl))
              try simp only [Act.put, List.setIfInBounds_toArray, List.set_cons_zero, List.set_cons_succ]
              refine wpAnyH_take (i := 24) (oi := { dst := some 124, op := Go.Op.binOp Go.BinOp.neq 4 (Go.Operand.tmp 115) (Go.Operand.tmp 123) 4, type := 4, pos := "laws.go:1679", after := #[{ on := 15, ground := Go.Ground.data }, { on := 23, ground := Go.Ground.data }, { on := 12, ground := Go.Ground.guard }], guard := some (12, false) }) (v := ?_) rfl (by kernel_rfl) (by kernel_rfl) (by kernel_rfl) (fun _ _ _ h => h) (Or.inl ⟨by rfl, ?_⟩) (by assumption) ?_
              rotate_left
              · (intro w hSw; (try dsimp only at hSw); first | (go_simp; done) | (go_simp; with_reducible rfl))
              try simp only [Act.put, List.setIfInBounds_toArray, List.set_cons_zero, List.set_cons_succ]
              refine wpAnyH_take (i := 25) (oi := { dst := some 125, op := Go.Op.pick (Go.Operand.tmp 112) (Go.Operand.const (Go.Value.bool true)) (Go.Operand.tmp 124), type := 4, pos := "laws.go:1679", after := #[{ on := 12, ground := Go.Ground.data }, { on := 24, ground := Go.Ground.data }], guard := none }) (v := ?_) rfl (by kernel_rfl) (by kernel_rfl) (by kernel_rfl) (fun _ _ _ h => h) (Or.inl ⟨by rfl, ?_⟩) (by assumption) ?_
              rotate_left
              · (intro w hSw; (try dsimp only at hSw); first | (go_simp; done) | (go_simp; with_reducible rfl))
              try simp only [Act.put, List.setIfInBounds_toArray, List.set_cons_zero, List.set_cons_succ]
              refine wpAnyH_done (by kernel_rfl) ?_ _
              have hk := hHeld.1
              clear hHeld
              have k14 := below_on k12 hk
              have s_14 := s2_on s_12 hk
              have t_14 := s2_on t_12 hk
              have x_14 := s2_on x_12 hk
              have y_14 := s2_on y_12 hk
              clear k12 s_12 t_12 x_12 y_12
              clear hk
              go_wp2
              go_roundw
              case rel => exact ⟨k + 1, rfl, by omega, s_14, t_14, x_14, y_14, k14⟩
              case measure => simp [intOf]; omega
            · skip
              have P1 := Lib.hid fun w => pbIn_is X U k true w z4 z5 (by omega) (by omega) (hX)
              have P2 := Lib.hid fun w => pbIn_is Y V k true w z6 z7 (by omega) (by omega) (hY)
              have P3 := Lib.hid fun w => pbIn_is h l k true w z0 z1 (by omega) (by omega) (hp)
              have P4 := Lib.hid fun w => pbIn_is h' l' k true w z2 z3 (by omega) (by omega) (hq)
              clear hX hY hp hq
              go_upto_region 13 with fail
              refine wp_region_held_drew (S := (fun w' => Below wr.heap.size wr w' ∧ (w'.cell? ⟨w1.heap.size, 0, none⟩ = some (.string (bs h)) ∧ w'.cell? ⟨w1.heap.size, 1, none⟩ = some (.string (bs l))) ∧ (w'.cell? ⟨w1.heap.size + 1, 0, none⟩ = some (.string (bs h')) ∧ w'.cell? ⟨w1.heap.size + 1, 1, none⟩ = some (.string (bs l'))) ∧ (w'.cell? ⟨w4.heap.size, 0, none⟩ = some (.string (bs X)) ∧ w'.cell? ⟨w4.heap.size, 1, none⟩ = some (.string (bs U))) ∧ (w'.cell? ⟨w8.heap.size, 0, none⟩ = some (.string (bs Y)) ∧ w'.cell? ⟨w8.heap.size, 1, none⟩ = some (.string (bs V))))) (by kernel_rfl) ?_ (fun hHeld => ?_)
              · try dsimp only
                refine kp4 s_12 t_12 x_12 y_12 ?_; go_grown
              refine wpAnyH_take (i := 0) (oi := { dst := some 100, op := Go.Op.load 24 (Go.Operand.tmp 5), type := 24, pos := "laws.go:1679", after := #[], guard := none }) (v := ?_) rfl (by kernel_rfl) (by kernel_rfl) (by kernel_rfl) (fun _ _ _ h => h) (Or.inl ⟨by rfl, ?_⟩) (by assumption) ?_
              rotate_left
              · (intro w hSw; (try dsimp only at hSw); first | (go_simp; done) | (go_simp; with_reducible rfl))
              try simp only [Act.put, List.setIfInBounds_toArray, List.set_cons_zero, List.set_cons_succ]
              refine wpAnyH_take (i := 1) (oi := { dst := some 101, op := Go.Op.move (Go.Operand.tmp 13), type := 3, pos := "laws.go:1679", after := #[], guard := none }) (v := ?_) rfl (by kernel_rfl) (by kernel_rfl) (by kernel_rfl) (fun _ _ _ h => h) (Or.inl ⟨by rfl, ?_⟩) (by assumption) ?_
              rotate_left
              · (intro w hSw; (try dsimp only at hSw); first | (go_simp; done) | (go_simp; with_reducible rfl))
              try simp only [Act.put, List.setIfInBounds_toArray, List.set_cons_zero, List.set_cons_succ]
              refine wpAnyH_take (i := 3) (oi := { dst := some 103, op := Go.Op.load 24 (Go.Operand.tmp 3), type := 24, pos := "laws.go:1679", after := #[], guard := none }) (v := ?_) rfl (by kernel_rfl) (by kernel_rfl) (by kernel_rfl) (fun _ _ _ h => h) (Or.inl ⟨by rfl, ?_⟩) (by assumption) ?_
              rotate_left
              · (intro w hSw; (try dsimp only at hSw); first | (go_simp; done) | (go_simp; with_reducible rfl))
              try simp only [Act.put, List.setIfInBounds_toArray, List.set_cons_zero, List.set_cons_succ]
              refine wpAnyH_take (i := 4) (oi := { dst := some 104, op := Go.Op.move (Go.Operand.tmp 13), type := 3, pos := "laws.go:1679", after := #[], guard := none }) (v := ?_) rfl (by kernel_rfl) (by kernel_rfl) (by kernel_rfl) (fun _ _ _ h => h) (Or.inl ⟨by rfl, ?_⟩) (by assumption) ?_
              rotate_left
              · (intro w hSw; (try dsimp only at hSw); first | (go_simp; done) | (go_simp; with_reducible rfl))
              try simp only [Act.put, List.setIfInBounds_toArray, List.set_cons_zero, List.set_cons_succ]
              refine wpAnyH_ready (rs := [2]) (by kernel_rfl) (by simp) ?_
              refine AllReadyH.cons (o := { dst := some 102, op := Go.Op.call { callee := Go.Callee.value (Go.Operand.func 16), args := #[Go.Operand.tmp 100, Go.Operand.tmp 101], argTypes := #[24, 3] }, type := 4, pos := "laws.go:1679", after := #[{ on := 0, ground := Go.Ground.data }, { on := 1, ground := Go.Ground.data }], guard := none }) rfl (fun K hK => ?_) AllReadyH.nil
              go_simp
              (go_at_call 16; (first | (with_reducible refine (P1.out _).mono ?_) | (with_reducible refine (P2.out _).mono ?_) | (with_reducible refine (P3.out _).mono ?_) | (with_reducible refine (P4.out _).mono ?_)); rintro e w13 ⟨rfl, hb4⟩; have hbb4 := below_on (w := wr) (by go_grown) hb4)
              (try go_wp2_with fail)
              refine hK.out _ _ ?_ (fun hHeld => ?_)
              · try dsimp only
                refine kp4 s_12 t_12 x_12 y_12 ?_; go_grown
              clear hK K
              try simp only [Act.put, List.setIfInBounds_toArray, List.set_cons_zero, List.set_cons_succ]
              refine wpAnyH_ready (rs := [5]) (by kernel_rfl) (by simp) ?_
              refine AllReadyH.cons (o := { dst := some 105, op := Go.Op.call { callee := Go.Callee.value (Go.Operand.func 16), args := #[Go.Operand.tmp 103, Go.Operand.tmp 104], argTypes := #[24, 3] }, type := 4, pos := "laws.go:1679", after := #[{ on := 3, ground := Go.Ground.data }, { on := 4, ground := Go.Ground.data }, { on := 2, ground := Go.Ground.chain }], guard := none }) rfl (fun K hK => ?_) AllReadyH.nil
              go_simp
              (go_at_call 16; (first | (with_reducible refine (P1.out _).mono ?_) | (with_reducible refine (P2.out _).mono ?_) | (with_reducible refine (P3.out _).mono ?_) | (with_reducible refine (P4.out _).mono ?_)); rintro e w13 ⟨rfl, hb4⟩; have hbb4 := below_on (w := wr) (by go_grown) hb4)
              (try go_wp2_with fail)
              refine hK.out _ _ ?_ (fun hHeld => ?_)
              · try dsimp only
                refine kp4 s_12 t_12 x_12 y_12 ?_; go_grown
              clear hK K
              try simp only [Act.put, List.setIfInBounds_toArray, List.set_cons_zero, List.set_cons_succ]
              refine wpAnyH_take (i := 6) (oi := { dst := some 106, op := Go.Op.move (Go.Operand.tmp 105), type := 4, pos := "laws.go:1679", after := #[{ on := 5, ground := Go.Ground.data }, { on := 5, ground := Go.Ground.chain }], guard := none }) (v := ?_) rfl (by kernel_rfl) (by kernel_rfl) (by kernel_rfl) (fun _ _ _ h => h) (Or.inl ⟨by rfl, ?_⟩) (by assumption) ?_
              rotate_left
              · (intro w hSw; (try dsimp only at hSw); first | (go_simp; done) | (go_simp; with_reducible rfl))
              try simp only [Act.put, List.setIfInBounds_toArray, List.set_cons_zero, List.set_cons_succ]
              refine wpAnyH_take (i := 7) (oi := { dst := some 107, op := Go.Op.load 24 (Go.Operand.tmp 4), type := 24, pos := "laws.go:1679", after := #[{ on := 6, ground := Go.Ground.guard }], guard := some (6, false) }) (v := undef) rfl (by kernel_rfl) (by kernel_rfl) (by kernel_rfl) (fun _ _ _ h => h) (Or.inr ⟨by rfl, rfl⟩) (by assumption) ?_
              try simp only [Act.put, List.setIfInBounds_toArray, List.set_cons_zero, List.set_cons_succ]
              refine wpAnyH_take (i := 8) (oi := { dst := some 108, op := Go.Op.move (Go.Operand.tmp 13), type := 3, pos := "laws.go:1679", after := #[{ on := 6, ground := Go.Ground.guard }], guard := some (6, false) }) (v := undef) rfl (by kernel_rfl) (by kernel_rfl) (by kernel_rfl) (fun _ _ _ h => h) (Or.inr ⟨by rfl, rfl⟩) (by assumption) ?_
              try simp only [Act.put, List.setIfInBounds_toArray, List.set_cons_zero, List.set_cons_succ]
              refine wpAnyH_take (i := 9) (oi := { dst := some 109, op := Go.Op.call { callee := Go.Callee.value (Go.Operand.func 16), args := #[Go.Operand.tmp 107, Go.Operand.tmp 108], argTypes := #[24, 3] }, type := 4, pos := "laws.go:1679", after := #[{ on := 7, ground := Go.Ground.data }, { on := 8, ground := Go.Ground.data }, { on := 6, ground := Go.Ground.chain }, { on := 6, ground := Go.Ground.guard }], guard := some (6, false) }) (v := undef) rfl (by kernel_rfl) (by kernel_rfl) (by kernel_rfl) (fun _ _ _ h => h) (Or.inr ⟨by rfl, rfl⟩) (by assumption) ?_
              try simp only [Act.put, List.setIfInBounds_toArray, List.set_cons_zero, List.set_cons_succ]
              refine wpAnyH_take (i := 10) (oi := { dst := some 110, op := Go.Op.pick (Go.Operand.tmp 106) (Go.Operand.const (Go.Value.bool true)) (Go.Operand.tmp 109), type := 4, pos := "laws.go:1679", after := #[{ on := 6, ground := Go.Ground.data }, { on := 9, ground := Go.Ground.data }], guard := none }) (v := ?_) rfl (by kernel_rfl) (by kernel_rfl) (by kernel_rfl) (fun _ _ _ h => h) (Or.inl ⟨by rfl, ?_⟩) (by assumption) ?_
              rotate_left
              · (intro w hSw; (try dsimp only at hSw); first | (go_simp; done) | (go_simp; with_reducible rfl))
              try simp only [Act.put, List.setIfInBounds_toArray, List.set_cons_zero, List.set_cons_succ]
              refine wpAnyH_take (i := 11) (oi := { dst := some 111, op := Go.Op.binOp Go.BinOp.neq 4 (Go.Operand.tmp 102) (Go.Operand.tmp 110) 4, type := 4, pos := "laws.go:1679", after := #[{ on := 2, ground := Go.Ground.data }, { on := 10, ground := Go.Ground.data }], guard := none }) (v := ?_) rfl (by kernel_rfl) (by kernel_rfl) (by kernel_rfl) (fun _ _ _ h => h) (Or.inl ⟨by rfl, ?_⟩) (by assumption) ?_
              rotate_left
              · (intro w hSw; (try dsimp only at hSw); first | (go_simp; done) | (go_simp; with_reducible rfl))
              try simp only [Act.put, List.setIfInBounds_toArray, List.set_cons_zero, List.set_cons_succ]
              refine wpAnyH_take (i := 12) (oi := { dst := some 112, op := Go.Op.move (Go.Operand.tmp 111), type := 4, pos := "laws.go:1679", after := #[{ on := 11, ground := Go.Ground.data }, { on := 9, ground := Go.Ground.chain }], guard := none }) (v := ?_) rfl (by kernel_rfl) (by kernel_rfl) (by kernel_rfl) (fun _ _ _ h => h) (Or.inl ⟨by rfl, ?_⟩) (by assumption) ?_
              rotate_left
              · (intro w hSw; (try dsimp only at hSw); first | (go_simp; done) | (go_simp; with_reducible rfl))
              try simp only [Act.put, List.setIfInBounds_toArray, List.set_cons_zero, List.set_cons_succ]
              refine wpAnyH_take (i := 13) (oi := { dst := some 113, op := Go.Op.load 24 (Go.Operand.tmp 9), type := 24, pos := "laws.go:1679", after := #[{ on := 12, ground := Go.Ground.guard }], guard := some (12, false) }) (v := ?_) rfl (by kernel_rfl) (by kernel_rfl) (by kernel_rfl) (fun _ _ _ h => h) (Or.inl ⟨by rfl, ?_⟩) (by assumption) ?_
              rotate_left
              · (intro w hSw; (try dsimp only at hSw); first | (go_simp; done) | (go_simp; with_reducible rfl))
              try simp only [Act.put, List.setIfInBounds_toArray, List.set_cons_zero, List.set_cons_succ]
              refine wpAnyH_take (i := 14) (oi := { dst := some 114, op := Go.Op.move (Go.Operand.tmp 13), type := 3, pos := "laws.go:1679", after := #[{ on := 12, ground := Go.Ground.guard }], guard := some (12, false) }) (v := ?_) rfl (by kernel_rfl) (by kernel_rfl) (by kernel_rfl) (fun _ _ _ h => h) (Or.inl ⟨by rfl, ?_⟩) (by assumption) ?_
              rotate_left
              · (intro w hSw; (try dsimp only at hSw); first | (go_simp; done) | (go_simp; with_reducible rfl))
              try simp only [Act.put, List.setIfInBounds_toArray, List.set_cons_zero, List.set_cons_succ]
              refine wpAnyH_take (i := 16) (oi := { dst := some 116, op := Go.Op.load 24 (Go.Operand.tmp 3), type := 24, pos := "laws.go:1679", after := #[{ on := 12, ground := Go.Ground.guard }], guard := some (12, false) }) (v := ?_) rfl (by kernel_rfl) (by kernel_rfl) (by kernel_rfl) (fun _ _ _ h => h) (Or.inl ⟨by rfl, ?_⟩) (by assumption) ?_
              rotate_left
              · (intro w hSw; (try dsimp only at hSw); first | (go_simp; done) | (go_simp; with_reducible rfl))
              try simp only [Act.put, List.setIfInBounds_toArray, List.set_cons_zero, List.set_cons_succ]
              refine wpAnyH_take (i := 17) (oi := { dst := some 117, op := Go.Op.move (Go.Operand.tmp 13), type := 3, pos := "laws.go:1679", after := #[{ on := 12, ground := Go.Ground.guard }], guard := some (12, false) }) (v := ?_) rfl (by kernel_rfl) (by kernel_rfl) (by kernel_rfl) (fun _ _ _ h => h) (Or.inl ⟨by rfl, ?_⟩) (by assumption) ?_
              rotate_left
              · (intro w hSw; (try dsimp only at hSw); first | (go_simp; done) | (go_simp; with_reducible rfl))
              try simp only [Act.put, List.setIfInBounds_toArray, List.set_cons_zero, List.set_cons_succ]
              refine wpAnyH_ready (rs := [15]) (by kernel_rfl) (by simp) ?_
              refine AllReadyH.cons (o := { dst := some 115, op := Go.Op.call { callee := Go.Callee.value (Go.Operand.func 16), args := #[Go.Operand.tmp 113, Go.Operand.tmp 114], argTypes := #[24, 3] }, type := 4, pos := "laws.go:1679", after := #[{ on := 13, ground := Go.Ground.data }, { on := 14, ground := Go.Ground.data }, { on := 12, ground := Go.Ground.chain }, { on := 12, ground := Go.Ground.guard }], guard := some (12, false) }) rfl (fun K hK => ?_) AllReadyH.nil
              go_simp
              (go_at_call 16; (first | (with_reducible refine (P1.out _).mono ?_) | (with_reducible refine (P2.out _).mono ?_) | (with_reducible refine (P3.out _).mono ?_) | (with_reducible refine (P4.out _).mono ?_)); rintro e w13 ⟨rfl, hb4⟩; have hbb4 := below_on (w := wr) (by go_grown) hb4)
              (try go_wp2_with fail)
              refine hK.out _ _ ?_ (fun hHeld => ?_)
              · try dsimp only
                refine kp4 s_12 t_12 x_12 y_12 ?_; go_grown
              clear hK K
              try simp only [Act.put, List.setIfInBounds_toArray, List.set_cons_zero, List.set_cons_succ]
              refine wpAnyH_ready (rs := [18]) (by kernel_rfl) (by simp) ?_
              refine AllReadyH.cons (o := { dst := some 118, op := Go.Op.call { callee := Go.Callee.value (Go.Operand.func 16), args := #[Go.Operand.tmp 116, Go.Operand.tmp 117], argTypes := #[24, 3] }, type := 4, pos := "laws.go:1679", after := #[{ on := 16, ground := Go.Ground.data }, { on := 17, ground := Go.Ground.data }, { on := 15, ground := Go.Ground.chain }, { on := 12, ground := Go.Ground.guard }], guard := some (12, false) }) rfl (fun K hK => ?_) AllReadyH.nil
              go_simp
              (go_at_call 16; (first | (with_reducible refine (P1.out _).mono ?_) | (with_reducible refine (P2.out _).mono ?_) | (with_reducible refine (P3.out _).mono ?_) | (with_reducible refine (P4.out _).mono ?_)); rintro e w13 ⟨rfl, hb4⟩; have hbb4 := below_on (w := wr) (by go_grown) hb4)
              (try go_wp2_with fail)
              refine hK.out _ _ ?_ (fun hHeld => ?_)
              · try dsimp only
                refine kp4 s_12 t_12 x_12 y_12 ?_; go_grown
              clear hK K
              try simp only [Act.put, List.setIfInBounds_toArray, List.set_cons_zero, List.set_cons_succ]
              refine wpAnyH_take (i := 19) (oi := { dst := some 119, op := Go.Op.move (Go.Operand.tmp 118), type := 4, pos := "laws.go:1679", after := #[{ on := 18, ground := Go.Ground.data }, { on := 18, ground := Go.Ground.chain }, { on := 12, ground := Go.Ground.guard }], guard := some (12, false) }) (v := ?_) rfl (by kernel_rfl) (by kernel_rfl) (by kernel_rfl) (fun _ _ _ h => h) (Or.inl ⟨by rfl, ?_⟩) (by assumption) ?_
              rotate_left
              · (intro w hSw; (try dsimp only at hSw); first | (go_simp; done) | (go_simp; with_reducible rfl))
              try simp only [Act.put, List.setIfInBounds_toArray, List.set_cons_zero, List.set_cons_succ]
              refine wpAnyH_take (i := 20) (oi := { dst := some 120, op := Go.Op.load 24 (Go.Operand.tmp 4), type := 24, pos := "laws.go:1679", after := #[{ on := 19, ground := Go.Ground.guard }], guard := some (19, true) }) (v := ?_) rfl (by kernel_rfl) (by kernel_rfl) (by kernel_rfl) (fun _ _ _ h => h) (Or.inl ⟨by rfl, ?_⟩) (by assumption) ?_
              rotate_left
              · (intro w hSw; (try dsimp only at hSw); first | (go_simp; done) | (go_simp; with_reducible rfl))
              try simp only [Act.put, List.setIfInBounds_toArray, List.set_cons_zero, List.set_cons_succ]
              refine wpAnyH_take (i := 21) (oi := { dst := some 121, op := Go.Op.move (Go.Operand.tmp 13), type := 3, pos := "laws.go:1679", after := #[{ on := 19, ground := Go.Ground.guard }], guard := some (19, true) }) (v := ?_) rfl (by kernel_rfl) (by kernel_rfl) (by kernel_rfl) (fun _ _ _ h => h) (Or.inl ⟨by rfl, ?_⟩) (by assumption) ?_
              rotate_left
              · (intro w hSw; (try dsimp only at hSw); first | (go_simp; done) | (go_simp; with_reducible rfl))
              try simp only [Act.put, List.setIfInBounds_toArray, List.set_cons_zero, List.set_cons_succ]
              refine wpAnyH_ready (rs := [22]) (by kernel_rfl) (by simp) ?_
              refine AllReadyH.cons (o := { dst := some 122, op := Go.Op.call { callee := Go.Callee.value (Go.Operand.func 16), args := #[Go.Operand.tmp 120, Go.Operand.tmp 121], argTypes := #[24, 3] }, type := 4, pos := "laws.go:1679", after := #[{ on := 20, ground := Go.Ground.data }, { on := 21, ground := Go.Ground.data }, { on := 19, ground := Go.Ground.chain }, { on := 19, ground := Go.Ground.guard }], guard := some (19, true) }) rfl (fun K hK => ?_) AllReadyH.nil
              go_simp
              (go_at_call 16; (first | (with_reducible refine (P1.out _).mono ?_) | (with_reducible refine (P2.out _).mono ?_) | (with_reducible refine (P3.out _).mono ?_) | (with_reducible refine (P4.out _).mono ?_)); rintro e w13 ⟨rfl, hb4⟩; have hbb4 := below_on (w := wr) (by go_grown) hb4)
              (try go_wp2_with fail)
              refine hK.out _ _ ?_ (fun hHeld => ?_)
              · try dsimp only
                refine kp4 s_12 t_12 x_12 y_12 ?_; go_grown
              clear hK K
              try simp only [Act.put, List.setIfInBounds_toArray, List.set_cons_zero, List.set_cons_succ]
              refine wpAnyH_take (i := 23) (oi := { dst := some 123, op := Go.Op.pick (Go.Operand.tmp 119) (Go.Operand.tmp 122) (Go.Operand.const (Go.Value.bool false)), type := 4, pos := "laws.go:1679", after := #[{ on := 19, ground := Go.Ground.data }, { on := 22, ground := Go.Ground.data }, { on := 12, ground := Go.Ground.guard }], guard := some (12, false) }) (v := ?_) rfl (by kernel_rfl) (by kernel_rfl) (by kernel_rfl) (fun _ _ _ h => h) (Or.inl ⟨by rfl, ?_⟩) (by assumption) ?_
              rotate_left
              · (intro w hSw; (try dsimp only at hSw); first | (go_simp; done) | (go_simp; with_reducible rfl))
              try simp only [Act.put, List.setIfInBounds_toArray, List.set_cons_zero, List.set_cons_succ]
              refine wpAnyH_take (i := 24) (oi := { dst := some 124, op := Go.Op.binOp Go.BinOp.neq 4 (Go.Operand.tmp 115) (Go.Operand.tmp 123) 4, type := 4, pos := "laws.go:1679", after := #[{ on := 15, ground := Go.Ground.data }, { on := 23, ground := Go.Ground.data }, { on := 12, ground := Go.Ground.guard }], guard := some (12, false) }) (v := ?_) rfl (by kernel_rfl) (by kernel_rfl) (by kernel_rfl) (fun _ _ _ h => h) (Or.inl ⟨by rfl, ?_⟩) (by assumption) ?_
              rotate_left
              · (intro w hSw; (try dsimp only at hSw); first | (go_simp; done) | (go_simp; with_reducible rfl))
              try simp only [Act.put, List.setIfInBounds_toArray, List.set_cons_zero, List.set_cons_succ]
              refine wpAnyH_take (i := 25) (oi := { dst := some 125, op := Go.Op.pick (Go.Operand.tmp 112) (Go.Operand.const (Go.Value.bool true)) (Go.Operand.tmp 124), type := 4, pos := "laws.go:1679", after := #[{ on := 12, ground := Go.Ground.data }, { on := 24, ground := Go.Ground.data }], guard := none }) (v := ?_) rfl (by kernel_rfl) (by kernel_rfl) (by kernel_rfl) (fun _ _ _ h => h) (Or.inl ⟨by rfl, ?_⟩) (by assumption) ?_
              rotate_left
              · (intro w hSw; (try dsimp only at hSw); first | (go_simp; done) | (go_simp; with_reducible rfl))
              try simp only [Act.put, List.setIfInBounds_toArray, List.set_cons_zero, List.set_cons_succ]
              refine wpAnyH_done (by kernel_rfl) ?_ _
              have hk := hHeld.1
              clear hHeld
              have k14 := below_on k12 hk
              have s_14 := s2_on s_12 hk
              have t_14 := s2_on t_12 hk
              have x_14 := s2_on x_12 hk
              have y_14 := s2_on y_12 hk
              clear k12 s_12 t_12 x_12 y_12
              clear hk
              go_wp2
              go_roundw
              case rel => exact ⟨k + 1, rfl, by omega, s_14, t_14, x_14, y_14, k14⟩
              case measure => simp [intOf]; omega
          · have hk' : ¬ (k : Int) ≤ 60 := by omega
            clear hlt hk
            obtain ⟨s_a, s_b, s_c, s_d⟩ := id s_12
            obtain ⟨t_a, t_b, t_c, t_d⟩ := id t_12
            obtain ⟨x_a, x_b, x_c, x_d⟩ := id x_12
            obtain ⟨y_a, y_b, y_c, y_d⟩ := id y_12
            go_wp2_with fail
            refine (U1.out _).mono ?_
            rintro e w18 ⟨rfl, hb⟩
            clear s_a s_b s_c s_d t_a t_b t_c t_d x_a x_b x_c x_d y_a y_b y_c y_d
            have k18 := below_on k12 hb
            have s_18 := s2_on s_12 hb
            have t_18 := s2_on t_12 hb
            have x_18 := s2_on x_12 hb
            have y_18 := s2_on y_12 hb
            clear k12 s_12 t_12 x_12 y_12
            clear hb
            go_upto_region 16 with fail
            generalize hW : World.alloc w18 _ = w19
            obtain ⟨hx, hsx, hb⟩ := s2_new hW
            clear hW
            have k19 := below_on k18 hb
            have s_19 := s2_on s_18 hb
            have t_19 := s2_on t_18 hb
            have x_19 := s2_on x_18 hb
            have y_19 := s2_on y_18 hb
            clear k18 s_18 t_18 x_18 y_18
            have u_19 := hx
            clear hx hb
            obtain ⟨s_a, s_b, s_c, s_d⟩ := id s_19
            obtain ⟨t_a, t_b, t_c, t_d⟩ := id t_19
            obtain ⟨x_a, x_b, x_c, x_d⟩ := id x_19
            obtain ⟨y_a, y_b, y_c, y_d⟩ := id y_19
            obtain ⟨u_a, u_b, u_c, u_d⟩ := id u_19
            go_wp2_with fail
            refine (U2.out _).mono ?_
            rintro e w20 ⟨rfl, hb⟩
            clear s_a s_b s_c s_d t_a t_b t_c t_d x_a x_b x_c x_d y_a y_b y_c y_d u_a u_b u_c u_d
            have k20 := below_on k19 hb
            have s_20 := s2_on s_19 hb
            have t_20 := s2_on t_19 hb
            have x_20 := s2_on x_19 hb
            have y_20 := s2_on y_19 hb
            have u_20 := s2_on u_19 hb
            clear k19 s_19 t_19 x_19 y_19 u_19
            clear hb
            go_upto_region 17 with fail
            generalize hW : World.alloc w20 _ = w21
            obtain ⟨hx, hsx, hb⟩ := s2_new hW
            clear hW
            have k21 := below_on k20 hb
            have s_21 := s2_on s_20 hb
            have t_21 := s2_on t_20 hb
            have x_21 := s2_on x_20 hb
            have y_21 := s2_on y_20 hb
            have u_21 := s2_on u_20 hb
            clear k20 s_20 t_20 x_20 y_20 u_20
            have v_21 := hx
            clear hx hb
            obtain ⟨s_a, s_b, s_c, s_d⟩ := id s_21
            obtain ⟨t_a, t_b, t_c, t_d⟩ := id t_21
            obtain ⟨x_a, x_b, x_c, x_d⟩ := id x_21
            obtain ⟨y_a, y_b, y_c, y_d⟩ := id y_21
            obtain ⟨u_a, u_b, u_c, u_d⟩ := id u_21
            obtain ⟨v_a, v_b, v_c, v_d⟩ := id v_21
            go_wp2_with fail
            refine (U3.out _).mono ?_
            rintro e w22 ⟨rfl, hb⟩
            clear s_a s_b s_c s_d t_a t_b t_c t_d x_a x_b x_c x_d y_a y_b y_c y_d u_a u_b u_c u_d v_a v_b v_c v_d
            have k22 := below_on k21 hb
            have s_22 := s2_on s_21 hb
            have t_22 := s2_on t_21 hb
            have x_22 := s2_on x_21 hb
            have y_22 := s2_on y_21 hb
            have u_22 := s2_on u_21 hb
            have v_22 := s2_on v_21 hb
            clear k21 s_21 t_21 x_21 y_21 u_21 v_21
            clear hb
            go_upto_region 18 with fail
            generalize hW : World.alloc w22 _ = w23
            obtain ⟨hx, hsx, hb⟩ := s2_new hW
            clear hW
            have k23 := below_on k22 hb
            have s_23 := s2_on s_22 hb
            have t_23 := s2_on t_22 hb
            have x_23 := s2_on x_22 hb
            have y_23 := s2_on y_22 hb
            have u_23 := s2_on u_22 hb
            have v_23 := s2_on v_22 hb
            clear k22 s_22 t_22 x_22 y_22 u_22 v_22
            have z_23 := hx
            clear hx hb
            refine wp_region_held_drew (S := (fun w' => Below w23.heap.size w23 w' ∧ (w'.cell? ⟨w1.heap.size, 0, none⟩ = some (.string (bs h)) ∧ w'.cell? ⟨w1.heap.size, 1, none⟩ = some (.string (bs l))) ∧ (w'.cell? ⟨w1.heap.size + 1, 0, none⟩ = some (.string (bs h')) ∧ w'.cell? ⟨w1.heap.size + 1, 1, none⟩ = some (.string (bs l'))) ∧ (w'.cell? ⟨w4.heap.size, 0, none⟩ = some (.string (bs X)) ∧ w'.cell? ⟨w4.heap.size, 1, none⟩ = some (.string (bs U))) ∧ (w'.cell? ⟨w8.heap.size, 0, none⟩ = some (.string (bs Y)) ∧ w'.cell? ⟨w8.heap.size, 1, none⟩ = some (.string (bs V))) ∧ (w'.cell? ⟨w18.heap.size, 0, none⟩ = some (.string (bs X)) ∧ w'.cell? ⟨w18.heap.size, 1, none⟩ = some (.string (bs U))) ∧ (w'.cell? ⟨w20.heap.size, 0, none⟩ = some (.string (bs Y)) ∧ w'.cell? ⟨w20.heap.size, 1, none⟩ = some (.string (bs V))) ∧ (w'.cell? ⟨w22.heap.size, 0, none⟩ = some (.string (bs X)) ∧ w'.cell? ⟨w22.heap.size, 1, none⟩ = some (.string (bs U))))) (by kernel_rfl) ?_ (fun hHeld => ?_)
            · try dsimp only
              refine kp7 s_23 t_23 x_23 y_23 u_23 v_23 z_23 ?_; go_grown
            refine wpAnyH_take (i := 0) (oi := { dst := some 144, op := Go.Op.move (Go.Operand.tmp 15), type := 4, pos := "laws.go:1686", after := #[], guard := none }) (v := ?_) rfl (by kernel_rfl) (by kernel_rfl) (by kernel_rfl) (fun _ _ _ h => h) (Or.inl ⟨by rfl, ?_⟩) (by assumption) ?_
            rotate_left
            · (intro w hSw; (try dsimp only at hSw); first | (go_simp; done) | (go_simp; with_reducible rfl))
            try simp only [Act.put, List.setIfInBounds_toArray, List.set_cons_zero, List.set_cons_succ]
            refine wpAnyH_take (i := 1) (oi := { dst := some 145, op := Go.Op.move (Go.Operand.tmp 144), type := 4, pos := "laws.go:1686", after := #[{ on := 0, ground := Go.Ground.data }], guard := none }) (v := ?_) rfl (by kernel_rfl) (by kernel_rfl) (by kernel_rfl) (fun _ _ _ h => h) (Or.inl ⟨by rfl, ?_⟩) (by assumption) ?_
            rotate_left
            · (intro w hSw; (try dsimp only at hSw); first | (go_simp; done) | (go_simp; with_reducible rfl))
            try simp only [Act.put, List.setIfInBounds_toArray, List.set_cons_zero, List.set_cons_succ]
            refine wpAnyH_take (i := 2) (oi := { dst := some 146, op := Go.Op.load 24 (Go.Operand.tmp 14), type := 24, pos := "laws.go:1686", after := #[{ on := 1, ground := Go.Ground.guard }], guard := some (1, true) }) (v := ?_) rfl (by kernel_rfl) (by kernel_rfl) (by kernel_rfl) (fun _ _ _ h => h) (Or.inl ⟨by rfl, ?_⟩) (by assumption) ?_
            rotate_left
            · (intro w hSw; (try dsimp only at hSw); first | (go_simp; done) | (go_simp; with_reducible rfl))
            try simp only [Act.put, List.setIfInBounds_toArray, List.set_cons_zero, List.set_cons_succ]
            refine wpAnyH_take (i := 3) (oi := { dst := some 147, op := Go.Op.load 24 (Go.Operand.tmp 5), type := 24, pos := "laws.go:1686", after := #[{ on := 1, ground := Go.Ground.guard }], guard := some (1, true) }) (v := ?_) rfl (by kernel_rfl) (by kernel_rfl) (by kernel_rfl) (fun _ _ _ h => h) (Or.inl ⟨by rfl, ?_⟩) (by assumption) ?_
            rotate_left
            · (intro w hSw; (try dsimp only at hSw); first | (go_simp; done) | (go_simp; with_reducible rfl))
            try simp only [Act.put, List.setIfInBounds_toArray, List.set_cons_zero, List.set_cons_succ]
            refine wpAnyH_take (i := 4) (oi := { dst := some 148, op := Go.Op.binOp Go.BinOp.eql 24 (Go.Operand.tmp 146) (Go.Operand.tmp 147) 24, type := 4, pos := "laws.go:1686", after := #[{ on := 2, ground := Go.Ground.data }, { on := 3, ground := Go.Ground.data }, { on := 1, ground := Go.Ground.guard }], guard := some (1, true) }) (v := ?_) rfl (by kernel_rfl) (by kernel_rfl) (by kernel_rfl) (fun _ _ _ h => h) (Or.inl ⟨by rfl, ?_⟩) (by assumption) ?_
            rotate_left
            · (intro w hSw; (try dsimp only at hSw); first | (go_simp; done) | (go_simp; with_reducible rfl))
            try simp only [Act.put, List.setIfInBounds_toArray, List.set_cons_zero, List.set_cons_succ]
            refine wpAnyH_take (i := 5) (oi := { dst := some 149, op := Go.Op.pick (Go.Operand.tmp 145) (Go.Operand.tmp 148) (Go.Operand.const (Go.Value.bool false)), type := 4, pos := "laws.go:1686", after := #[{ on := 1, ground := Go.Ground.data }, { on := 4, ground := Go.Ground.data }], guard := none }) (v := ?_) rfl (by kernel_rfl) (by kernel_rfl) (by kernel_rfl) (fun _ _ _ h => h) (Or.inl ⟨by rfl, ?_⟩) (by assumption) ?_
            rotate_left
            · (intro w hSw; (try dsimp only at hSw); first | (go_simp; done) | (go_simp; with_reducible rfl))
            try simp only [Act.put, List.setIfInBounds_toArray, List.set_cons_zero, List.set_cons_succ]
            refine wpAnyH_take (i := 6) (oi := { dst := some 150, op := Go.Op.move (Go.Operand.tmp 149), type := 4, pos := "laws.go:1686", after := #[{ on := 5, ground := Go.Ground.data }, { on := 1, ground := Go.Ground.chain }], guard := none }) (v := ?_) rfl (by kernel_rfl) (by kernel_rfl) (by kernel_rfl) (fun _ _ _ h => h) (Or.inl ⟨by rfl, ?_⟩) (by assumption) ?_
            rotate_left
            · (intro w hSw; (try dsimp only at hSw); first | (go_simp; done) | (go_simp; with_reducible rfl))
            try simp only [Act.put, List.setIfInBounds_toArray, List.set_cons_zero, List.set_cons_succ]
            refine wpAnyH_take (i := 7) (oi := { dst := some 151, op := Go.Op.move (Go.Operand.tmp 17), type := 4, pos := "laws.go:1686", after := #[{ on := 6, ground := Go.Ground.guard }], guard := some (6, true) }) (v := ?_) rfl (by kernel_rfl) (by kernel_rfl) (by kernel_rfl) (fun _ _ _ h => h) (Or.inl ⟨by rfl, ?_⟩) (by assumption) ?_
            rotate_left
            · (intro w hSw; (try dsimp only at hSw); first | (go_simp; done) | (go_simp; with_reducible rfl))
            try simp only [Act.put, List.setIfInBounds_toArray, List.set_cons_zero, List.set_cons_succ]
            refine wpAnyH_take (i := 8) (oi := { dst := some 152, op := Go.Op.pick (Go.Operand.tmp 150) (Go.Operand.tmp 151) (Go.Operand.const (Go.Value.bool false)), type := 4, pos := "laws.go:1686", after := #[{ on := 6, ground := Go.Ground.data }, { on := 7, ground := Go.Ground.data }], guard := none }) (v := ?_) rfl (by kernel_rfl) (by kernel_rfl) (by kernel_rfl) (fun _ _ _ h => h) (Or.inl ⟨by rfl, ?_⟩) (by assumption) ?_
            rotate_left
            · (intro w hSw; (try dsimp only at hSw); first | (go_simp; done) | (go_simp; with_reducible rfl))
            try simp only [Act.put, List.setIfInBounds_toArray, List.set_cons_zero, List.set_cons_succ]
            refine wpAnyH_take (i := 9) (oi := { dst := some 153, op := Go.Op.move (Go.Operand.tmp 152), type := 4, pos := "laws.go:1686", after := #[{ on := 8, ground := Go.Ground.data }, { on := 6, ground := Go.Ground.chain }], guard := none }) (v := ?_) rfl (by kernel_rfl) (by kernel_rfl) (by kernel_rfl) (fun _ _ _ h => h) (Or.inl ⟨by rfl, ?_⟩) (by assumption) ?_
            rotate_left
            · (intro w hSw; (try dsimp only at hSw); first | (go_simp; done) | (go_simp; with_reducible rfl))
            try simp only [Act.put, List.setIfInBounds_toArray, List.set_cons_zero, List.set_cons_succ]
            refine wpAnyH_take (i := 10) (oi := { dst := some 154, op := Go.Op.load 24 (Go.Operand.tmp 16), type := 24, pos := "laws.go:1686", after := #[{ on := 9, ground := Go.Ground.guard }], guard := some (9, true) }) (v := ?_) rfl (by kernel_rfl) (by kernel_rfl) (by kernel_rfl) (fun _ _ _ h => h) (Or.inl ⟨by rfl, ?_⟩) (by assumption) ?_
            rotate_left
            · (intro w hSw; (try dsimp only at hSw); first | (go_simp; done) | (go_simp; with_reducible rfl))
            try simp only [Act.put, List.setIfInBounds_toArray, List.set_cons_zero, List.set_cons_succ]
            refine wpAnyH_take (i := 11) (oi := { dst := some 155, op := Go.Op.load 24 (Go.Operand.tmp 9), type := 24, pos := "laws.go:1686", after := #[{ on := 9, ground := Go.Ground.guard }], guard := some (9, true) }) (v := ?_) rfl (by kernel_rfl) (by kernel_rfl) (by kernel_rfl) (fun _ _ _ h => h) (Or.inl ⟨by rfl, ?_⟩) (by assumption) ?_
            rotate_left
            · (intro w hSw; (try dsimp only at hSw); first | (go_simp; done) | (go_simp; with_reducible rfl))
            try simp only [Act.put, List.setIfInBounds_toArray, List.set_cons_zero, List.set_cons_succ]
            refine wpAnyH_take (i := 12) (oi := { dst := some 156, op := Go.Op.binOp Go.BinOp.eql 24 (Go.Operand.tmp 154) (Go.Operand.tmp 155) 24, type := 4, pos := "laws.go:1686", after := #[{ on := 10, ground := Go.Ground.data }, { on := 11, ground := Go.Ground.data }, { on := 9, ground := Go.Ground.guard }], guard := some (9, true) }) (v := ?_) rfl (by kernel_rfl) (by kernel_rfl) (by kernel_rfl) (fun _ _ _ h => h) (Or.inl ⟨by rfl, ?_⟩) (by assumption) ?_
            rotate_left
            · (intro w hSw; (try dsimp only at hSw); first | (go_simp; done) | (go_simp; with_reducible rfl))
            try simp only [Act.put, List.setIfInBounds_toArray, List.set_cons_zero, List.set_cons_succ]
            refine wpAnyH_take (i := 13) (oi := { dst := some 157, op := Go.Op.pick (Go.Operand.tmp 153) (Go.Operand.tmp 156) (Go.Operand.const (Go.Value.bool false)), type := 4, pos := "laws.go:1686", after := #[{ on := 9, ground := Go.Ground.data }, { on := 12, ground := Go.Ground.data }], guard := none }) (v := ?_) rfl (by kernel_rfl) (by kernel_rfl) (by kernel_rfl) (fun _ _ _ h => h) (Or.inl ⟨by rfl, ?_⟩) (by assumption) ?_
            rotate_left
            · (intro w hSw; (try dsimp only at hSw); first | (go_simp; done) | (go_simp; with_reducible rfl))
            try simp only [Act.put, List.setIfInBounds_toArray, List.set_cons_zero, List.set_cons_succ]
            refine wpAnyH_take (i := 14) (oi := { dst := some 158, op := Go.Op.move (Go.Operand.tmp 157), type := 4, pos := "laws.go:1686", after := #[{ on := 13, ground := Go.Ground.data }, { on := 9, ground := Go.Ground.chain }], guard := none }) (v := ?_) rfl (by kernel_rfl) (by kernel_rfl) (by kernel_rfl) (fun _ _ _ h => h) (Or.inl ⟨by rfl, ?_⟩) (by assumption) ?_
            rotate_left
            · (intro w hSw; (try dsimp only at hSw); first | (go_simp; done) | (go_simp; with_reducible rfl))
            try simp only [Act.put, List.setIfInBounds_toArray, List.set_cons_zero, List.set_cons_succ]
            refine wpAnyH_take (i := 15) (oi := { dst := some 159, op := Go.Op.move (Go.Operand.tmp 19), type := 4, pos := "laws.go:1686", after := #[{ on := 14, ground := Go.Ground.guard }], guard := some (14, true) }) (v := ?_) rfl (by kernel_rfl) (by kernel_rfl) (by kernel_rfl) (fun _ _ _ h => h) (Or.inl ⟨by rfl, ?_⟩) (by assumption) ?_
            rotate_left
            · (intro w hSw; (try dsimp only at hSw); first | (go_simp; done) | (go_simp; with_reducible rfl))
            try simp only [Act.put, List.setIfInBounds_toArray, List.set_cons_zero, List.set_cons_succ]
            refine wpAnyH_take (i := 16) (oi := { dst := some 160, op := Go.Op.pick (Go.Operand.tmp 158) (Go.Operand.tmp 159) (Go.Operand.const (Go.Value.bool false)), type := 4, pos := "laws.go:1686", after := #[{ on := 14, ground := Go.Ground.data }, { on := 15, ground := Go.Ground.data }], guard := none }) (v := ?_) rfl (by kernel_rfl) (by kernel_rfl) (by kernel_rfl) (fun _ _ _ h => h) (Or.inl ⟨by rfl, ?_⟩) (by assumption) ?_
            rotate_left
            · (intro w hSw; (try dsimp only at hSw); first | (go_simp; done) | (go_simp; with_reducible rfl))
            try simp only [Act.put, List.setIfInBounds_toArray, List.set_cons_zero, List.set_cons_succ]
            refine wpAnyH_take (i := 17) (oi := { dst := some 161, op := Go.Op.move (Go.Operand.tmp 160), type := 4, pos := "laws.go:1686", after := #[{ on := 16, ground := Go.Ground.data }, { on := 14, ground := Go.Ground.chain }], guard := none }) (v := ?_) rfl (by kernel_rfl) (by kernel_rfl) (by kernel_rfl) (fun _ _ _ h => h) (Or.inl ⟨by rfl, ?_⟩) (by assumption) ?_
            rotate_left
            · (intro w hSw; (try dsimp only at hSw); first | (go_simp; done) | (go_simp; with_reducible rfl))
            try simp only [Act.put, List.setIfInBounds_toArray, List.set_cons_zero, List.set_cons_succ]
            refine wpAnyH_take (i := 18) (oi := { dst := some 162, op := Go.Op.load 24 (Go.Operand.tmp 18), type := 24, pos := "laws.go:1686", after := #[{ on := 17, ground := Go.Ground.guard }], guard := some (17, true) }) (v := ?_) rfl (by kernel_rfl) (by kernel_rfl) (by kernel_rfl) (fun _ _ _ h => h) (Or.inl ⟨by rfl, ?_⟩) (by assumption) ?_
            rotate_left
            · (intro w hSw; (try dsimp only at hSw); first | (go_simp; done) | (go_simp; with_reducible rfl))
            try simp only [Act.put, List.setIfInBounds_toArray, List.set_cons_zero, List.set_cons_succ]
            refine wpAnyH_take (i := 19) (oi := { dst := some 163, op := Go.Op.load 24 (Go.Operand.tmp 5), type := 24, pos := "laws.go:1686", after := #[{ on := 17, ground := Go.Ground.guard }], guard := some (17, true) }) (v := ?_) rfl (by kernel_rfl) (by kernel_rfl) (by kernel_rfl) (fun _ _ _ h => h) (Or.inl ⟨by rfl, ?_⟩) (by assumption) ?_
            rotate_left
            · (intro w hSw; (try dsimp only at hSw); first | (go_simp; done) | (go_simp; with_reducible rfl))
            try simp only [Act.put, List.setIfInBounds_toArray, List.set_cons_zero, List.set_cons_succ]
            refine wpAnyH_take (i := 20) (oi := { dst := some 164, op := Go.Op.binOp Go.BinOp.eql 24 (Go.Operand.tmp 162) (Go.Operand.tmp 163) 24, type := 4, pos := "laws.go:1686", after := #[{ on := 18, ground := Go.Ground.data }, { on := 19, ground := Go.Ground.data }, { on := 17, ground := Go.Ground.guard }], guard := some (17, true) }) (v := ?_) rfl (by kernel_rfl) (by kernel_rfl) (by kernel_rfl) (fun _ _ _ h => h) (Or.inl ⟨by rfl, ?_⟩) (by assumption) ?_
            rotate_left
            · (intro w hSw; (try dsimp only at hSw); first | (go_simp; done) | (go_simp; with_reducible rfl))
            try simp only [Act.put, List.setIfInBounds_toArray, List.set_cons_zero, List.set_cons_succ]
            refine wpAnyH_take (i := 21) (oi := { dst := some 165, op := Go.Op.pick (Go.Operand.tmp 161) (Go.Operand.tmp 164) (Go.Operand.const (Go.Value.bool false)), type := 4, pos := "laws.go:1686", after := #[{ on := 17, ground := Go.Ground.data }, { on := 20, ground := Go.Ground.data }], guard := none }) (v := ?_) rfl (by kernel_rfl) (by kernel_rfl) (by kernel_rfl) (fun _ _ _ h => h) (Or.inl ⟨by rfl, ?_⟩) (by assumption) ?_
            rotate_left
            · (intro w hSw; (try dsimp only at hSw); first | (go_simp; done) | (go_simp; with_reducible rfl))
            try simp only [Act.put, List.setIfInBounds_toArray, List.set_cons_zero, List.set_cons_succ]
            refine wpAnyH_take (i := 22) (oi := { dst := some 166, op := Go.Op.move (Go.Operand.tmp 165), type := 4, pos := "laws.go:1686", after := #[{ on := 21, ground := Go.Ground.data }, { on := 17, ground := Go.Ground.chain }], guard := none }) (v := ?_) rfl (by kernel_rfl) (by kernel_rfl) (by kernel_rfl) (fun _ _ _ h => h) (Or.inl ⟨by rfl, ?_⟩) (by assumption) ?_
            rotate_left
            · (intro w hSw; (try dsimp only at hSw); first | (go_simp; done) | (go_simp; with_reducible rfl))
            try simp only [Act.put, List.setIfInBounds_toArray, List.set_cons_zero, List.set_cons_succ]
            refine wpAnyH_take (i := 23) (oi := { dst := some 167, op := Go.Op.load 24 (Go.Operand.tmp 5), type := 24, pos := "laws.go:1686", after := #[{ on := 22, ground := Go.Ground.guard }], guard := some (22, true) }) (v := ?_) rfl (by kernel_rfl) (by kernel_rfl) (by kernel_rfl) (fun _ _ _ h => h) (Or.inl ⟨by rfl, ?_⟩) (by assumption) ?_
            rotate_left
            · (intro w hSw; (try dsimp only at hSw); first | (go_simp; done) | (go_simp; with_reducible rfl))
            try simp only [Act.put, List.setIfInBounds_toArray, List.set_cons_zero, List.set_cons_succ]
            refine wpAnyH_take (i := 25) (oi := { dst := some 169, op := Go.Op.load 24 (Go.Operand.tmp 9), type := 24, pos := "laws.go:1686", after := #[{ on := 22, ground := Go.Ground.guard }], guard := some (22, true) }) (v := ?_) rfl (by kernel_rfl) (by kernel_rfl) (by kernel_rfl) (fun _ _ _ h => h) (Or.inl ⟨by rfl, ?_⟩) (by assumption) ?_
            rotate_left
            · (intro w hSw; (try dsimp only at hSw); first | (go_simp; done) | (go_simp; with_reducible rfl))
            try simp only [Act.put, List.setIfInBounds_toArray, List.set_cons_zero, List.set_cons_succ]
            refine wpAnyH_take (i := 28) (oi := { dst := some 172, op := Go.Op.load 24 (Go.Operand.tmp 3), type := 24, pos := "laws.go:1686", after := #[{ on := 22, ground := Go.Ground.guard }], guard := some (22, true) }) (v := ?_) rfl (by kernel_rfl) (by kernel_rfl) (by kernel_rfl) (fun _ _ _ h => h) (Or.inl ⟨by rfl, ?_⟩) (by assumption) ?_
            rotate_left
            · (intro w hSw; (try dsimp only at hSw); first | (go_simp; done) | (go_simp; with_reducible rfl))
            try simp only [Act.put, List.setIfInBounds_toArray, List.set_cons_zero, List.set_cons_succ]
            refine wpAnyH_take (i := 30) (oi := { dst := some 174, op := Go.Op.load 24 (Go.Operand.tmp 4), type := 24, pos := "laws.go:1686", after := #[{ on := 22, ground := Go.Ground.guard }], guard := some (22, true) }) (v := ?_) rfl (by kernel_rfl) (by kernel_rfl) (by kernel_rfl) (fun _ _ _ h => h) (Or.inl ⟨by rfl, ?_⟩) (by assumption) ?_
            rotate_left
            · (intro w hSw; (try dsimp only at hSw); first | (go_simp; done) | (go_simp; with_reducible rfl))
            try simp only [Act.put, List.setIfInBounds_toArray, List.set_cons_zero, List.set_cons_succ]
            refine wpAnyH_ready (rs := [24]) (by kernel_rfl) (by simp) ?_
            refine AllReadyH.cons (o := { dst := some 168, op := Go.Op.call { callee := Go.Callee.value (Go.Operand.func 17), args := #[Go.Operand.tmp 167, Go.Operand.const (Go.Value.int Go.IntKind.i64 50)], argTypes := #[24, 3] }, type := 3, pos := "laws.go:1686", after := #[{ on := 23, ground := Go.Ground.data }, { on := 22, ground := Go.Ground.chain }, { on := 22, ground := Go.Ground.guard }], guard := some (22, true) }) rfl (fun K hK => ?_) AllReadyH.nil
            go_simp
            (go_at_call 17; (first | (with_reducible refine (C1.out _).mono ?_) | (with_reducible refine (C2.out _).mono ?_) | (with_reducible refine (C3.out _).mono ?_) | (with_reducible refine (C4.out _).mono ?_)); rintro e w24 ⟨rfl, hb4⟩; have hbb4 := below_on (w := w23) (by go_grown) hb4)
            (try go_wp2_with fail)
            refine hK.out _ _ ?_ (fun hHeld => ?_)
            · try dsimp only
              refine kp7 s_23 t_23 x_23 y_23 u_23 v_23 z_23 ?_; go_grown
            clear hK K
            try simp only [Act.put, List.setIfInBounds_toArray, List.set_cons_zero, List.set_cons_succ]
            refine wpAnyH_ready (rs := [26]) (by kernel_rfl) (by simp) ?_
            refine AllReadyH.cons (o := { dst := some 170, op := Go.Op.call { callee := Go.Callee.value (Go.Operand.func 17), args := #[Go.Operand.tmp 169, Go.Operand.const (Go.Value.int Go.IntKind.i64 50)], argTypes := #[24, 3] }, type := 3, pos := "laws.go:1686", after := #[{ on := 25, ground := Go.Ground.data }, { on := 24, ground := Go.Ground.chain }, { on := 22, ground := Go.Ground.guard }], guard := some (22, true) }) rfl (fun K hK => ?_) AllReadyH.nil
            go_simp
            (go_at_call 17; (first | (with_reducible refine (C1.out _).mono ?_) | (with_reducible refine (C2.out _).mono ?_) | (with_reducible refine (C3.out _).mono ?_) | (with_reducible refine (C4.out _).mono ?_)); rintro e w24 ⟨rfl, hb4⟩; have hbb4 := below_on (w := w23) (by go_grown) hb4)
            (try go_wp2_with fail)
            refine hK.out _ _ ?_ (fun hHeld => ?_)
            · try dsimp only
              refine kp7 s_23 t_23 x_23 y_23 u_23 v_23 z_23 ?_; go_grown
            clear hK K
            try simp only [Act.put, List.setIfInBounds_toArray, List.set_cons_zero, List.set_cons_succ]
            refine wpAnyH_take (i := 27) (oi := { dst := some 171, op := Go.Op.binOp Go.BinOp.add 3 (Go.Operand.tmp 168) (Go.Operand.tmp 170) 3, type := 3, pos := "laws.go:1686", after := #[{ on := 24, ground := Go.Ground.data }, { on := 26, ground := Go.Ground.data }, { on := 22, ground := Go.Ground.guard }], guard := some (22, true) }) (v := ?_) rfl (by kernel_rfl) (by kernel_rfl) (by kernel_rfl) (fun _ _ _ h => h) (Or.inl ⟨by rfl, ?_⟩) (by assumption) ?_
            rotate_left
            · (intro w hSw; (try dsimp only at hSw); first | (go_simp; done) | (go_simp; with_reducible rfl))
            try simp only [Act.put, List.setIfInBounds_toArray, List.set_cons_zero, List.set_cons_succ]
            refine wpAnyH_ready (rs := [29]) (by kernel_rfl) (by simp) ?_
            refine AllReadyH.cons (o := { dst := some 173, op := Go.Op.call { callee := Go.Callee.value (Go.Operand.func 17), args := #[Go.Operand.tmp 172, Go.Operand.const (Go.Value.int Go.IntKind.i64 50)], argTypes := #[24, 3] }, type := 3, pos := "laws.go:1686", after := #[{ on := 28, ground := Go.Ground.data }, { on := 26, ground := Go.Ground.chain }, { on := 22, ground := Go.Ground.guard }], guard := some (22, true) }) rfl (fun K hK => ?_) AllReadyH.nil
            go_simp
            (go_at_call 17; (first | (with_reducible refine (C1.out _).mono ?_) | (with_reducible refine (C2.out _).mono ?_) | (with_reducible refine (C3.out _).mono ?_) | (with_reducible refine (C4.out _).mono ?_)); rintro e w24 ⟨rfl, hb4⟩; have hbb4 := below_on (w := w23) (by go_grown) hb4)
            (try go_wp2_with fail)
            refine hK.out _ _ ?_ (fun hHeld => ?_)
            · try dsimp only
              refine kp7 s_23 t_23 x_23 y_23 u_23 v_23 z_23 ?_; go_grown
            clear hK K
            try simp only [Act.put, List.setIfInBounds_toArray, List.set_cons_zero, List.set_cons_succ]
            refine wpAnyH_ready (rs := [31]) (by kernel_rfl) (by simp) ?_
            refine AllReadyH.cons (o := { dst := some 175, op := Go.Op.call { callee := Go.Callee.value (Go.Operand.func 17), args := #[Go.Operand.tmp 174, Go.Operand.const (Go.Value.int Go.IntKind.i64 50)], argTypes := #[24, 3] }, type := 3, pos := "laws.go:1686", after := #[{ on := 30, ground := Go.Ground.data }, { on := 29, ground := Go.Ground.chain }, { on := 22, ground := Go.Ground.guard }], guard := some (22, true) }) rfl (fun K hK => ?_) AllReadyH.nil
            go_simp
            (go_at_call 17; (first | (with_reducible refine (C1.out _).mono ?_) | (with_reducible refine (C2.out _).mono ?_) | (with_reducible refine (C3.out _).mono ?_) | (with_reducible refine (C4.out _).mono ?_)); rintro e w24 ⟨rfl, hb4⟩; have hbb4 := below_on (w := w23) (by go_grown) hb4)
            (try go_wp2_with fail)
            refine hK.out _ _ ?_ (fun hHeld => ?_)
            · try dsimp only
              refine kp7 s_23 t_23 x_23 y_23 u_23 v_23 z_23 ?_; go_grown
            clear hK K
            try simp only [Act.put, List.setIfInBounds_toArray, List.set_cons_zero, List.set_cons_succ]
            refine wpAnyH_take (i := 32) (oi := { dst := some 176, op := Go.Op.binOp Go.BinOp.add 3 (Go.Operand.tmp 173) (Go.Operand.tmp 175) 3, type := 3, pos := "laws.go:1686", after := #[{ on := 29, ground := Go.Ground.data }, { on := 31, ground := Go.Ground.data }, { on := 22, ground := Go.Ground.guard }], guard := some (22, true) }) (v := ?_) rfl (by kernel_rfl) (by kernel_rfl) (by kernel_rfl) (fun _ _ _ h => h) (Or.inl ⟨by rfl, ?_⟩) (by assumption) ?_
            rotate_left
            · (intro w hSw; (try dsimp only at hSw); first | (go_simp; done) | (go_simp; with_reducible rfl))
            try simp only [Act.put, List.setIfInBounds_toArray, List.set_cons_zero, List.set_cons_succ]
            refine wpAnyH_take (i := 33) (oi := { dst := some 177, op := Go.Op.binOp Go.BinOp.eql 3 (Go.Operand.tmp 171) (Go.Operand.tmp 176) 3, type := 4, pos := "laws.go:1686", after := #[{ on := 27, ground := Go.Ground.data }, { on := 32, ground := Go.Ground.data }, { on := 22, ground := Go.Ground.guard }], guard := some (22, true) }) (v := ?_) rfl (by kernel_rfl) (by kernel_rfl) (by kernel_rfl) (fun _ _ _ h => h) (Or.inl ⟨by rfl, ?_⟩) (by assumption) ?_
            rotate_left
            · (intro w hSw; (try dsimp only at hSw); first | (go_simp; done) | (go_simp; with_reducible rfl))
            try simp only [Act.put, List.setIfInBounds_toArray, List.set_cons_zero, List.set_cons_succ]
            refine wpAnyH_take (i := 34) (oi := { dst := some 178, op := Go.Op.pick (Go.Operand.tmp 166) (Go.Operand.tmp 177) (Go.Operand.const (Go.Value.bool false)), type := 4, pos := "laws.go:1686", after := #[{ on := 22, ground := Go.Ground.data }, { on := 33, ground := Go.Ground.data }], guard := none }) (v := ?_) rfl (by kernel_rfl) (by kernel_rfl) (by kernel_rfl) (fun _ _ _ h => h) (Or.inl ⟨by rfl, ?_⟩) (by assumption) ?_
            rotate_left
            · (intro w hSw; (try dsimp only at hSw); first | (go_simp; done) | (go_simp; with_reducible rfl))
            try simp only [Act.put, List.setIfInBounds_toArray, List.set_cons_zero, List.set_cons_succ]
            refine wpAnyH_take (i := 35) (oi := { dst := some 2, op := Go.Op.assign (Go.Operand.tmp 178), type := 4, pos := "laws.go:1686", after := #[{ on := 34, ground := Go.Ground.data }, { on := 31, ground := Go.Ground.chain }, { on := 0, ground := Go.Ground.phase }, { on := 1, ground := Go.Ground.phase }, { on := 2, ground := Go.Ground.phase }, { on := 3, ground := Go.Ground.phase }, { on := 4, ground := Go.Ground.phase }, { on := 5, ground := Go.Ground.phase }, { on := 6, ground := Go.Ground.phase }, { on := 7, ground := Go.Ground.phase }, { on := 8, ground := Go.Ground.phase }, { on := 9, ground := Go.Ground.phase }, { on := 10, ground := Go.Ground.phase }, { on := 11, ground := Go.Ground.phase }, { on := 12, ground := Go.Ground.phase }, { on := 13, ground := Go.Ground.phase }, { on := 14, ground := Go.Ground.phase }, { on := 15, ground := Go.Ground.phase }, { on := 16, ground := Go.Ground.phase }, { on := 17, ground := Go.Ground.phase }, { on := 18, ground := Go.Ground.phase }, { on := 19, ground := Go.Ground.phase }, { on := 20, ground := Go.Ground.phase }, { on := 21, ground := Go.Ground.phase }, { on := 22, ground := Go.Ground.phase }, { on := 23, ground := Go.Ground.phase }, { on := 24, ground := Go.Ground.phase }, { on := 25, ground := Go.Ground.phase }, { on := 26, ground := Go.Ground.phase }, { on := 27, ground := Go.Ground.phase }, { on := 28, ground := Go.Ground.phase }, { on := 29, ground := Go.Ground.phase }, { on := 30, ground := Go.Ground.phase }, { on := 31, ground := Go.Ground.phase }, { on := 32, ground := Go.Ground.phase }, { on := 33, ground := Go.Ground.phase }, { on := 34, ground := Go.Ground.phase }], guard := none }) (v := ?_) rfl (by kernel_rfl) (by kernel_rfl) (by kernel_rfl) (fun _ _ _ h => h) (Or.inl ⟨by rfl, ?_⟩) (by assumption) ?_
            rotate_left
            · (intro w hSw; (try dsimp only at hSw); first | (go_simp; done) | (go_simp; with_reducible rfl))
            try simp only [Act.put, List.setIfInBounds_toArray, List.set_cons_zero, List.set_cons_succ]
            refine wpAnyH_done (by kernel_rfl) ?_ _
            have hk := hHeld.1
            clear hHeld
            have k25 := below_on k23 hk
            have s_25 := s2_on s_23 hk
            have t_25 := s2_on t_23 hk
            have x_25 := s2_on x_23 hk
            have y_25 := s2_on y_23 hk
            have u_25 := s2_on u_23 hk
            have v_25 := s2_on v_23 hk
            have z_25 := s2_on z_23 hk
            clear k23 s_23 t_23 x_23 y_23 u_23 v_23 z_23
            clear hk
            obtain ⟨s_a, s_b, s_c, s_d⟩ := id s_25
            obtain ⟨t_a, t_b, t_c, t_d⟩ := id t_25
            obtain ⟨x_a, x_b, x_c, x_d⟩ := id x_25
            obtain ⟨y_a, y_b, y_c, y_d⟩ := id y_25
            obtain ⟨u_a, u_b, u_c, u_d⟩ := id u_25
            obtain ⟨v_a, v_b, v_c, v_d⟩ := id v_25
            obtain ⟨z_a, z_b, z_c, z_d⟩ := id z_25
            go_wp2
            go_ret
            exact ⟨rfl, k25⟩
  · have hn' : (1048576 : Int) < (n : Int) := by omega
    go_enter Tryd.func3, Tryd.ntmps3
    go_wp2
    go_ret
    exact ⟨rfl, by go_grown⟩

end Go.Proofs.YtknocndfjnjjfaaDoor
