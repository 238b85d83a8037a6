/- ShiftSet, StretchSet, DivideSet of the program. -/
import Derived.Test.YtpheihejgnlanaaDoorSetK
import Derived.Test.YtpheihejgnlanaaDoorNumC
namespace Go.Proofs.YtpheihejgnlanaaDoor
open Go.RowKit

/-- What ShiftSet, StretchSet, DivideSet answer. -/
noncomputable def shR (h l : List UInt8) (k : Int) : (List UInt8 × List UInt8) × Bool := if (svS h l && decide (0 ≤ k ∧ k ≤ 400)) = true then resA (shA (atS h l) k.toNat) else (([], []), false)
noncomputable def stR (h l : List UInt8) (k : Int) : (List UInt8 × List UInt8) × Bool := if (svS h l && decide (1 ≤ k ∧ k ≤ 240)) = true then resA (stA (atS h l) k.toNat) else (([], []), false)
noncomputable def dvR (h l : List UInt8) (k : Int) : (List UInt8 × List UInt8) × Bool := if (svS h l && decide (1 ≤ k ∧ k ≤ 240)) = true then resA (dvA (atS h l) k.toNat) else (([], []), false)
theorem Tryd.ensh : EnF 55 := fun _ _ => by kernel_rfl
theorem Tryd.enst : EnF 59 := fun _ _ => by kernel_rfl
theorem Tryd.endv : EnF 64 := fun _ _ => by kernel_rfl

set_option maxHeartbeats 1000000 in
theorem shift1_any (h l : List UInt8) (k n c a : Nat) (w : World) (hl0 : l ≠ []) (hh : h.length ≤ 1000000000) (hl : l.length ≤ 1000000000) (hn : n ≤ 1000000000) (hk : k ≤ 1000000000) (h0 : FB w c (.int .i64 k)) (h1 : S2 w a (bs h) (bs l)) :
    Calls Tryd.prog 55 #[.int .i64 n, .pointer (some ⟨c, 0, none⟩), .pointer (some ⟨a, 0, none⟩)] w fun e w' => e = .returned (.bool (inS (shA (atS h l) k) n)) ∧ Below w.heap.size w w' := by
  have e := in_sh (atS h l) k n
  obtain ⟨u1, u2⟩ := h0
  obtain ⟨v1, v2, v3, v4⟩ := h1
  by_cases hkn : k ≤ n
  · have g0 : decide ((k : Int) ≤ (n : Int)) = true := decide_eq_true (by omega)
    rw [decide_eq_true hkn, Bool.true_and] at e
    obtain ⟨m, hm⟩ : ∃ m, n - k = m := ⟨_, rfl⟩
    have hw : IntKind.i64.wrap ((n : Int) - (k : Int)) = (m : Int) := by rw [IntKind.wrap_i64]; omega
    have HR := Lib.hid fun w => has_any h l m w hl0 hh hl (by omega)
    rw [hm] at e
    obtain ⟨b, hb⟩ : ∃ b, inS (atS h l) m = b := ⟨_, rfl⟩
    rw [hb] at e HR
    rw [e]
    clear e hb hm hl0
    go_enter Tryd.func55, Tryd.ntmps55
    go_wp2_with fail
    refine (HR.out _).mono ?_
    rintro e w1 ⟨rfl, hb1⟩
    go_wp2
    go_ret
    exact ⟨rfl, hb1⟩
  · have g0 : decide ((k : Int) ≤ (n : Int)) = false := decide_eq_false (by omega)
    rw [decide_eq_false hkn, Bool.false_and] at e
    rw [e]
    clear e
    go_enter Tryd.func55, Tryd.ntmps55
    go_wp2
    go_ret
    exact ⟨rfl, Below.refl _ _⟩

set_option maxHeartbeats 1000000 in
theorem stretch1_any (h l : List UInt8) (k n c a : Nat) (w : World) (hl0 : l ≠ []) (hh : h.length ≤ 1000000000) (hl : l.length ≤ 1000000000) (hn : n ≤ 1000000000) (hk0 : 1 ≤ k) (hk : k ≤ 1000000000) (h0 : FB w c (.int .i64 k)) (h1 : S2 w a (bs h) (bs l)) :
    Calls Tryd.prog 59 #[.int .i64 n, .pointer (some ⟨c, 0, none⟩), .pointer (some ⟨a, 0, none⟩)] w fun e w' => e = .returned (.bool (inS (stA (atS h l) k) n)) ∧ Below w.heap.size w w' := by
  have e := in_st (atS h l) k n
  have F0 := Lib.hid h0
  have F1 := Lib.hid h1
  obtain ⟨r, hr⟩ : ∃ r, n % k = r := ⟨_, rfl⟩
  have hm : (n : Int).tmod (k : Int) = (r : Int) := by rw [Int.tmod_eq_emod_of_nonneg (by omega), ← hr]; rfl
  have hk1 : (k : Int) ≠ 0 := by omega
  have hk2 : k ≠ 0 := by omega
  obtain ⟨m, hmm⟩ : ∃ m, n / k = m := ⟨_, rfl⟩
  have hd : (n : Int).tdiv (k : Int) = (m : Int) := by rw [tdiv_n2, hmm]
  have hmn : m ≤ n := by rw [← hmm]; exact Nat.div_le_self _ _
  have hw : IntKind.i64.wrap (m : Int) = (m : Int) := by rw [IntKind.wrap_i64]; omega
  have HR := Lib.hid fun w => has_any h l m w hl0 hh hl (by omega)
  obtain ⟨b, hb⟩ : ∃ b, inS (atS h l) m = b := ⟨_, rfl⟩
  rw [hr, hmm, hb] at e
  rw [hb] at HR
  by_cases hr0 : r = 0
  · have g0 : ((r : Int) == 0) = true := by rw [hr0]; rfl
    rw [decide_eq_true hr0, Bool.true_and] at e
    rw [e]
    clear e hb hmm hr hr0 hl0 h0 h1
    go_enter Tryd.func59, Tryd.ntmps59
    go_wp2_with fail
    refine wp_region_held_drew (S := (fun w' => w'.cell? ⟨c, 0, none⟩ = some (.int .i64 k) ∧ w'.cell? ⟨a, 0, none⟩ = some (.string (bs h)) ∧ w'.cell? ⟨a, 1, none⟩ = some (.string (bs l)))) (by kernel_rfl) ?_ (fun hHeld => ?_)
    · try dsimp only
      exact ⟨(fb_on F0.out (by go_grown)).2, s2_keep F1.out (by go_grown)⟩
    refine wpAnyH_take (i := 0) (oi := { dst := some 5, op := Go.Op.move (Go.Operand.tmp 0), type := 3, pos := "l7_sets.go:250", after := #[], guard := none }) (v := ?_) rfl (by kernel_rfl) (by kernel_rfl) (by kernel_rfl) (fun _ _ _ h => h) (Or.inl ⟨by rfl, ?_⟩) (by assumption) ?_
    rotate_left
    · (intro w hSw; (try dsimp only at hSw); first | (go_simp; done) | (go_simp; with_reducible rfl))
    try simp only [Act.put, List.setIfInBounds_toArray, List.set_cons_zero, List.set_cons_succ]
    refine wpAnyH_take (i := 1) (oi := { dst := some 6, op := Go.Op.load 3 (Go.Operand.tmp 1), type := 3, pos := "l7_sets.go:250", after := #[], guard := none }) (v := ?_) rfl (by kernel_rfl) (by kernel_rfl) (by kernel_rfl) (fun _ _ _ h => h) (Or.inl ⟨by rfl, ?_⟩) (by assumption) ?_
    rotate_left
    · (intro w hSw; (try dsimp only at hSw); first | (go_simp; done) | (go_simp; with_reducible rfl))
    try simp only [Act.put, List.setIfInBounds_toArray, List.set_cons_zero, List.set_cons_succ]
    refine wpAnyH_take (i := 2) (oi := { dst := some 7, op := Go.Op.binOp Go.BinOp.rem 3 (Go.Operand.tmp 5) (Go.Operand.tmp 6) 3, type := 3, pos := "l7_sets.go:250", after := #[{ on := 0, ground := Go.Ground.data }, { on := 1, ground := Go.Ground.data }], guard := none }) (v := ?_) rfl (by kernel_rfl) (by kernel_rfl) (by kernel_rfl) (fun _ _ _ h => h) (Or.inl ⟨by rfl, ?_⟩) (by assumption) ?_
    rotate_left
    · (intro w hSw; (try dsimp only at hSw); first | (go_simp; done) | (go_simp; with_reducible rfl))
    try simp only [Act.put, List.setIfInBounds_toArray, List.set_cons_zero, List.set_cons_succ]
    refine wpAnyH_take (i := 3) (oi := { dst := some 8, op := Go.Op.binOp Go.BinOp.eql 3 (Go.Operand.tmp 7) (Go.Operand.const (Go.Value.int Go.IntKind.i64 0)) 3, type := 4, pos := "l7_sets.go:250", after := #[{ on := 2, ground := Go.Ground.data }], guard := none }) (v := ?_) rfl (by kernel_rfl) (by kernel_rfl) (by kernel_rfl) (fun _ _ _ h => h) (Or.inl ⟨by rfl, ?_⟩) (by assumption) ?_
    rotate_left
    · (intro w hSw; (try dsimp only at hSw); first | (go_simp; done) | (go_simp; with_reducible rfl))
    try simp only [Act.put, List.setIfInBounds_toArray, List.set_cons_zero, List.set_cons_succ]
    refine wpAnyH_take (i := 4) (oi := { dst := some 9, op := Go.Op.move (Go.Operand.tmp 8), type := 4, pos := "l7_sets.go:250", after := #[{ on := 3, ground := Go.Ground.data }], guard := none }) (v := ?_) rfl (by kernel_rfl) (by kernel_rfl) (by kernel_rfl) (fun _ _ _ h => h) (Or.inl ⟨by rfl, ?_⟩) (by assumption) ?_
    rotate_left
    · (intro w hSw; (try dsimp only at hSw); first | (go_simp; done) | (go_simp; with_reducible rfl))
    try simp only [Act.put, List.setIfInBounds_toArray, List.set_cons_zero, List.set_cons_succ]
    refine wpAnyH_take (i := 5) (oi := { dst := some 10, op := Go.Op.load 25 (Go.Operand.tmp 2), type := 25, pos := "l7_sets.go:250", after := #[{ on := 4, ground := Go.Ground.guard }], guard := some (4, true) }) (v := ?_) rfl (by kernel_rfl) (by kernel_rfl) (by kernel_rfl) (fun _ _ _ h => h) (Or.inl ⟨by rfl, ?_⟩) (by assumption) ?_
    rotate_left
    · (intro w hSw; (try dsimp only at hSw); first | (go_simp; done) | (go_simp; with_reducible rfl))
    try simp only [Act.put, List.setIfInBounds_toArray, List.set_cons_zero, List.set_cons_succ]
    refine wpAnyH_take (i := 6) (oi := { dst := some 11, op := Go.Op.move (Go.Operand.tmp 0), type := 3, pos := "l7_sets.go:250", after := #[{ on := 4, ground := Go.Ground.guard }], guard := some (4, true) }) (v := ?_) rfl (by kernel_rfl) (by kernel_rfl) (by kernel_rfl) (fun _ _ _ h => h) (Or.inl ⟨by rfl, ?_⟩) (by assumption) ?_
    rotate_left
    · (intro w hSw; (try dsimp only at hSw); first | (go_simp; done) | (go_simp; with_reducible rfl))
    try simp only [Act.put, List.setIfInBounds_toArray, List.set_cons_zero, List.set_cons_succ]
    refine wpAnyH_take (i := 7) (oi := { dst := some 12, op := Go.Op.load 3 (Go.Operand.tmp 1), type := 3, pos := "l7_sets.go:250", after := #[{ on := 4, ground := Go.Ground.guard }], guard := some (4, true) }) (v := ?_) rfl (by kernel_rfl) (by kernel_rfl) (by kernel_rfl) (fun _ _ _ h => h) (Or.inl ⟨by rfl, ?_⟩) (by assumption) ?_
    rotate_left
    · (intro w hSw; (try dsimp only at hSw); first | (go_simp; done) | (go_simp; with_reducible rfl))
    try simp only [Act.put, List.setIfInBounds_toArray, List.set_cons_zero, List.set_cons_succ]
    refine wpAnyH_take (i := 8) (oi := { dst := some 13, op := Go.Op.binOp Go.BinOp.quo 3 (Go.Operand.tmp 11) (Go.Operand.tmp 12) 3, type := 3, pos := "l7_sets.go:250", after := #[{ on := 6, ground := Go.Ground.data }, { on := 7, ground := Go.Ground.data }, { on := 4, ground := Go.Ground.guard }], guard := some (4, true) }) (v := ?_) rfl (by kernel_rfl) (by kernel_rfl) (by kernel_rfl) (fun _ _ _ h => h) (Or.inl ⟨by rfl, ?_⟩) (by assumption) ?_
    rotate_left
    · (intro w hSw; (try dsimp only at hSw); first | (go_simp; done) | (go_simp; with_reducible rfl))
    try simp only [Act.put, List.setIfInBounds_toArray, List.set_cons_zero, List.set_cons_succ]
    refine wpAnyH_ready (rs := [9]) (by kernel_rfl) (by simp) ?_
    refine AllReadyH.cons (o := { dst := some 14, op := Go.Op.call { callee := Go.Callee.value (Go.Operand.func 56), args := #[Go.Operand.tmp 10, Go.Operand.tmp 13], argTypes := #[25, 3] }, type := 4, pos := "l7_sets.go:250", after := #[{ on := 5, ground := Go.Ground.data }, { on := 8, ground := Go.Ground.data }, { on := 4, ground := Go.Ground.chain }, { on := 4, ground := Go.Ground.guard }], guard := some (4, true) }) rfl (fun K hK => ?_) AllReadyH.nil
    go_simp
    (go_at_call 56; refine (HR.out _).mono ?_; rintro e w5 ⟨rfl, hb5⟩; have hbW5 := below_on (w := w) (by go_grown) hb5)
    (try go_wp2_with fail)
    refine hK.out _ _ ?_ (fun hHeld => ?_)
    · try dsimp only
      exact ⟨(fb_on F0.out (by go_grown)).2, s2_keep F1.out (by go_grown)⟩
    clear hK K
    try simp only [Act.put, List.setIfInBounds_toArray, List.set_cons_zero, List.set_cons_succ]
    refine wpAnyH_take (i := 10) (oi := { dst := some 15, op := Go.Op.pick (Go.Operand.tmp 9) (Go.Operand.tmp 14) (Go.Operand.const (Go.Value.bool false)), type := 4, pos := "l7_sets.go:250", after := #[{ on := 4, ground := Go.Ground.data }, { on := 9, ground := Go.Ground.data }], guard := none }) (v := ?_) rfl (by kernel_rfl) (by kernel_rfl) (by kernel_rfl) (fun _ _ _ h => h) (Or.inl ⟨by rfl, ?_⟩) (by assumption) ?_
    rotate_left
    · (intro w hSw; (try dsimp only at hSw); first | (go_simp; done) | (go_simp; with_reducible rfl))
    try simp only [Act.put, List.setIfInBounds_toArray, List.set_cons_zero, List.set_cons_succ]
    refine wpAnyH_take (i := 11) (oi := { dst := some 4, op := Go.Op.assign (Go.Operand.tmp 15), type := 4, pos := "l7_sets.go:250", after := #[{ on := 10, ground := Go.Ground.data }, { on := 9, ground := Go.Ground.chain }, { on := 0, ground := Go.Ground.phase }, { on := 1, ground := Go.Ground.phase }, { on := 2, ground := Go.Ground.phase }, { on := 3, ground := Go.Ground.phase }, { on := 4, ground := Go.Ground.phase }, { on := 5, ground := Go.Ground.phase }, { on := 6, ground := Go.Ground.phase }, { on := 7, ground := Go.Ground.phase }, { on := 8, ground := Go.Ground.phase }, { on := 9, ground := Go.Ground.phase }, { on := 10, ground := Go.Ground.phase }], guard := none }) (v := ?_) rfl (by kernel_rfl) (by kernel_rfl) (by kernel_rfl) (fun _ _ _ h => h) (Or.inl ⟨by rfl, ?_⟩) (by assumption) ?_
    rotate_left
    · (intro w hSw; (try dsimp only at hSw); first | (go_simp; done) | (go_simp; with_reducible rfl))
    try simp only [Act.put, List.setIfInBounds_toArray, List.set_cons_zero, List.set_cons_succ]
    refine wpAnyH_done (by kernel_rfl) ?_ _
    go_wp2
    go_ret
    exact ⟨rfl, by go_grown⟩
  · have g0 : ((r : Int) == 0) = false := by rw [beq_eq_false_iff_ne]; omega
    rw [decide_eq_false hr0, Bool.false_and] at e
    rw [e]
    clear e hb hmm hr hr0 hl0 h0 h1
    go_enter Tryd.func59, Tryd.ntmps59
    go_wp2_with fail
    refine wp_region_held_drew (S := (fun w' => w'.cell? ⟨c, 0, none⟩ = some (.int .i64 k) ∧ w'.cell? ⟨a, 0, none⟩ = some (.string (bs h)) ∧ w'.cell? ⟨a, 1, none⟩ = some (.string (bs l)))) (by kernel_rfl) ?_ (fun hHeld => ?_)
    · try dsimp only
      exact ⟨(fb_on F0.out (by go_grown)).2, s2_keep F1.out (by go_grown)⟩
    refine wpAnyH_take (i := 0) (oi := { dst := some 5, op := Go.Op.move (Go.Operand.tmp 0), type := 3, pos := "l7_sets.go:250", after := #[], guard := none }) (v := ?_) rfl (by kernel_rfl) (by kernel_rfl) (by kernel_rfl) (fun _ _ _ h => h) (Or.inl ⟨by rfl, ?_⟩) (by assumption) ?_
    rotate_left
    · (intro w hSw; (try dsimp only at hSw); first | (go_simp; done) | (go_simp; with_reducible rfl))
    try simp only [Act.put, List.setIfInBounds_toArray, List.set_cons_zero, List.set_cons_succ]
    refine wpAnyH_take (i := 1) (oi := { dst := some 6, op := Go.Op.load 3 (Go.Operand.tmp 1), type := 3, pos := "l7_sets.go:250", after := #[], guard := none }) (v := ?_) rfl (by kernel_rfl) (by kernel_rfl) (by kernel_rfl) (fun _ _ _ h => h) (Or.inl ⟨by rfl, ?_⟩) (by assumption) ?_
    rotate_left
    · (intro w hSw; (try dsimp only at hSw); first | (go_simp; done) | (go_simp; with_reducible rfl))
    try simp only [Act.put, List.setIfInBounds_toArray, List.set_cons_zero, List.set_cons_succ]
    refine wpAnyH_take (i := 2) (oi := { dst := some 7, op := Go.Op.binOp Go.BinOp.rem 3 (Go.Operand.tmp 5) (Go.Operand.tmp 6) 3, type := 3, pos := "l7_sets.go:250", after := #[{ on := 0, ground := Go.Ground.data }, { on := 1, ground := Go.Ground.data }], guard := none }) (v := ?_) rfl (by kernel_rfl) (by kernel_rfl) (by kernel_rfl) (fun _ _ _ h => h) (Or.inl ⟨by rfl, ?_⟩) (by assumption) ?_
    rotate_left
    · (intro w hSw; (try dsimp only at hSw); first | (go_simp; done) | (go_simp; with_reducible rfl))
    try simp only [Act.put, List.setIfInBounds_toArray, List.set_cons_zero, List.set_cons_succ]
    refine wpAnyH_take (i := 3) (oi := { dst := some 8, op := Go.Op.binOp Go.BinOp.eql 3 (Go.Operand.tmp 7) (Go.Operand.const (Go.Value.int Go.IntKind.i64 0)) 3, type := 4, pos := "l7_sets.go:250", after := #[{ on := 2, ground := Go.Ground.data }], guard := none }) (v := ?_) rfl (by kernel_rfl) (by kernel_rfl) (by kernel_rfl) (fun _ _ _ h => h) (Or.inl ⟨by rfl, ?_⟩) (by assumption) ?_
    rotate_left
    · (intro w hSw; (try dsimp only at hSw); first | (go_simp; done) | (go_simp; with_reducible rfl))
    try simp only [Act.put, List.setIfInBounds_toArray, List.set_cons_zero, List.set_cons_succ]
    refine wpAnyH_take (i := 4) (oi := { dst := some 9, op := Go.Op.move (Go.Operand.tmp 8), type := 4, pos := "l7_sets.go:250", after := #[{ on := 3, ground := Go.Ground.data }], guard := none }) (v := ?_) rfl (by kernel_rfl) (by kernel_rfl) (by kernel_rfl) (fun _ _ _ h => h) (Or.inl ⟨by rfl, ?_⟩) (by assumption) ?_
    rotate_left
    · (intro w hSw; (try dsimp only at hSw); first | (go_simp; done) | (go_simp; with_reducible rfl))
    try simp only [Act.put, List.setIfInBounds_toArray, List.set_cons_zero, List.set_cons_succ]
    refine wpAnyH_take (i := 5) (oi := { dst := some 10, op := Go.Op.load 25 (Go.Operand.tmp 2), type := 25, pos := "l7_sets.go:250", after := #[{ on := 4, ground := Go.Ground.guard }], guard := some (4, true) }) (v := undef) rfl (by kernel_rfl) (by kernel_rfl) (by kernel_rfl) (fun _ _ _ h => h) (Or.inr ⟨by rfl, rfl⟩) (by assumption) ?_
    try simp only [Act.put, List.setIfInBounds_toArray, List.set_cons_zero, List.set_cons_succ]
    refine wpAnyH_take (i := 6) (oi := { dst := some 11, op := Go.Op.move (Go.Operand.tmp 0), type := 3, pos := "l7_sets.go:250", after := #[{ on := 4, ground := Go.Ground.guard }], guard := some (4, true) }) (v := undef) rfl (by kernel_rfl) (by kernel_rfl) (by kernel_rfl) (fun _ _ _ h => h) (Or.inr ⟨by rfl, rfl⟩) (by assumption) ?_
    try simp only [Act.put, List.setIfInBounds_toArray, List.set_cons_zero, List.set_cons_succ]
    refine wpAnyH_take (i := 7) (oi := { dst := some 12, op := Go.Op.load 3 (Go.Operand.tmp 1), type := 3, pos := "l7_sets.go:250", after := #[{ on := 4, ground := Go.Ground.guard }], guard := some (4, true) }) (v := undef) rfl (by kernel_rfl) (by kernel_rfl) (by kernel_rfl) (fun _ _ _ h => h) (Or.inr ⟨by rfl, rfl⟩) (by assumption) ?_
    try simp only [Act.put, List.setIfInBounds_toArray, List.set_cons_zero, List.set_cons_succ]
    refine wpAnyH_take (i := 8) (oi := { dst := some 13, op := Go.Op.binOp Go.BinOp.quo 3 (Go.Operand.tmp 11) (Go.Operand.tmp 12) 3, type := 3, pos := "l7_sets.go:250", after := #[{ on := 6, ground := Go.Ground.data }, { on := 7, ground := Go.Ground.data }, { on := 4, ground := Go.Ground.guard }], guard := some (4, true) }) (v := undef) rfl (by kernel_rfl) (by kernel_rfl) (by kernel_rfl) (fun _ _ _ h => h) (Or.inr ⟨by rfl, rfl⟩) (by assumption) ?_
    try simp only [Act.put, List.setIfInBounds_toArray, List.set_cons_zero, List.set_cons_succ]
    refine wpAnyH_take (i := 9) (oi := { dst := some 14, op := Go.Op.call { callee := Go.Callee.value (Go.Operand.func 56), args := #[Go.Operand.tmp 10, Go.Operand.tmp 13], argTypes := #[25, 3] }, type := 4, pos := "l7_sets.go:250", after := #[{ on := 5, ground := Go.Ground.data }, { on := 8, ground := Go.Ground.data }, { on := 4, ground := Go.Ground.chain }, { on := 4, ground := Go.Ground.guard }], guard := some (4, true) }) (v := undef) rfl (by kernel_rfl) (by kernel_rfl) (by kernel_rfl) (fun _ _ _ h => h) (Or.inr ⟨by rfl, rfl⟩) (by assumption) ?_
    try simp only [Act.put, List.setIfInBounds_toArray, List.set_cons_zero, List.set_cons_succ]
    refine wpAnyH_take (i := 10) (oi := { dst := some 15, op := Go.Op.pick (Go.Operand.tmp 9) (Go.Operand.tmp 14) (Go.Operand.const (Go.Value.bool false)), type := 4, pos := "l7_sets.go:250", after := #[{ on := 4, ground := Go.Ground.data }, { on := 9, ground := Go.Ground.data }], guard := none }) (v := ?_) rfl (by kernel_rfl) (by kernel_rfl) (by kernel_rfl) (fun _ _ _ h => h) (Or.inl ⟨by rfl, ?_⟩) (by assumption) ?_
    rotate_left
    · (intro w hSw; (try dsimp only at hSw); first | (go_simp; done) | (go_simp; with_reducible rfl))
    try simp only [Act.put, List.setIfInBounds_toArray, List.set_cons_zero, List.set_cons_succ]
    refine wpAnyH_take (i := 11) (oi := { dst := some 4, op := Go.Op.assign (Go.Operand.tmp 15), type := 4, pos := "l7_sets.go:250", after := #[{ on := 10, ground := Go.Ground.data }, { on := 9, ground := Go.Ground.chain }, { on := 0, ground := Go.Ground.phase }, { on := 1, ground := Go.Ground.phase }, { on := 2, ground := Go.Ground.phase }, { on := 3, ground := Go.Ground.phase }, { on := 4, ground := Go.Ground.phase }, { on := 5, ground := Go.Ground.phase }, { on := 6, ground := Go.Ground.phase }, { on := 7, ground := Go.Ground.phase }, { on := 8, ground := Go.Ground.phase }, { on := 9, ground := Go.Ground.phase }, { on := 10, ground := Go.Ground.phase }], guard := none }) (v := ?_) rfl (by kernel_rfl) (by kernel_rfl) (by kernel_rfl) (fun _ _ _ h => h) (Or.inl ⟨by rfl, ?_⟩) (by assumption) ?_
    rotate_left
    · (intro w hSw; (try dsimp only at hSw); first | (go_simp; done) | (go_simp; with_reducible rfl))
    try simp only [Act.put, List.setIfInBounds_toArray, List.set_cons_zero, List.set_cons_succ]
    refine wpAnyH_done (by kernel_rfl) ?_ _
    go_wp2
    go_ret
    exact ⟨rfl, by go_grown⟩

set_option maxHeartbeats 1000000 in
theorem divide1_any (h l : List UInt8) (k n a c : Nat) (w : World) (hl0 : l ≠ []) (hh : h.length ≤ 1000000000) (hl : l.length ≤ 1000000000) (hn : n ≤ 1000000000) (hk : k ≤ 1000) (h1 : S2 w a (bs h) (bs l)) (h0 : FB w c (.int .i64 k)) :
    Calls Tryd.prog 64 #[.int .i64 n, .pointer (some ⟨a, 0, none⟩), .pointer (some ⟨c, 0, none⟩)] w fun e w' => e = .returned (.bool (inS (dvA (atS h l) k) n)) ∧ Below w.heap.size w w' := by
  have e : inS (dvA (atS h l) k) n = inS (atS h l) (n * k) := by unfold inS dvA; rw [Nat.mul_comm]
  obtain ⟨u1, u2⟩ := h0
  obtain ⟨v1, v2, v3, v4⟩ := h1
  obtain ⟨m, hm⟩ : ∃ m, n * k = m := ⟨_, rfl⟩
  have hml : m ≤ 1000000000000 := by rw [← hm]; exact Nat.le_trans (Nat.mul_le_mul hn hk) (by omega)
  have hmi : (n : Int) * (k : Int) = (m : Int) := by rw [← hm]; exact (Int.natCast_mul n k).symm
  have hw : IntKind.i64.wrap (m : Int) = (m : Int) := by rw [IntKind.wrap_i64]; omega
  have HR := Lib.hid fun w => has_any h l m w hl0 hh hl (by omega)
  obtain ⟨b, hb⟩ : ∃ b, inS (atS h l) m = b := ⟨_, rfl⟩
  rw [hm, hb] at e
  rw [hb] at HR
  rw [e]
  clear e hb hm hl0
  go_enter Tryd.func64, Tryd.ntmps64
  go_wp2_with fail
  refine (HR.out _).mono ?_
  rintro e w1 ⟨rfl, hb1⟩
  go_wp2
  go_ret
  exact ⟨rfl, hb1⟩

set_option maxHeartbeats 400000 in
theorem isFactor_any (k : Int) (w : World) :
    Calls Tryd.prog 58 #[.int .i64 k] w fun e w' => e = .returned (.bool (decide (1 ≤ k ∧ k ≤ 240))) ∧ w = w' := by
  go_enter Tryd.func58, Tryd.ntmps58
  go_wp2
  all_goals (go_ret; exact ⟨ret_bool (by simp; try omega), rfl⟩)

set_option maxRecDepth 10000 in
set_option maxHeartbeats 4000000 in
theorem ShiftSet_any (h l : List UInt8) (k : Int) (w : World) (hh : h.length ≤ 1000000000) (hl : l.length ≤ 1000000000) (k0 : -9223372036854775808 ≤ k) (k1 : k ≤ 9223372036854775807) :
    Calls Tryd.prog 25 #[.agg #[.string (bs h), .string (bs l)], .int .i64 k] w fun e w' => e = .returned (.tuple #[.agg #[.string (bs (shR h l k).1.1), .string (bs (shR h l k).1.2)], .bool (shR h l k).2]) ∧ Below w.heap.size w w' := by
  have HV := Lib.hid fun w => SetValid_any h l w hh hl
  have HS := Lib.hid (svS_parts (h := h) (l := l))
  obtain ⟨v, hv⟩ : ∃ v, svS h l = v := ⟨_, rfl⟩
  have HQ : Hid (svS h l = v) := Lib.hid hv
  rw [hv] at HV
  clear hv
  cases v with
  | false =>
    have HF : Hid (shR h l k = (([], []), false)) := Lib.hid (by unfold shR; rw [HQ.out]; rfl)
    go_enter Tryd.func25, Tryd.ntmps25
    go_wp2_with fail
    generalize hW0 : World.alloc w _ = W0
    obtain ⟨hx, hsx, hwx⟩ := s2_new hW0
    clear hW0
    generalize hW : World.alloc W0 _ = W1
    obtain ⟨hy, hsy, hwy⟩ := fb_new hW
    rw [hsx] at hy
    clear hW
    generalize hW : World.alloc W1 _ = W2
    obtain ⟨hz, hsz, hwz⟩ := s2_new hW
    rw [hsy, hsx] at hz
    clear hW
    have X2 := s2_on hx (below_on hwy hwz)
    have Y2 := fb_on hy hwz
    have R2 := hz
    have B2 := below_on hwx (below_on hwy hwz)
    have hne : w.heap.size ≤ w.heap.size + 1 + 1 := by omega
    clear hx hy hz hwx hwy hwz hsx hsy hsz
    refine (HV.out _).mono ?_
    rintro e w3 ⟨rfl, hb3⟩
    have X3 := s2_on X2 hb3
    have Y3 := fb_on Y2 hb3
    have R3 := s2_on R2 hb3
    have B3 := below_on B2 hb3
    clear X2 Y2 R2 B2 hb3
    obtain ⟨x0, x1, x2, x3⟩ := id X3
    obtain ⟨y0, y1⟩ := id Y3
    obtain ⟨a0, a1, a2, a3⟩ := id R3
    go_wp2
    generalize hW : World.setCell _ _ _ = W8
    obtain ⟨⟨_, r1, r2, _⟩, _, _, hb8⟩ := s2_put hW _ _ R3
    refine bodyPost_ret (v := .tuple #[.agg #[.string ⟨#[]⟩, .string ⟨#[]⟩], .bool false]) (by simp [results, Tryd.results25, go_sem, r1, r2]) rfl ⟨by rw [HF.out]; rfl, ?_⟩
    exact hb8 w B3 hne
  | true =>
    by_cases hc1 : k < 0
    · have HF : Hid (shR h l k = (([], []), false)) := Lib.hid (by unfold shR; rw [if_neg (by rw [HQ.out]; simp; omega)])
      have g0 : decide ((k : Int) < 0) = true := decide_eq_true (by omega)
      clear hc1
      go_enter Tryd.func25, Tryd.ntmps25
      go_wp2_with fail
      generalize hW0 : World.alloc w _ = W0
      obtain ⟨hx, hsx, hwx⟩ := s2_new hW0
      clear hW0
      generalize hW : World.alloc W0 _ = W1
      obtain ⟨hy, hsy, hwy⟩ := fb_new hW
      rw [hsx] at hy
      clear hW
      generalize hW : World.alloc W1 _ = W2
      obtain ⟨hz, hsz, hwz⟩ := s2_new hW
      rw [hsy, hsx] at hz
      clear hW
      have X2 := s2_on hx (below_on hwy hwz)
      have Y2 := fb_on hy hwz
      have R2 := hz
      have B2 := below_on hwx (below_on hwy hwz)
      have hne : w.heap.size ≤ w.heap.size + 1 + 1 := by omega
      clear hx hy hz hwx hwy hwz hsx hsy hsz
      refine (HV.out _).mono ?_
      rintro e w3 ⟨rfl, hb3⟩
      have X3 := s2_on X2 hb3
      have Y3 := fb_on Y2 hb3
      have R3 := s2_on R2 hb3
      have B3 := below_on B2 hb3
      clear X2 Y2 R2 B2 hb3
      obtain ⟨x0, x1, x2, x3⟩ := id X3
      obtain ⟨y0, y1⟩ := id Y3
      obtain ⟨a0, a1, a2, a3⟩ := id R3
      go_wp2
      generalize hW : World.setCell _ _ _ = W8
      obtain ⟨⟨_, r1, r2, _⟩, _, _, hb8⟩ := s2_put hW _ _ R3
      refine bodyPost_ret (v := .tuple #[.agg #[.string ⟨#[]⟩, .string ⟨#[]⟩], .bool false]) (by simp [results, Tryd.results25, go_sem, r1, r2]) rfl ⟨by rw [HF.out]; rfl, ?_⟩
      exact hb8 w B3 hne
    by_cases hc2 : 400 < k
    · have HF : Hid (shR h l k = (([], []), false)) := Lib.hid (by unfold shR; rw [if_neg (by rw [HQ.out]; simp; omega)])
      have g0 : decide ((k : Int) < 0) = false := decide_eq_false (by omega)
      have g1 : decide ((400 : Int) < k) = true := decide_eq_true (by omega)
      clear hc1 hc2
      go_enter Tryd.func25, Tryd.ntmps25
      go_wp2_with fail
      generalize hW0 : World.alloc w _ = W0
      obtain ⟨hx, hsx, hwx⟩ := s2_new hW0
      clear hW0
      generalize hW : World.alloc W0 _ = W1
      obtain ⟨hy, hsy, hwy⟩ := fb_new hW
      rw [hsx] at hy
      clear hW
      generalize hW : World.alloc W1 _ = W2
      obtain ⟨hz, hsz, hwz⟩ := s2_new hW
      rw [hsy, hsx] at hz
      clear hW
      have X2 := s2_on hx (below_on hwy hwz)
      have Y2 := fb_on hy hwz
      have R2 := hz
      have B2 := below_on hwx (below_on hwy hwz)
      have hne : w.heap.size ≤ w.heap.size + 1 + 1 := by omega
      clear hx hy hz hwx hwy hwz hsx hsy hsz
      refine (HV.out _).mono ?_
      rintro e w3 ⟨rfl, hb3⟩
      have X3 := s2_on X2 hb3
      have Y3 := fb_on Y2 hb3
      have R3 := s2_on R2 hb3
      have B3 := below_on B2 hb3
      clear X2 Y2 R2 B2 hb3
      obtain ⟨x0, x1, x2, x3⟩ := id X3
      obtain ⟨y0, y1⟩ := id Y3
      obtain ⟨a0, a1, a2, a3⟩ := id R3
      go_wp2
      generalize hW : World.setCell _ _ _ = W8
      obtain ⟨⟨_, r1, r2, _⟩, _, _, hb8⟩ := s2_put hW _ _ R3
      refine bodyPost_ret (v := .tuple #[.agg #[.string ⟨#[]⟩, .string ⟨#[]⟩], .bool false]) (by simp [results, Tryd.results25, go_sem, r1, r2]) rfl ⟨by rw [HF.out]; rfl, ?_⟩
      exact hb8 w B3 hne
    obtain ⟨K, rfl⟩ : ∃ K : Nat, k = K := ⟨k.toNat, by omega⟩
    have g0 : decide ((K : Int) < 0) = false := decide_eq_false (by omega)
    have g1 : decide ((400 : Int) < (K : Int)) = false := decide_eq_false (by omega)
    have hK : K ≤ 400 := by omega
    obtain ⟨q1, q2, q3, q4, q5, q6⟩ := HS.out HQ.out
    have HF : Hid (shR h l K = resA (shA (atS h l) K)) := Lib.hid (by unfold shR; rw [if_pos (by rw [HQ.out]; simp; omega)]; rfl)
    obtain ⟨r, hr⟩ : ∃ r, resA (shA (atS h l) K) = r := ⟨_, rfl⟩
    have HR := Lib.hid hr
    rw [hr] at HF
    have hs1 := bs_size h
    have hs2 := bs_size l
    obtain ⟨H, hH⟩ : ∃ H, h.length = H := ⟨_, rfl⟩
    obtain ⟨L, hL⟩ : ∃ L, l.length = L := ⟨_, rfl⟩
    obtain ⟨m, hm⟩ : ∃ m, H + K = m := ⟨_, rfl⟩
    have hw : IntKind.i64.wrap ((H : Int) + (K : Int)) = (m : Int) := by rw [IntKind.wrap_i64]; omega
    have HSO : Hid (∀ W, S2 W w.heap.size (bs h) (bs l) → FB W (w.heap.size + 1) (.int .i64 K) → Calls Tryd.prog 51 #[.int .i64 m, .int .i64 L, .func (.func 55) #[] #[.pointer (some ⟨w.heap.size + 1, 0, none⟩), .pointer (some ⟨w.heap.size, 0, none⟩)]] W fun e w' => e = .returned (.tuple #[.agg #[.string (bs r.1.1), .string (bs r.1.2)], .bool r.2]) ∧ Below W.heap.size W w') := Lib.hid fun W s1 s2 => by
      have := setOf_seq 55 #[.pointer (some ⟨w.heap.size + 1, 0, none⟩), .pointer (some ⟨w.heap.size, 0, none⟩)] (fun n => inS (shA (atS h l) K) n) (shA (atS h l) K) m L W Tryd.ensh (by omega) (by omega) (fun n => bits_in (bits_sh (bits_at q6 q1 q2) K) n) (by rw [← hm, ← hH, ← hL]; exact per_sh h l K)
        (fun V hV j hj => shift1_any h l K j _ _ V q6 hh hl (by omega) (by omega) (fb_on s2 hV) (s2_on s1 hV))
      rw [HR.out] at this
      exact this
    rw [hH] at hs1
    rw [hL] at hs2
    clear hc1 hc2 k0 k1 hr q1 q2 q3 q4 q5 q6 hH hL hm hh hl
    go_enter Tryd.func25, Tryd.ntmps25
    go_wp2_with fail
    generalize hW0 : World.alloc w _ = W0
    obtain ⟨hx, hsx, hwx⟩ := s2_new hW0
    clear hW0
    generalize hW : World.alloc W0 _ = W1
    obtain ⟨hy, hsy, hwy⟩ := fb_new hW
    rw [hsx] at hy
    clear hW
    generalize hW : World.alloc W1 _ = W2
    obtain ⟨hz, hsz, hwz⟩ := s2_new hW
    rw [hsy, hsx] at hz
    clear hW
    have X2 := s2_on hx (below_on hwy hwz)
    have Y2 := fb_on hy hwz
    have R2 := hz
    have B2 := below_on hwx (below_on hwy hwz)
    have hne : w.heap.size ≤ w.heap.size + 1 + 1 := by omega
    clear hx hy hz hwx hwy hwz hsx hsy hsz
    refine (HV.out _).mono ?_
    rintro e w3 ⟨rfl, hb3⟩
    have X3 := s2_on X2 hb3
    have Y3 := fb_on Y2 hb3
    have R3 := s2_on R2 hb3
    have B3 := below_on B2 hb3
    clear X2 Y2 R2 B2 hb3
    obtain ⟨x0, x1, x2, x3⟩ := id X3
    obtain ⟨y0, y1⟩ := id Y3
    obtain ⟨a0, a1, a2, a3⟩ := id R3
    go_wp2_with fail
    refine (HSO.out _ X3 Y3).mono ?_
    rintro e w4 ⟨rfl, hb4⟩
    have R4 := s2_on R3 hb4
    have B4 := below_on B3 hb4
    clear a0 a1 a2 a3 x0 x1 x2 x3 y0 y1
    obtain ⟨a0, a1, a2, a3⟩ := id R4
    go_wp2
    generalize hW : World.setCell _ _ _ = W8
    obtain ⟨⟨_, r1, r2, _⟩, _, _, hb8⟩ := s2_put hW _ _ R4
    refine bodyPost_ret (v := .tuple #[.agg #[.string (bs r.1.1), .string (bs r.1.2)], .bool r.2]) (by simp [results, Tryd.results25, go_sem, r1, r2]) rfl ⟨by rw [HF.out], ?_⟩
    exact hb8 w B4 hne

set_option maxRecDepth 10000 in
set_option maxHeartbeats 4000000 in
theorem StretchSet_any (h l : List UInt8) (k : Int) (w : World) (hh : h.length ≤ 1000000000) (hl : l.length ≤ 1000000000) (k0 : -9223372036854775808 ≤ k) (k1 : k ≤ 9223372036854775807) :
    Calls Tryd.prog 27 #[.agg #[.string (bs h), .string (bs l)], .int .i64 k] w fun e w' => e = .returned (.tuple #[.agg #[.string (bs (stR h l k).1.1), .string (bs (stR h l k).1.2)], .bool (stR h l k).2]) ∧ Below w.heap.size w w' := by
  have HV := Lib.hid fun w => SetValid_any h l w hh hl
  have HS := Lib.hid (svS_parts (h := h) (l := l))
  obtain ⟨v, hv⟩ : ∃ v, svS h l = v := ⟨_, rfl⟩
  have HQ : Hid (svS h l = v) := Lib.hid hv
  rw [hv] at HV
  clear hv
  cases v with
  | false =>
    have HF : Hid (stR h l k = (([], []), false)) := Lib.hid (by unfold stR; rw [HQ.out]; rfl)
    go_enter Tryd.func27, Tryd.ntmps27
    go_wp2_with fail
    generalize hW0 : World.alloc w _ = W0
    obtain ⟨hx, hsx, hwx⟩ := s2_new hW0
    clear hW0
    generalize hW : World.alloc W0 _ = W1
    obtain ⟨hy, hsy, hwy⟩ := fb_new hW
    rw [hsx] at hy
    clear hW
    generalize hW : World.alloc W1 _ = W2
    obtain ⟨hz, hsz, hwz⟩ := s2_new hW
    rw [hsy, hsx] at hz
    clear hW
    have X2 := s2_on hx (below_on hwy hwz)
    have Y2 := fb_on hy hwz
    have R2 := hz
    have B2 := below_on hwx (below_on hwy hwz)
    have hne : w.heap.size ≤ w.heap.size + 1 + 1 := by omega
    clear hx hy hz hwx hwy hwz hsx hsy hsz
    refine (HV.out _).mono ?_
    rintro e w3 ⟨rfl, hb3⟩
    have X3 := s2_on X2 hb3
    have Y3 := fb_on Y2 hb3
    have R3 := s2_on R2 hb3
    have B3 := below_on B2 hb3
    clear X2 Y2 R2 B2 hb3
    obtain ⟨x0, x1, x2, x3⟩ := id X3
    obtain ⟨y0, y1⟩ := id Y3
    obtain ⟨a0, a1, a2, a3⟩ := id R3
    go_wp2
    generalize hW : World.setCell _ _ _ = W8
    obtain ⟨⟨_, r1, r2, _⟩, _, _, hb8⟩ := s2_put hW _ _ R3
    refine bodyPost_ret (v := .tuple #[.agg #[.string ⟨#[]⟩, .string ⟨#[]⟩], .bool false]) (by simp [results, Tryd.results27, go_sem, r1, r2]) rfl ⟨by rw [HF.out]; rfl, ?_⟩
    exact hb8 w B3 hne
  | true =>
    have HI := Lib.hid (isFactor_any k)
    by_cases hc : 1 ≤ k ∧ k ≤ 240
    case neg =>
      have HF : Hid (stR h l k = (([], []), false)) := Lib.hid (by unfold stR; rw [if_neg (by rw [HQ.out, decide_eq_false hc]; simp)])
      rw [decide_eq_false hc] at HI
      clear hc
      go_enter Tryd.func27, Tryd.ntmps27
      go_wp2_with fail
      generalize hW0 : World.alloc w _ = W0
      obtain ⟨hx, hsx, hwx⟩ := s2_new hW0
      clear hW0
      generalize hW : World.alloc W0 _ = W1
      obtain ⟨hy, hsy, hwy⟩ := fb_new hW
      rw [hsx] at hy
      clear hW
      generalize hW : World.alloc W1 _ = W2
      obtain ⟨hz, hsz, hwz⟩ := s2_new hW
      rw [hsy, hsx] at hz
      clear hW
      have X2 := s2_on hx (below_on hwy hwz)
      have Y2 := fb_on hy hwz
      have R2 := hz
      have B2 := below_on hwx (below_on hwy hwz)
      have hne : w.heap.size ≤ w.heap.size + 1 + 1 := by omega
      clear hx hy hz hwx hwy hwz hsx hsy hsz
      refine (HV.out _).mono ?_
      rintro e w3 ⟨rfl, hb3⟩
      have X3 := s2_on X2 hb3
      have Y3 := fb_on Y2 hb3
      have R3 := s2_on R2 hb3
      have B3 := below_on B2 hb3
      clear X2 Y2 R2 B2 hb3
      obtain ⟨x0, x1, x2, x3⟩ := id X3
      obtain ⟨y0, y1⟩ := id Y3
      obtain ⟨a0, a1, a2, a3⟩ := id R3
      go_wp2_with fail
      refine (HI.out _).mono ?_
      rintro e w4 ⟨rfl, rfl⟩
      go_wp2
      generalize hW : World.setCell _ _ _ = W8
      obtain ⟨⟨_, r1, r2, _⟩, _, _, hb8⟩ := s2_put hW _ _ R3
      refine bodyPost_ret (v := .tuple #[.agg #[.string ⟨#[]⟩, .string ⟨#[]⟩], .bool false]) (by simp [results, Tryd.results27, go_sem, r1, r2]) rfl ⟨by rw [HF.out]; rfl, ?_⟩
      exact hb8 w B3 hne
    rw [decide_eq_true hc] at HI
    obtain ⟨K, rfl⟩ : ∃ K : Nat, k = K := ⟨k.toNat, by omega⟩
    have hK1 : 1 ≤ K := by omega
    have hK : K ≤ 240 := by omega
    obtain ⟨q1, q2, q3, q4, q5, q6⟩ := HS.out HQ.out
    have HF : Hid (stR h l K = resA (stA (atS h l) K)) := Lib.hid (by unfold stR; rw [if_pos (by rw [HQ.out, decide_eq_true hc]; rfl)]; rfl)
    obtain ⟨r, hr⟩ : ∃ r, resA (stA (atS h l) K) = r := ⟨_, rfl⟩
    have HR := Lib.hid hr
    rw [hr] at HF
    have hs1 := bs_size h
    have hs2 := bs_size l
    have hper := per_st h l hK1 q6
    obtain ⟨H, hH⟩ : ∃ H, h.length = H := ⟨_, rfl⟩
    obtain ⟨L, hL⟩ : ∃ L, l.length = L := ⟨_, rfl⟩
    obtain ⟨m, hm⟩ : ∃ m, H * K = m := ⟨_, rfl⟩
    obtain ⟨p, hp⟩ : ∃ p, L * K = p := ⟨_, rfl⟩
    rw [hH, hL, hm, hp] at hper
    have hmi : (H : Int) * (K : Int) = (m : Int) := by rw [← hm]; exact (Int.natCast_mul H K).symm
    have hpi : (L : Int) * (K : Int) = (p : Int) := by rw [← hp]; exact (Int.natCast_mul L K).symm
    have hmb : m ≤ 96000 := by rw [← hm]; exact Nat.le_trans (Nat.mul_le_mul (show H ≤ 400 by omega) hK) (by omega)
    have hpb : p ≤ 57600 := by rw [← hp]; exact Nat.le_trans (Nat.mul_le_mul (show L ≤ 240 by omega) hK) (by omega)
    have hp0 : 0 < p := by rw [← hp]; exact Nat.mul_pos (by omega) (by omega)
    have hw1 : IntKind.i64.wrap (m : Int) = (m : Int) := by rw [IntKind.wrap_i64]; omega
    have hw2 : IntKind.i64.wrap (p : Int) = (p : Int) := by rw [IntKind.wrap_i64]; omega
    have HSO : Hid (∀ W, S2 W w.heap.size (bs h) (bs l) → FB W (w.heap.size + 1) (.int .i64 K) → Calls Tryd.prog 51 #[.int .i64 m, .int .i64 p, .func (.func 59) #[] #[.pointer (some ⟨w.heap.size + 1, 0, none⟩), .pointer (some ⟨w.heap.size, 0, none⟩)]] W fun e w' => e = .returned (.tuple #[.agg #[.string (bs r.1.1), .string (bs r.1.2)], .bool r.2]) ∧ Below W.heap.size W w') := Lib.hid fun W s1 s2 => by
      have := setOf_seq 59 #[.pointer (some ⟨w.heap.size + 1, 0, none⟩), .pointer (some ⟨w.heap.size, 0, none⟩)] (fun n => inS (stA (atS h l) K) n) (stA (atS h l) K) m p W Tryd.enst hp0 (by omega) (fun n => bits_in (bits_st (bits_at q6 q1 q2) K) n) hper
        (fun V hV j hj => stretch1_any h l K j _ _ V q6 hh hl (by omega) hK1 (by omega) (fb_on s2 hV) (s2_on s1 hV))
      rw [HR.out] at this
      exact this
    rw [hH] at hs1
    rw [hL] at hs2
    clear hc k0 k1 hr q1 q2 q3 q4 q5 q6 hH hL hm hp hh hl hper
    go_enter Tryd.func27, Tryd.ntmps27
    go_wp2_with fail
    generalize hW0 : World.alloc w _ = W0
    obtain ⟨hx, hsx, hwx⟩ := s2_new hW0
    clear hW0
    generalize hW : World.alloc W0 _ = W1
    obtain ⟨hy, hsy, hwy⟩ := fb_new hW
    rw [hsx] at hy
    clear hW
    generalize hW : World.alloc W1 _ = W2
    obtain ⟨hz, hsz, hwz⟩ := s2_new hW
    rw [hsy, hsx] at hz
    clear hW
    have X2 := s2_on hx (below_on hwy hwz)
    have Y2 := fb_on hy hwz
    have R2 := hz
    have B2 := below_on hwx (below_on hwy hwz)
    have hne : w.heap.size ≤ w.heap.size + 1 + 1 := by omega
    clear hx hy hz hwx hwy hwz hsx hsy hsz
    refine (HV.out _).mono ?_
    rintro e w3 ⟨rfl, hb3⟩
    have X3 := s2_on X2 hb3
    have Y3 := fb_on Y2 hb3
    have R3 := s2_on R2 hb3
    have B3 := below_on B2 hb3
    clear X2 Y2 R2 B2 hb3
    obtain ⟨x0, x1, x2, x3⟩ := id X3
    obtain ⟨y0, y1⟩ := id Y3
    obtain ⟨a0, a1, a2, a3⟩ := id R3
    go_wp2_with fail
    refine (HI.out _).mono ?_
    rintro e w3a ⟨rfl, rfl⟩
    go_wp2_with fail
    refine (HSO.out _ X3 Y3).mono ?_
    rintro e w4 ⟨rfl, hb4⟩
    have R4 := s2_on R3 hb4
    have B4 := below_on B3 hb4
    clear a0 a1 a2 a3 x0 x1 x2 x3 y0 y1
    obtain ⟨a0, a1, a2, a3⟩ := id R4
    go_wp2
    generalize hW : World.setCell _ _ _ = W8
    obtain ⟨⟨_, r1, r2, _⟩, _, _, hb8⟩ := s2_put hW _ _ R4
    refine bodyPost_ret (v := .tuple #[.agg #[.string (bs r.1.1), .string (bs r.1.2)], .bool r.2]) (by simp [results, Tryd.results27, go_sem, r1, r2]) rfl ⟨by rw [HF.out], ?_⟩
    exact hb8 w B4 hne

end Go.Proofs.YtpheihejgnlanaaDoor
