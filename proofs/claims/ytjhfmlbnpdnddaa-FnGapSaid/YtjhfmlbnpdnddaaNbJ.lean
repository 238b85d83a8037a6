/- The program's Bezout's numbers and rounded quotients. -/
import Derived.Test.YtjhfmlbnpdnddaaNbI
namespace Go.Proofs.Ytjhfmlbnpdnddaa
open Go.RowKit

theorem c3_other {W : World} {x y o : Nat} {a b c : Int} {v : Value} (h : C3 W x a b c) (hy : y ≠ x) : C3 (W.setCell ⟨y, o, none⟩ v) x a b c := by
  obtain ⟨x0, c0, c1, c2, fz⟩ := h
  exact ⟨by simpa [World.setCell] using x0, by simp [go_sem, *], by simp [go_sem, *], by simp [go_sem, *], fun o => by simp [go_sem, *]⟩

def noDiv : List PanicEntry := [{ v := .iface 9 (.string ⟨#[100, 105, 118, 105, 115, 105, 111, 110, 32, 98, 121, 32, 110, 111, 116, 104, 105, 110, 103]⟩), recovered := false }]

set_option maxHeartbeats 1000000 in
theorem bezout_zero (w : World) :
    Calls Try.prog 78 #[.int .i64 0, .int .i64 0] w fun e w' => e = .panicked noDiv ∧ Below w.heap.size w w' := by
  have HE := Lib.hid fun W => euclidMix_any 0 0 W (by omega) (by omega)
  have HS := Lib.hid fun W => size_any 0 W (by omega) (by omega)
  have HD := Lib.hid fun W => divided_zero 0 W
  go_enter Try.func78, Try.ntmps78
  go_wp2_with fail
  generalize hW : World.alloc w _ = W
  have hw0 : Below w.heap.size w W := by subst hW; go_grown
  clear hW
  refine (HE.out W).mono ?_
  rintro e w1 ⟨⟨n, X, Y, u, v, rfl, hEu⟩, hbw1⟩
  have hn := eu_end hEu
  obtain rfl : n = 0 := by simp at hn; exact hn
  have hB1 := below_on hw0 hbw1
  clear hEu hn
  go_wp2_with fail
  generalize hW2 : World.alloc w1 _ = W2
  have hm2 : C3 W2 w1.heap.size 0 X Y := by subst hW2; exact (by refine ⟨?_, ?_, ?_, ?_, ?_⟩ <;> first | (simp [go_sem]; done) | (simp; omega) | (intro o; simp [go_sem]; done))
  have hB2 : Below w.heap.size w W2 := by subst hW2; exact hB1.alloc hB1.size _
  clear hW2
  obtain ⟨m0, m1, m2, m3, m4⟩ := id hm2
  refine wp_region_held_drew (S := (fun w' => Below W2.heap.size W2 w' ∧ w'.cell? ⟨w1.heap.size, 0, none⟩ = some (.int .i64 0))) (by kernel_rfl) ?_ (fun hHeld => ?_)
  · try dsimp only
    (exact ⟨(by go_grown), (c3_on hm2 (by go_grown)).2.1⟩)
  refine wpAnyH_take (i := 0) (oi := { dst := some 16, op := Go.Op.fieldAddr 71 (Go.Operand.tmp 5) 0, type := 0, pos := "l5_numbers.go:131", after := #[], guard := none }) (v := ?_) rfl (by kernel_rfl) (by kernel_rfl) (by kernel_rfl) (fun _ _ _ h => h) (Or.inl ⟨by rfl, ?_⟩) (by assumption) ?_
  rotate_left
  · (intro w hSw; (try dsimp only at hSw); first | (go_simp; done) | (go_simp; with_reducible rfl))
  try simp only [Act.put, List.setIfInBounds_toArray, List.set_cons_zero, List.set_cons_succ]
  refine wpAnyH_take (i := 1) (oi := { dst := some 17, op := Go.Op.load 3 (Go.Operand.tmp 16), type := 3, pos := "l5_numbers.go:131", after := #[{ on := 0, ground := Go.Ground.data }], guard := none }) (v := ?_) rfl (by kernel_rfl) (by kernel_rfl) (by kernel_rfl) (fun _ _ _ h => h) (Or.inl ⟨by rfl, ?_⟩) (by assumption) ?_
  rotate_left
  · (intro w hSw; (try dsimp only at hSw); first | (go_simp; done) | (go_simp; with_reducible rfl))
  try simp only [Act.put, List.setIfInBounds_toArray, List.set_cons_zero, List.set_cons_succ]
  refine wpAnyH_take (i := 2) (oi := { dst := some 18, op := Go.Op.fieldAddr 71 (Go.Operand.tmp 5) 0, type := 0, pos := "l5_numbers.go:131", after := #[], guard := none }) (v := ?_) rfl (by kernel_rfl) (by kernel_rfl) (by kernel_rfl) (fun _ _ _ h => h) (Or.inl ⟨by rfl, ?_⟩) (by assumption) ?_
  rotate_left
  · (intro w hSw; (try dsimp only at hSw); first | (go_simp; done) | (go_simp; with_reducible rfl))
  try simp only [Act.put, List.setIfInBounds_toArray, List.set_cons_zero, List.set_cons_succ]
  refine wpAnyH_take (i := 3) (oi := { dst := some 19, op := Go.Op.load 3 (Go.Operand.tmp 18), type := 3, pos := "l5_numbers.go:131", after := #[{ on := 2, ground := Go.Ground.data }], guard := none }) (v := ?_) rfl (by kernel_rfl) (by kernel_rfl) (by kernel_rfl) (fun _ _ _ h => h) (Or.inl ⟨by rfl, ?_⟩) (by assumption) ?_
  rotate_left
  · (intro w hSw; (try dsimp only at hSw); first | (go_simp; done) | (go_simp; with_reducible rfl))
  try simp only [Act.put, List.setIfInBounds_toArray, List.set_cons_zero, List.set_cons_succ]
  refine wpAnyH_ready (rs := [4]) (by kernel_rfl) (by simp) ?_
  refine AllReadyH.cons (o := { dst := some 20, op := Go.Op.call { callee := Go.Callee.value (Go.Operand.func 102), args := #[Go.Operand.tmp 19], argTypes := #[3] }, type := 3, pos := "l5_numbers.go:131", after := #[{ on := 3, ground := Go.Ground.data }], guard := none }) rfl (fun K hK => ?_) AllReadyH.nil
  go_simp
  (go_at_call 102; refine (HS.out _).mono ?_; rintro e w' ⟨rfl, rfl⟩)
  (try go_wp2_with fail)
  refine hK.out _ _ ?_ (fun hHeld => ?_)
  · try dsimp only
    (exact ⟨(by go_grown), (c3_on hm2 (by go_grown)).2.1⟩)
  clear hK K
  try simp only [Act.put, List.setIfInBounds_toArray, List.set_cons_zero, List.set_cons_succ]
  refine wpAnyH_ready (rs := [5]) (by kernel_rfl) (by simp) ?_
  refine AllReadyH.cons (o := { dst := some 21, op := Go.Op.call { callee := Go.Callee.value (Go.Operand.func 86), args := #[Go.Operand.tmp 17, Go.Operand.tmp 20], argTypes := #[3, 3] }, type := 38, pos := "l5_numbers.go:131", after := #[{ on := 1, ground := Go.Ground.data }, { on := 4, ground := Go.Ground.data }, { on := 4, ground := Go.Ground.chain }], guard := none }) rfl (fun K hK => ?_) AllReadyH.nil
  go_simp
  (go_at_call 86; refine (HD.out _).mono ?_; rintro e w' ⟨rfl, rfl⟩; exact ⟨rfl, rfl, below_on hB2 (by go_grown)⟩)

noncomputable def bezT (a b : Int) : Int × Int × Int × Bool := if (numB a && numB b && !(decide (a = 0) && decide (b = 0))) = true then ((bezV a b).1, (bezV a b).2.1, (bezV a b).2.2, true) else (0, 0, 0, false)
def T4 (t : Int × Int × Int × Bool) : Value := .tuple #[.int .i64 t.1, .int .i64 t.2.1, .int .i64 t.2.2.1, .bool t.2.2.2]
theorem bezV_is' {a b : Int} (h : ¬ (a = 0 ∧ b = 0)) : IsBez a b (bezV a b).1 (bezV a b).2.1 (bezV a b).2.2 := by
  obtain ⟨x, y, hb⟩ := isBez_exists (a := a) (b := b)
  rw [bezV_is h hb]
  exact hb

/-- What the closure of BezoutOf does. -/
theorem bezClo_ok (a b g x y : Int) (A B M : Nat) (W : World) (hA : W.cell? ⟨A, 0, none⟩ = some (.int .i64 a)) (hB : W.cell? ⟨B, 0, none⟩ = some (.int .i64 b)) (hM : C3 W M 0 0 0)
    (ha : -1000000 ≤ a ∧ a ≤ 1000000) (hb : -1000000 ≤ b ∧ b ≤ 1000000) (h0 : ¬ (a = 0 ∧ b = 0)) (h : IsBez a b g x y) :
    Calls Try.prog 77 #[.pointer (some ⟨A, 0, none⟩), .pointer (some ⟨B, 0, none⟩), .pointer (some ⟨M, 0, none⟩)] W fun e w' => e = .returned (.tuple #[]) ∧ ∃ w2, Below W.heap.size W w2 ∧ w' = ((w2.setCell ⟨M, 0, none⟩ (.int .i64 g)).setCell ⟨M, 1, none⟩ (.int .i64 x)).setCell ⟨M, 2, none⟩ (.int .i64 y) := by
  have HB := Lib.hid fun W => bezout_at a b g x y W ha hb h0 h
  clear h h0 ha hb
  go_enter Try.func77, Try.ntmps77
  go_wp2_with fail
  refine (HB.out _).mono ?_
  rintro e w1 ⟨rfl, hb1⟩
  have hM1 := c3_on hM hb1
  obtain ⟨m0, m1, m2, m3, m4⟩ := id hM1
  go_wp2
  go_end0
  exact ⟨rfl, w1, hb1, rfl⟩

theorem bezClo_dies (A B M : Nat) (W : World) (hA : W.cell? ⟨A, 0, none⟩ = some (.int .i64 0)) (hB : W.cell? ⟨B, 0, none⟩ = some (.int .i64 0)) :
    Calls Try.prog 77 #[.pointer (some ⟨A, 0, none⟩), .pointer (some ⟨B, 0, none⟩), .pointer (some ⟨M, 0, none⟩)] W fun e w' => e = .panicked noDiv ∧ Below W.heap.size W w' := by
  have HB := Lib.hid fun W => bezout_zero W
  go_enter Try.func77, Try.ntmps77
  go_wp2_with fail
  refine (HB.out _).mono ?_
  rintro e w1 ⟨rfl, hb1⟩
  exact ⟨rfl, rfl, hb1⟩

theorem en_bez : ∀ (args : Array Value) (w : World), Sem.run Try.prog (callFunc 77 args) w = .ok (.enter 77 args) w := fun _ _ => by kernel_rfl
theorem en_flo : ∀ (args : Array Value) (w : World), Sem.run Try.prog (callFunc 85 args) w = .ok (.enter 85 args) w := fun _ _ => by kernel_rfl

set_option maxHeartbeats 1000000 in
theorem BezoutOf_any (a b : Int) (w : World) :
    Calls Try.prog 26 #[.int .i64 a, .int .i64 b] w fun e w' => e = .returned (T4 (bezT a b)) ∧ Below w.heap.size w w' := by
  have hmf : ∀ (fn : Fn) (first cap : Array Value) (w : World), (Instr.makeFunc fn first cap).run Try.prog w = .ok (.func fn first cap) w := fun _ _ _ _ => rfl
  rcases ha : numB a with _ | _
  · have e : bezT a b = (0, 0, 0, false) := by unfold bezT; rw [if_neg (by simp [ha])]
    rw [e]
    go_enter Try.func26, Try.ntmps26
    go_wp2_with (go_at_call 75; refine (isNumber_any _ _).mono ?_; rintro e w' ⟨rfl, rfl⟩)
    go_returns
    exact ⟨rfl, by go_grown⟩
  rcases hb : numB b with _ | _
  · have e : bezT a b = (0, 0, 0, false) := by unfold bezT; rw [if_neg (by simp [hb])]
    rw [e]
    go_enter Try.func26, Try.ntmps26
    go_wp2_with (go_at_call 75; refine (isNumber_any _ _).mono ?_; rintro e w' ⟨rfl, rfl⟩)
    go_returns
    exact ⟨rfl, by go_grown⟩
  obtain ⟨a0, a1⟩ := numB_yes ha
  obtain ⟨b0, b1⟩ := numB_yes hb
  by_cases hz : a = 0 ∧ b = 0
  · have e : bezT a b = (0, 0, 0, false) := by unfold bezT; rw [if_neg (by simp [hz])]
    rw [e]
    obtain ⟨rfl, rfl⟩ := hz
    go_enter Try.func26, Try.ntmps26
    go_wp2_with (go_at_call 75; refine (isNumber_any _ _).mono ?_; rintro e w' ⟨rfl, rfl⟩)
    generalize hW : ((w.alloc (.cells #[.int .i64 0] 3)).alloc (.cells #[.int .i64 0] 3)).alloc (.cells #[.int .i64 0, .int .i64 0, .int .i64 0] 71) = W
    have hM : C3 W (w.heap.size + 1 + 1) 0 0 0 := by subst hW; exact (by refine ⟨?_, ?_, ?_, ?_, ?_⟩ <;> first | (simp [go_sem]; done) | (simp; omega) | (intro o; simp [go_sem]; done))
    have hA : W.cell? ⟨w.heap.size, 0, none⟩ = some (.int .i64 0) := by subst hW; simp [go_sem]
    have hB : W.cell? ⟨w.heap.size + 1, 0, none⟩ = some (.int .i64 0) := by subst hW; simp [go_sem]
    have hw0 : Below w.heap.size w W := by subst hW; go_grown
    have hsz : W.heap.size = w.heap.size + 1 + 1 + 1 := by subst hW; simp
    clear hW
    have hBo : Below W.heap.size W (W.alloc (.cells #[.bool false] 4)) := by go_grown
    refine (tried_dies _ _ W (fun w1 => Below (W.alloc (.cells #[.bool false] 4)).heap.size (W.alloc (.cells #[.bool false] 4)) w1) _ _ en_bez (bezClo_dies _ _ _ _ (((bcell hBo).1 _ 0 (by omega)).trans hA) (((bcell hBo).1 _ 0 (by omega)).trans hB)) (fun w1 h => ⟨((bcell h).1 _ 0 (by simp)).trans (by simp [go_sem]), ((bcell h).2 _ 0 (by simp)).trans (by simp [go_sem])⟩)).mono ?_
    rintro e w2 ⟨rfl, w1, hr, rfl⟩
    have hbb := below_on hBo hr
    have hs1 := hbb.size
    have hM1 := c3_other (y := W.heap.size) (o := 0) (v := .bool false) (c3_on hM hbb) (by omega)
    have hB1 : Below w.heap.size w (w1.setCell ⟨W.heap.size, 0, none⟩ (.bool false)) := (below_on hw0 hbb).setCell (by dsimp only; omega) _
    generalize w1.setCell ⟨W.heap.size, 0, none⟩ (.bool false) = w2 at *
    clear hr hbb hs1 hA hB hM hBo
    obtain ⟨m0, m1, m2, m3, m4⟩ := hM1
    go_upto_region 5 with fail
    go_quiet (fail)
    go_wp2
    go_returns
    exact ⟨rfl, below_on hB1 (below_dq _ _)⟩
  · have e : bezT a b = ((bezV a b).1, (bezV a b).2.1, (bezV a b).2.2, true) := by unfold bezT; rw [if_pos (by simp only [ha, hb, Bool.true_and, Bool.not_eq_true', Bool.and_eq_false_iff, decide_eq_false_iff_not]; omega)]
    rw [e]
    have hbz := bezV_is' hz
    generalize bezV a b = t at *
    obtain ⟨g, x, y⟩ := t
    dsimp only at *
    have HC := Lib.hid fun A B M W h1 h2 h3 => bezClo_ok a b g x y A B M W h1 h2 h3 (by omega) (by omega) hz hbz
    clear e hz hbz
    go_enter Try.func26, Try.ntmps26
    go_wp2_with (go_at_call 75; refine (isNumber_any _ _).mono ?_; rintro e w' ⟨rfl, rfl⟩)
    generalize hW : ((w.alloc (.cells #[.int .i64 a] 3)).alloc (.cells #[.int .i64 b] 3)).alloc (.cells #[.int .i64 0, .int .i64 0, .int .i64 0] 71) = W
    have hM : C3 W (w.heap.size + 1 + 1) 0 0 0 := by subst hW; exact (by refine ⟨?_, ?_, ?_, ?_, ?_⟩ <;> first | (simp [go_sem]; done) | (simp; omega) | (intro o; simp [go_sem]; done))
    have hA : W.cell? ⟨w.heap.size, 0, none⟩ = some (.int .i64 a) := by subst hW; simp [go_sem]
    have hB : W.cell? ⟨w.heap.size + 1, 0, none⟩ = some (.int .i64 b) := by subst hW; simp [go_sem]
    have hw0 : Below w.heap.size w W := by subst hW; go_grown
    have hsz : W.heap.size = w.heap.size + 1 + 1 + 1 := by subst hW; simp
    clear hW
    have hBo : Below W.heap.size W (W.alloc (.cells #[.bool false] 4)) := by go_grown
    refine (tried_ret _ _ W (fun w' => ∃ w2, Below (W.alloc (.cells #[.bool false] 4)).heap.size (W.alloc (.cells #[.bool false] 4)) w2 ∧ w' = ((w2.setCell ⟨w.heap.size + 1 + 1, 0, none⟩ (.int .i64 g)).setCell ⟨w.heap.size + 1 + 1, 1, none⟩ (.int .i64 x)).setCell ⟨w.heap.size + 1 + 1, 2, none⟩ (.int .i64 y)) en_bez (HC.out _ _ _ _ (((bcell hBo).1 _ 0 (by omega)).trans hA) (((bcell hBo).1 _ 0 (by omega)).trans hB) (c3_on hM hBo)) (fun w1 ⟨w2, h, e⟩ => ?_)).mono ?_
    · subst e
      have h1 := ((bcell h).1 W.heap.size 0 (by simp)).trans (show _ = some (.bool false) by simp [go_sem])
      have h2 := ((bcell h).2 W.heap.size 0 (by simp)).trans (show _ = false by simp [go_sem])
      exact ⟨by simp [go_sem, h1], by simp [go_sem, h2]⟩
    rintro e w4 ⟨rfl, w3, ⟨w2, hr, hw3⟩, rfl⟩
    have hbb := below_on hBo hr
    have hs1 := hbb.size
    obtain ⟨hM3, hs3, _, hb3⟩ := three_put hw3.symm _ _ _ (c3_on hM hbb)
    have hB3 := hb3 w (below_on hw0 hbb) (by omega)
    have hM1 := c3_other (y := W.heap.size) (o := 0) (v := .bool true) (c3_other (y := W.heap.size) (o := 0) (v := .bool true) hM3 (by omega)) (by omega)
    have hB1 : Below w.heap.size w ((w3.setCell ⟨W.heap.size, 0, none⟩ (.bool true)).setCell ⟨W.heap.size, 0, none⟩ (.bool true)) := (hB3.setCell (by dsimp only; omega) _).setCell (by dsimp only; omega) _
    generalize (w3.setCell ⟨W.heap.size, 0, none⟩ (.bool true)).setCell ⟨W.heap.size, 0, none⟩ (.bool true) = w4 at *
    clear hr hbb hs1 hA hB hM hBo hM3 hs3 hb3 hB3 hw3 hw0 hsz
    obtain ⟨m0, m1, m2, m3, m4⟩ := hM1
    go_upto_region 5 with fail
    go_quiet (fail)
    go_wp2
    go_returns
    exact ⟨rfl, below_on hB1 (below_dq _ _)⟩

end Go.Proofs.Ytjhfmlbnpdnddaa
