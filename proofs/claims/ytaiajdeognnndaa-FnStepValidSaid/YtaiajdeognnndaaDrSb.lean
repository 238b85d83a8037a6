/- The draw of a step. -/
import Derived.Test.YtaiajdeognnndaaDrSa
import Derived.Deep.RegionHeld3
import Derived.Deep.DeepCutAuto
namespace Go.Proofs.Ytaiajdeognnndaa
open Go.RowKit

theorem oper_appendS {P : Program} {w w' : World} {o : Oper} {a : Act} {K : Act → World → Prop} {Q : Exit → Act → World → Prop} (s x : Operand) (t : TypeId)
    (ho : o.op = .call { callee := .builtin .append, args := #[s, x], argTypes := #[t, t] }) {v y v' : Value} (hs : a.eval s = v) (hx : a.eval x = y)
    (hr : (Builtin.append_ #[t, t] o.type #[v, y]).run P w = .ok v' w') (h : K (a.put o.dst v') w') : Oper.wp P o a w K Q := by
  unfold Oper.wp execOp
  simp only [ho, resolve, invoke, builtin, Sem.run_bind, Sem.run_pure, Result.andThen_ok, List.map_toArray, List.map_cons, List.map_nil, hs, hx, hr]
  exact h
theorem four_atS {w : World} {b : Nat} {x y z u : Int} (h0 : w.cell? ⟨b, 0, none⟩ = some (.int .i64 x)) (h1 : w.cell? ⟨b, 1, none⟩ = some (.int .i64 y)) (h2 : w.cell? ⟨b, 2, none⟩ = some (.int .i64 z)) (h3 : w.cell? ⟨b, 3, none⟩ = some (.int .i64 u)) :
    ∀ (i : Nat) v, ([x, y, z, u] : List Int)[i]? = some v → w.cell? ⟨b, i, none⟩ = some (.int .i64 v) := by
  intro i v hv
  match i, hv with
  | 0, hv => simp at hv; subst hv; exact h0
  | 1, hv => simp at hv; subst hv; exact h1
  | 2, hv => simp at hv; subst hv; exact h2
  | 3, hv => simp at hv; subst hv; exact h3
theorem sgV_end {b : Nat} {s t : Value} {F T : List Int} {W W8 : World} (h : SgV b s t F T W) (hW : (W.setCell ⟨b, 0, none⟩ s).setCell ⟨b, 1, none⟩ t = W8) :
    W8.cell? ⟨b, 0, none⟩ = some s ∧ W8.cell? ⟨b, 1, none⟩ = some t ∧ RdJb W8 b s F ∧ RdJb W8 b t T ∧ Below b W W8 := by
  obtain ⟨h0, h1, h2, h3, h4, h5, h6, h7, h8, h9⟩ := h
  have k8 : ∀ y, y ≠ b → W8.heap[y]? = W.heap[y]? := fun y hy => by subst hW; repeat rw [Below.heap_setCell _ _ _ _ (by dsimp only; omega)]
  refine ⟨by subst hW; simp [go_sem, h7], by subst hW; simp [go_sem, h8], rdJb_mono (owJ_rdb (owJ_keep h3 fun y hy _ => k8 y (by omega))) (by omega), rdJb_mono (owJ_rdb (owJ_keep h4 fun y hy _ => k8 y (by omega))) (by omega), ?_⟩
  subst hW
  have hB : b ≤ b := Nat.le_refl b
  exact ((Below.refl b W).setCell hB s).setCell hB t

theorem sgV_zero {b : Nat} {s t : Value} {F T : List Int} {W W8 : World} (h : SgV b s t F T W) (hW : (W.setCell ⟨b, 0, none⟩ (.slice none 0 0)).setCell ⟨b, 1, none⟩ (.slice none 0 0) = W8) :
    W8.cell? ⟨b, 0, none⟩ = some (.slice none 0 0) ∧ W8.cell? ⟨b, 1, none⟩ = some (.slice none 0 0) ∧ Below b W W8 := by
  obtain ⟨h0, h1, h2, h3, h4, h5, h6, h7, h8, h9⟩ := h
  refine ⟨by subst hW; simp [go_sem, h7], by subst hW; simp [go_sem, h8], ?_⟩
  subst hW
  have hB : b ≤ b := Nat.le_refl b
  exact ((Below.refl b W).setCell hB _).setCell hB _
theorem rdJ_nil (W : World) (b : Nat) : RdJb W b (.slice none 0 0) [] := ⟨none, 0, rfl, Nat.le_refl _, by unfold maxLen; omega, .inl rfl⟩
theorem sgV_pre {b : Nat} {s t : Value} {F T : List Int} {W w6 : World} {v : Option Nat} (h : SgV b s t F T W) (hg : W.grownBy w6 v) (hv : ∀ y, v = some y → b + 2 ≤ y) :
    w6.cell? ⟨b + 1, 0, none⟩ = some s ∧ w6.cell? ⟨b + 1, 1, none⟩ = some t ∧ (∀ o, w6.frozen? ⟨b + 1, o, none⟩ = false) ∧ w6.cell? ⟨b, 0, none⟩ = some (.slice none 0 0) ∧ w6.cell? ⟨b, 1, none⟩ = some (.slice none 0 0) ∧ ∀ o, w6.frozen? ⟨b, o, none⟩ = false := by
  obtain ⟨h0, h1, h2, _, _, _, h6, h7, h8, h9⟩ := h
  have k1 := hg.block (b + 1) h0 (fun e => by have := hv _ e.symm; omega)
  have k0 := hg.block b (by omega) (fun e => by have := hv _ e.symm; omega)
  exact ⟨(World.cell?_of_block (a := ⟨b + 1, 0, none⟩) k1).trans h1, (World.cell?_of_block (a := ⟨b + 1, 1, none⟩) k1).trans h2, fun o => (World.frozen?_of_block (a := ⟨b + 1, o, none⟩) k1).trans (h6 o), (World.cell?_of_block (a := ⟨b, 0, none⟩) k0).trans h7, (World.cell?_of_block (a := ⟨b, 1, none⟩) k0).trans h8, fun o => (World.frozen?_of_block (a := ⟨b, o, none⟩) k0).trans (h9 o)⟩
theorem owJ_slice {W : World} {B : Nat} {v : Value} {L : List Int} (h : OwJ W B v L) : ∃ a n c, v = .slice a n c := (owJ_rd h).slice
theorem app_intS (b : Nat) (v : Value) (L : List Int) (x : Int) (W : World) (h : OwJ W (b + 2) v L) (hL : L.length ≤ 1000) (hb : b + 1 ≤ W.heap.size) :
    ∃ g c w6, (Builtin.append_ #[32, 32] 32 #[v, .slice (some ⟨W.heap.size, 0, none⟩) 1 1]).run Try.prog (W.alloc (.cells #[.int .i64 x] 3)) = .ok (.slice (some ⟨g, 0, none⟩) (L.length + 1) c) w6 ∧
      w6.ownsRow (b + 2) 3 1 (.slice (some ⟨g, 0, none⟩) (L.length + 1) c) (L.length + 1) (L.map (Value.int .i64) ++ [.int .i64 x]) ∧
      (W.alloc (.cells #[.int .i64 x] 3)).grownBy w6 v.ownBlock ∧ ((Value.slice (some ⟨g, 0, none⟩) (L.length + 1) c).ownBlock = v.ownBlock ∨ (Value.slice (some ⟨g, 0, none⟩) (L.length + 1) c).ownBlock = some (W.alloc (.cells #[.int .i64 x] 3)).heap.size) := by
  obtain ⟨i0, hi, hz0, hz1, hz2⟩ := info_parts Try.infoIntS
  obtain ⟨v6, w6, h1, h2, h3, h4⟩ := append_one (P := Try.prog) (ty := 32) Try.underlying32 hi hz0 hz1 hz2 rfl ((show W.ownsRow (b + 2) 3 1 v L.length (L.map (Value.int .i64)) from h).alloc (.cells #[.int .i64 x] 3)) (a := ⟨W.heap.size, 0, none⟩) (x := .int .i64 x) (by simp) rfl (by omega) (by omega) (by simp; omega)
  rcases id h2.2 with ⟨_, h0⟩ | ⟨g, cap, cur, rfl, _⟩
  · omega
  · exact ⟨g, cap, w6, h1, h2, h3, h4⟩

def SdT (r : Nat) (p : Int) (w : World) (e : Ending) (w' : World) : Prop :=
  ∃ s t F T, e = .returned (.agg #[s, t]) ∧ RdJb w' w.heap.size s F ∧ RdJb w' w.heap.size t T ∧ F.length ≤ 10 ∧ T.length ≤ 10 ∧ Turned r p 20 w w'
def LpS (r : Nat) (p : Int) (w : World) (at' nn : Value) (wr : World) : Prop :=
  ∃ (a m : Nat) (s t : Value) (F T : List Int) (K : Int), at' = .int .i64 a ∧ nn = .int .i64 m ∧ a ≤ 200 ∧ m ≤ 3 ∧ F.length + m ≤ 3 ∧ T.length + m ≤ 3 ∧ 0 ≤ K ∧ K + 2 * m ≤ 8 ∧ SgV w.heap.size s t F T wr ∧ Turned r p K w wr

set_option maxRecDepth 10000 in
set_option maxHeartbeats 8000000 in
theorem l10Step_t (r : Nat) (p : Int) (N : Nat) (w : World) (h : Rd w r p) (hp0 : 0 ≤ p) (hp : p ≤ 900000) (hN : N ≤ 100) :
    Calls Try.prog 38 #[.pointer (some ⟨r, 0, none⟩), .int .i64 N] w (SdT r p w) := by
  have hrb := rd_lt h
  have H := Lib.hid h
  clear h
  go_enter Try.func38, Try.ntmps38
  go_upto_region 2 with fail
  generalize hW : World.alloc _ _ = W
  have hbW : Below w.heap.size w W := by subst hW; go_grown
  have hsg : SgV w.heap.size (.slice none 0 0) (.slice none 0 0) [] [] W := by
    subst hW
    refine ⟨by simp, by simp [go_sem], by simp [go_sem], World.ownsRow_nil _ _ _ _, World.ownsRow_nil _ _ _ _, fun x hx => by simp [Value.ownBlock] at hx, fun o => by simp [go_sem], by simp [go_sem], by simp [go_sem], fun o => by simp [go_sem]⟩
  have HSG1 := Lib.hid hsg
  have HR1 := Lib.hid (rd_on H.out hbW)
  have HT1 := Lib.hid (turned_below (turned_none H.out) hbW)
  clear hW hsg hbW
  go_cut [6] (fun v V => ∃ a : Nat, v = .int .i64 a ∧ a ≤ 100 ∧ Turned r p 1 W V)
  case first =>
    go_wp2_with fail
    all_goals
      refine (pick_t r p _ W HR1.out (by omega)).mono ?_
      rintro e w2 ⟨x, rfl, x0, x1, ht⟩
      obtain ⟨a, rfl⟩ : ∃ a : Nat, x = a := ⟨x.toNat, by omega⟩
      go_wp2_with fail
      go_meet
      exact ⟨a, rfl, by omega, ht⟩
  case rest =>
    rename World => W2
    obtain ⟨a0, rfl, ha0, ht2⟩ := hcut
    have HSG2 := Lib.hid (sgV_turn HSG1.out ht2.1 hrb)
    have HT2 := Lib.hid (turned_two HT1.out HR1.out ht2 (Int.le_refl _) (by omega))
    obtain ⟨_, q2, q20, q21, hR2⟩ := ht2
    have HR2 := Lib.hid hR2
    clear HSG1 HT1 HR1 hR2
    go_wp2_with fail
    refine (pick_t r q2 3 W2 HR2.out (by omega)).mono ?_
    rintro e w3 ⟨x, rfl, x0, x1, ht3⟩
    obtain ⟨y, rfl⟩ : ∃ y : Nat, x = y := ⟨x.toNat, by omega⟩
    have HSG3 := Lib.hid (sgV_turn HSG2.out ht3.1 hrb)
    have HT3 := Lib.hid (turned_two HT2.out HR2.out ht3 (by omega) (by omega))
    have hy3 : y ≤ 2 := by omega
    have HST := Lib.hid (show LpS r p w (.int .i64 a0) (.int .i64 (1 + (y : Int))) w3 from ⟨a0, 1 + y, _, _, [], [], 0 + 1 + 1, rfl, by go_num, by omega, by omega, by simp; omega, by simp; omega, by omega, by omega, HSG3.out, HT3.out⟩)
    clear HSG2 HT2 HR2 HSG3 HT3 ht3 x0 x1
    go_wp2_with fail
    go_loopw [6, 7] (fun a n wr => LpS r p w a n wr) (fun _ n _ => (intOf n).toNat)
    case atStart => exact HST.out
    case round =>
      obtain ⟨a, m, s, t, F, T, K, rfl, rfl, ha, hm, hFl, hTl, hK0, hK, hsg, htn⟩ := hrel
      rename World => W4
      clear HST
      obtain ⟨_, q, q0, q1, hR⟩ := id htn
      obtain ⟨sa, sn, sc, rfl⟩ := owJ_slice hsg.2.2.2.1
      obtain ⟨ta, tn, tc, rfl⟩ := owJ_slice hsg.2.2.2.2.1
      have HSG := Lib.hid hsg
      have HTN := Lib.hid htn
      have HRD := Lib.hid hR
      clear hsg htn hR
      by_cases hc : 0 < m ∧ a < N
      · obtain ⟨m1, rfl⟩ : ∃ m1, m = m1 + 1 := ⟨m - 1, by omega⟩
        have haN : a < N := hc.2
        have d1 : (0 : Int) < (m1 : Int) + 1 := by omega
        have d1' : decide ((m1 : Int) + 1 > 0) = true := by rw [decide_eq_true_iff]; omega
        have d1'' : decide ((0 : Int) < (m1 : Int) + 1) = true := d1'
        have d2 : decide ((a : Int) < (N : Int)) = true := by rw [decide_eq_true_iff]; omega
        have d2' : decide (a < N) = true := by rw [decide_eq_true_iff]; exact haN
        clear hc
        obtain ⟨g0, g1, g2, _, _, _, g6, _, _, _⟩ := HSG.out
        obtain ⟨gg6, cc6, w6, hrun, hown6, hgrow, hob⟩ := app_intS w.heap.size (.slice sa sn sc) (F) (a : Int) W4 HSG.out.2.2.2.1 (by omega) (by have := HSG.out.1; omega)
        obtain ⟨e0, ef, e7⟩ := sgV_app0 (sgV_on HSG.out (by go_grown)) hown6 hgrow hob
        have HRUN := Lib.hid hrun
        have HE7 := Lib.hid e7
        clear hrun hown6 hgrow hob e7
        go_wp2_with (at_builtin; refine wpList_append_run rfl _ _ 32 rfl rfl rfl HRUN.out ?_)
        clear HRUN
        go_upto_region 7 with fail
        generalize hW7 : World.setCell _ _ _ = W7
        obtain ⟨hsg7, hb7⟩ := HE7.out W7 hW7
        have HTN7 := Lib.hid (turned_low (turned_below HTN.out (show Below W4.heap.size W4 (W4.alloc (.cells #[.int .i64 (a : Int)] 3)) by go_grown)) hb7 hrb)
        have HSG7 := Lib.hid hsg7
        clear hW7 HE7 e0 ef hsg7 hb7 g0 g1 g2 g6 HSG HTN
        have HSG := HSG7
        have HTN := HTN7
        clear HSG7 HTN7
        obtain ⟨_, q9, q90, q91, hR9⟩ := id HTN.out
        have HRD := Lib.hid hR9
        clear hR9
        obtain ⟨g0, g1, g2, _, _, _, g6, _, _, _⟩ := HSG.out
        have HSG0 := Lib.hid HSG.out
        clear HSG
        have hrW : r < W7.heap.size := rd_lt HRD.out
        go_wp2_with fail
        refine wp_region_held_drew (S := fun _ => True) (by kernel_rfl) trivial (fun _ => ?_)
        refine wpAnyH_take (i := 0) (oi := { dst := some 31, op := Go.Op.fieldAddr 34 (Go.Operand.tmp 5) 1, type := 0, pos := "l10_proofs.go:339", after := #[], guard := none }) (v := ?_) rfl (by kernel_rfl) (by kernel_rfl) (by kernel_rfl) (fun _ _ _ h => h) (Or.inl ⟨by rfl, ?_⟩) (by assumption) ?_
        rotate_left
        · (intro w _; first | (go_simp; done) | (go_simp; with_reducible rfl))
        try simp only [Act.put, List.setIfInBounds_toArray, List.set_cons_zero, List.set_cons_succ]
        refine wpAnyH_take (i := 2) (oi := { dst := some 33, op := Go.Op.move (Go.Operand.tmp 0), type := 74, pos := "l10_proofs.go:339", after := #[], guard := none }) (v := ?_) rfl (by kernel_rfl) (by kernel_rfl) (by kernel_rfl) (fun _ _ _ h => h) (Or.inl ⟨by rfl, ?_⟩) (by assumption) ?_
        rotate_left
        · (intro w _; first | (go_simp; done) | (go_simp; with_reducible rfl))
        try simp only [Act.put, List.setIfInBounds_toArray, List.set_cons_zero, List.set_cons_succ]
        refine wpAnyH_ready (rs := [1, 3]) (by kernel_rfl) (by simp) ?_
        refine AllReadyH.cons (o := { dst := some 32, op := Go.Op.load 32 (Go.Operand.tmp 31), type := 32, pos := "l10_proofs.go:339", after := #[{ on := 0, ground := Go.Ground.data }], guard := none }) rfl (fun K hK => ?_) (AllReadyH.cons (o := { dst := some 34, op := Go.Op.buildSlice 32 4 #[(0, Go.Operand.const (Go.Value.int Go.IntKind.i64 1)), (1, Go.Operand.const (Go.Value.int Go.IntKind.i64 2)), (2, Go.Operand.const (Go.Value.int Go.IntKind.i64 3)), (3, Go.Operand.const (Go.Value.int Go.IntKind.i64 1))], type := 32, pos := "l10_proofs.go:339", after := #[], guard := none }) rfl (fun K hK => ?_) AllReadyH.nil)
        ·
          go_simp
          refine hK.out _ _ trivial (fun _ => ?_)
          clear hK K
          try simp only [Act.put, List.setIfInBounds_toArray, List.set_cons_zero, List.set_cons_succ]
          refine wpAnyH_ready (rs := [3]) (by kernel_rfl) (by simp) ?_
          refine AllReadyH.cons (o := { dst := some 34, op := Go.Op.buildSlice 32 4 #[(0, Go.Operand.const (Go.Value.int Go.IntKind.i64 1)), (1, Go.Operand.const (Go.Value.int Go.IntKind.i64 2)), (2, Go.Operand.const (Go.Value.int Go.IntKind.i64 3)), (3, Go.Operand.const (Go.Value.int Go.IntKind.i64 1))], type := 32, pos := "l10_proofs.go:339", after := #[], guard := none }) rfl (fun K hK => ?_) AllReadyH.nil
          go_simp
          refine hK.out _ _ trivial (fun _ => ?_)
          clear hK K
          try simp only [Act.put, List.setIfInBounds_toArray, List.set_cons_zero, List.set_cons_succ]
          refine wpAnyH_ready (rs := [4]) (by kernel_rfl) (by simp) ?_
          refine AllReadyH.cons (o := { dst := some 35, op := Go.Op.call { callee := Go.Callee.value (Go.Operand.func 63), args := #[Go.Operand.tmp 33, Go.Operand.tmp 34], argTypes := #[74, 32] }, type := 3, pos := "l10_proofs.go:339", after := #[{ on := 2, ground := Go.Ground.data }, { on := 3, ground := Go.Ground.data }], guard := none }) rfl (fun K hK => ?_) AllReadyH.nil
          go_simp
          (go_at_call 63; refine (num_t r W7.heap.size q9 [1, 2, 3, 1] _ (rd_on HRD.out (by go_grown)) (by omega) (by simp) (by simp) (by simp) (by omega) (four_atS (by simp [go_sem]) (by simp [go_sem]) (by simp [go_sem]) (by simp [go_sem]))).mono ?_; rintro e w5 ⟨y, rfl, hy, ht5'⟩; have ht5 : Turned r _ _ W7 w5 := below_turned (by go_grown) ht5'; have hsg5 := sgV_turn HSG0.out ht5.1 hrb; have HSG := Lib.hid hsg5; have HTN5 := Lib.hid (turned_two HTN.out HRD.out ht5 (by omega) (by omega)); obtain ⟨k0, k1, k2, _, _, _, k6, _, _, _⟩ := hsg5; obtain ⟨gg6, cc6, w6, hrun, hown6, hgrow, hob⟩ := app_intS w.heap.size (.slice ta tn tc) (T) y w5 HSG.out.2.2.2.2.1 (by omega) (by have := HSG.out.1; omega); obtain ⟨e0, ef, e7⟩ := sgV_app1 (sgV_on HSG.out (by go_grown)) hown6 hgrow hob; clear ht5 ht5' hown6 hgrow hob hy)
          refine hK.out _ _ trivial (fun _ => ?_)
          clear hK K
          try simp only [Act.put, List.setIfInBounds_toArray, List.set_cons_zero, List.set_cons_succ]
          refine wpAnyH_ready (rs := [5]) (by kernel_rfl) (by simp) ?_
          refine AllReadyH.cons (o := { dst := some 36, op := Go.Op.buildSlice 32 1 #[(0, Go.Operand.tmp 35)], type := 32, pos := "l10_proofs.go:339", after := #[{ on := 4, ground := Go.Ground.data }], guard := none }) rfl (fun K hK => ?_) AllReadyH.nil
          go_simp
          refine hK.out _ _ trivial (fun _ => ?_)
          clear hK K
          try simp only [Act.put, List.setIfInBounds_toArray, List.set_cons_zero, List.set_cons_succ]
          refine wpAnyH_ready (rs := [6]) (by kernel_rfl) (by simp) ?_
          refine AllReadyH.cons (o := { dst := some 37, op := Go.Op.call { callee := Go.Callee.builtin Go.Builtin.append, args := #[Go.Operand.tmp 32, Go.Operand.tmp 36], argTypes := #[32, 32] }, type := 32, pos := "l10_proofs.go:339", after := #[{ on := 1, ground := Go.Ground.data }, { on := 5, ground := Go.Ground.data }, { on := 4, ground := Go.Ground.chain }], guard := none }) rfl (fun K hK => ?_) AllReadyH.nil
          rw [if_pos (by rfl)]
          (refine oper_appendS _ _ _ rfl rfl rfl hrun ?_)
          refine hK.out _ _ trivial (fun _ => ?_)
          clear hK K
          try simp only [Act.put, List.setIfInBounds_toArray, List.set_cons_zero, List.set_cons_succ]
          refine wpAnyH_take (i := 7) (oi := { dst := some 38, op := Go.Op.fieldAddr 34 (Go.Operand.tmp 5) 1, type := 0, pos := "l10_proofs.go:339", after := #[{ on := 0, ground := Go.Ground.phase }, { on := 1, ground := Go.Ground.phase }, { on := 2, ground := Go.Ground.phase }, { on := 3, ground := Go.Ground.phase }, { on := 4, ground := Go.Ground.phase }, { on := 5, ground := Go.Ground.phase }, { on := 6, ground := Go.Ground.phase }], guard := none }) (v := ?_) rfl (by kernel_rfl) (by kernel_rfl) (by kernel_rfl) (fun _ _ _ h => h) (Or.inl ⟨by rfl, ?_⟩) (by assumption) ?_
          rotate_left
          · (intro w _; first | (go_simp; done) | (go_simp; with_reducible rfl))
          try simp only [Act.put, List.setIfInBounds_toArray, List.set_cons_zero, List.set_cons_succ]
          refine wpAnyH_ready (rs := [8]) (by kernel_rfl) (by simp) ?_
          refine AllReadyH.cons (o := { dst := none, op := Go.Op.store 32 (Go.Operand.tmp 38) (Go.Operand.tmp 37), type := 0, pos := "l10_proofs.go:339", after := #[{ on := 7, ground := Go.Ground.data }, { on := 6, ground := Go.Ground.data }, { on := 6, ground := Go.Ground.chain }, { on := 0, ground := Go.Ground.phase }, { on := 1, ground := Go.Ground.phase }, { on := 2, ground := Go.Ground.phase }, { on := 3, ground := Go.Ground.phase }, { on := 4, ground := Go.Ground.phase }, { on := 5, ground := Go.Ground.phase }, { on := 6, ground := Go.Ground.phase }], guard := none }) rfl (fun K hK => ?_) AllReadyH.nil
          go_simp
          refine hK.out _ _ trivial (fun _ => ?_)
          clear hK K
          try simp only [Act.put, List.setIfInBounds_toArray, List.set_cons_zero, List.set_cons_succ]
          refine wpAnyH_done (by kernel_rfl) ?_ _
          generalize hW7 : World.setCell _ _ _ = W7
          obtain ⟨hsg7, hb7⟩ := e7 W7 hW7
          have HTN7 := Lib.hid (turned_low (turned_below HTN5.out (show Below w5.heap.size w5 (w5.alloc (.cells #[.int .i64 y] 3)) by go_grown)) hb7 hrb)
          have HSG7 := Lib.hid hsg7
          clear hW7 hrun e7 e0 ef hsg7 hb7 g0 g1 g2 g6 k0 k1 k2 k6 HSG HTN5 HSG0 HTN
          obtain ⟨_, q8, q80, q81, hR8⟩ := id HTN7.out
          have HRD8 := Lib.hid hR8
          clear hR8
          go_wp2_with fail
          refine (pick_t r q8 4 W7 HRD8.out (by omega)).mono ?_
          rintro e w8 ⟨x, rfl, x0, x1, ht8⟩
          obtain ⟨z, rfl⟩ : ∃ z : Nat, x = z := ⟨x.toNat, by omega⟩
          have HSG8 := Lib.hid (sgV_turn HSG7.out ht8.1 hrb)
          have HTN8 := Lib.hid (turned_two HTN7.out HRD8.out ht8 (by omega) (by omega))
          have hwz : IntKind.i64.wrap ((a : Int) + 1 + (z : Int)) = (a : Int) + 1 + (z : Int) := by rw [IntKind.wrap_i64]; omega
          clear ht8 HSG7 HTN7 HRD8
          go_wp2
          go_roundw
          case rel => exact ⟨a + 1 + z, m1, _, _, _, _, _, by go_num, by go_num, by omega, by omega, by first | omega | (simp only [List.length_append, List.length_cons, List.length_nil]; omega), by first | omega | (simp only [List.length_append, List.length_cons, List.length_nil]; omega), by omega, by omega, HSG8.out, HTN8.out⟩
          case measure => simp [intOf] <;> omega
        ·
          go_simp
          refine hK.out _ _ trivial (fun _ => ?_)
          clear hK K
          try simp only [Act.put, List.setIfInBounds_toArray, List.set_cons_zero, List.set_cons_succ]
          refine wpAnyH_ready (rs := [1, 4]) (by kernel_rfl) (by simp) ?_
          refine AllReadyH.cons (o := { dst := some 32, op := Go.Op.load 32 (Go.Operand.tmp 31), type := 32, pos := "l10_proofs.go:339", after := #[{ on := 0, ground := Go.Ground.data }], guard := none }) rfl (fun K hK => ?_) (AllReadyH.cons (o := { dst := some 35, op := Go.Op.call { callee := Go.Callee.value (Go.Operand.func 63), args := #[Go.Operand.tmp 33, Go.Operand.tmp 34], argTypes := #[74, 32] }, type := 3, pos := "l10_proofs.go:339", after := #[{ on := 2, ground := Go.Ground.data }, { on := 3, ground := Go.Ground.data }], guard := none }) rfl (fun K hK => ?_) AllReadyH.nil)
          ·
            go_simp
            refine hK.out _ _ trivial (fun _ => ?_)
            clear hK K
            try simp only [Act.put, List.setIfInBounds_toArray, List.set_cons_zero, List.set_cons_succ]
            refine wpAnyH_ready (rs := [4]) (by kernel_rfl) (by simp) ?_
            refine AllReadyH.cons (o := { dst := some 35, op := Go.Op.call { callee := Go.Callee.value (Go.Operand.func 63), args := #[Go.Operand.tmp 33, Go.Operand.tmp 34], argTypes := #[74, 32] }, type := 3, pos := "l10_proofs.go:339", after := #[{ on := 2, ground := Go.Ground.data }, { on := 3, ground := Go.Ground.data }], guard := none }) rfl (fun K hK => ?_) AllReadyH.nil
            go_simp
            (go_at_call 63; refine (num_t r W7.heap.size q9 [1, 2, 3, 1] _ (rd_on HRD.out (by go_grown)) (by omega) (by simp) (by simp) (by simp) (by omega) (four_atS (by simp [go_sem]) (by simp [go_sem]) (by simp [go_sem]) (by simp [go_sem]))).mono ?_; rintro e w5 ⟨y, rfl, hy, ht5'⟩; have ht5 : Turned r _ _ W7 w5 := below_turned (by go_grown) ht5'; have hsg5 := sgV_turn HSG0.out ht5.1 hrb; have HSG := Lib.hid hsg5; have HTN5 := Lib.hid (turned_two HTN.out HRD.out ht5 (by omega) (by omega)); obtain ⟨k0, k1, k2, _, _, _, k6, _, _, _⟩ := hsg5; obtain ⟨gg6, cc6, w6, hrun, hown6, hgrow, hob⟩ := app_intS w.heap.size (.slice ta tn tc) (T) y w5 HSG.out.2.2.2.2.1 (by omega) (by have := HSG.out.1; omega); obtain ⟨e0, ef, e7⟩ := sgV_app1 (sgV_on HSG.out (by go_grown)) hown6 hgrow hob; clear ht5 ht5' hown6 hgrow hob hy)
            refine hK.out _ _ trivial (fun _ => ?_)
            clear hK K
            try simp only [Act.put, List.setIfInBounds_toArray, List.set_cons_zero, List.set_cons_succ]
            refine wpAnyH_ready (rs := [5]) (by kernel_rfl) (by simp) ?_
            refine AllReadyH.cons (o := { dst := some 36, op := Go.Op.buildSlice 32 1 #[(0, Go.Operand.tmp 35)], type := 32, pos := "l10_proofs.go:339", after := #[{ on := 4, ground := Go.Ground.data }], guard := none }) rfl (fun K hK => ?_) AllReadyH.nil
            go_simp
            refine hK.out _ _ trivial (fun _ => ?_)
            clear hK K
            try simp only [Act.put, List.setIfInBounds_toArray, List.set_cons_zero, List.set_cons_succ]
            refine wpAnyH_ready (rs := [6]) (by kernel_rfl) (by simp) ?_
            refine AllReadyH.cons (o := { dst := some 37, op := Go.Op.call { callee := Go.Callee.builtin Go.Builtin.append, args := #[Go.Operand.tmp 32, Go.Operand.tmp 36], argTypes := #[32, 32] }, type := 32, pos := "l10_proofs.go:339", after := #[{ on := 1, ground := Go.Ground.data }, { on := 5, ground := Go.Ground.data }, { on := 4, ground := Go.Ground.chain }], guard := none }) rfl (fun K hK => ?_) AllReadyH.nil
            rw [if_pos (by rfl)]
            (refine oper_appendS _ _ _ rfl rfl rfl hrun ?_)
            refine hK.out _ _ trivial (fun _ => ?_)
            clear hK K
            try simp only [Act.put, List.setIfInBounds_toArray, List.set_cons_zero, List.set_cons_succ]
            refine wpAnyH_take (i := 7) (oi := { dst := some 38, op := Go.Op.fieldAddr 34 (Go.Operand.tmp 5) 1, type := 0, pos := "l10_proofs.go:339", after := #[{ on := 0, ground := Go.Ground.phase }, { on := 1, ground := Go.Ground.phase }, { on := 2, ground := Go.Ground.phase }, { on := 3, ground := Go.Ground.phase }, { on := 4, ground := Go.Ground.phase }, { on := 5, ground := Go.Ground.phase }, { on := 6, ground := Go.Ground.phase }], guard := none }) (v := ?_) rfl (by kernel_rfl) (by kernel_rfl) (by kernel_rfl) (fun _ _ _ h => h) (Or.inl ⟨by rfl, ?_⟩) (by assumption) ?_
            rotate_left
            · (intro w _; first | (go_simp; done) | (go_simp; with_reducible rfl))
            try simp only [Act.put, List.setIfInBounds_toArray, List.set_cons_zero, List.set_cons_succ]
            refine wpAnyH_ready (rs := [8]) (by kernel_rfl) (by simp) ?_
            refine AllReadyH.cons (o := { dst := none, op := Go.Op.store 32 (Go.Operand.tmp 38) (Go.Operand.tmp 37), type := 0, pos := "l10_proofs.go:339", after := #[{ on := 7, ground := Go.Ground.data }, { on := 6, ground := Go.Ground.data }, { on := 6, ground := Go.Ground.chain }, { on := 0, ground := Go.Ground.phase }, { on := 1, ground := Go.Ground.phase }, { on := 2, ground := Go.Ground.phase }, { on := 3, ground := Go.Ground.phase }, { on := 4, ground := Go.Ground.phase }, { on := 5, ground := Go.Ground.phase }, { on := 6, ground := Go.Ground.phase }], guard := none }) rfl (fun K hK => ?_) AllReadyH.nil
            go_simp
            refine hK.out _ _ trivial (fun _ => ?_)
            clear hK K
            try simp only [Act.put, List.setIfInBounds_toArray, List.set_cons_zero, List.set_cons_succ]
            refine wpAnyH_done (by kernel_rfl) ?_ _
            generalize hW7 : World.setCell _ _ _ = W7
            obtain ⟨hsg7, hb7⟩ := e7 W7 hW7
            have HTN7 := Lib.hid (turned_low (turned_below HTN5.out (show Below w5.heap.size w5 (w5.alloc (.cells #[.int .i64 y] 3)) by go_grown)) hb7 hrb)
            have HSG7 := Lib.hid hsg7
            clear hW7 hrun e7 e0 ef hsg7 hb7 g0 g1 g2 g6 k0 k1 k2 k6 HSG HTN5 HSG0 HTN
            obtain ⟨_, q8, q80, q81, hR8⟩ := id HTN7.out
            have HRD8 := Lib.hid hR8
            clear hR8
            go_wp2_with fail
            refine (pick_t r q8 4 W7 HRD8.out (by omega)).mono ?_
            rintro e w8 ⟨x, rfl, x0, x1, ht8⟩
            obtain ⟨z, rfl⟩ : ∃ z : Nat, x = z := ⟨x.toNat, by omega⟩
            have HSG8 := Lib.hid (sgV_turn HSG7.out ht8.1 hrb)
            have HTN8 := Lib.hid (turned_two HTN7.out HRD8.out ht8 (by omega) (by omega))
            have hwz : IntKind.i64.wrap ((a : Int) + 1 + (z : Int)) = (a : Int) + 1 + (z : Int) := by rw [IntKind.wrap_i64]; omega
            clear ht8 HSG7 HTN7 HRD8
            go_wp2
            go_roundw
            case rel => exact ⟨a + 1 + z, m1, _, _, _, _, _, by go_num, by go_num, by omega, by omega, by first | omega | (simp only [List.length_append, List.length_cons, List.length_nil]; omega), by first | omega | (simp only [List.length_append, List.length_cons, List.length_nil]; omega), by omega, by omega, HSG8.out, HTN8.out⟩
            case measure => simp [intOf] <;> omega
          ·
            go_simp
            (go_at_call 63; refine (num_t r W7.heap.size q9 [1, 2, 3, 1] _ (rd_on HRD.out (by go_grown)) (by omega) (by simp) (by simp) (by simp) (by omega) (four_atS (by simp [go_sem]) (by simp [go_sem]) (by simp [go_sem]) (by simp [go_sem]))).mono ?_; rintro e w5 ⟨y, rfl, hy, ht5'⟩; have ht5 : Turned r _ _ W7 w5 := below_turned (by go_grown) ht5'; have hsg5 := sgV_turn HSG0.out ht5.1 hrb; have HSG := Lib.hid hsg5; have HTN5 := Lib.hid (turned_two HTN.out HRD.out ht5 (by omega) (by omega)); obtain ⟨k0, k1, k2, _, _, _, k6, _, _, _⟩ := hsg5; obtain ⟨gg6, cc6, w6, hrun, hown6, hgrow, hob⟩ := app_intS w.heap.size (.slice ta tn tc) (T) y w5 HSG.out.2.2.2.2.1 (by omega) (by have := HSG.out.1; omega); obtain ⟨e0, ef, e7⟩ := sgV_app1 (sgV_on HSG.out (by go_grown)) hown6 hgrow hob; clear ht5 ht5' hown6 hgrow hob hy)
            refine hK.out _ _ trivial (fun _ => ?_)
            clear hK K
            try simp only [Act.put, List.setIfInBounds_toArray, List.set_cons_zero, List.set_cons_succ]
            refine wpAnyH_ready (rs := [1, 5]) (by kernel_rfl) (by simp) ?_
            refine AllReadyH.cons (o := { dst := some 32, op := Go.Op.load 32 (Go.Operand.tmp 31), type := 32, pos := "l10_proofs.go:339", after := #[{ on := 0, ground := Go.Ground.data }], guard := none }) rfl (fun K hK => ?_) (AllReadyH.cons (o := { dst := some 36, op := Go.Op.buildSlice 32 1 #[(0, Go.Operand.tmp 35)], type := 32, pos := "l10_proofs.go:339", after := #[{ on := 4, ground := Go.Ground.data }], guard := none }) rfl (fun K hK => ?_) AllReadyH.nil)
            ·
              go_simp
              refine hK.out _ _ trivial (fun _ => ?_)
              clear hK K
              try simp only [Act.put, List.setIfInBounds_toArray, List.set_cons_zero, List.set_cons_succ]
              refine wpAnyH_ready (rs := [5]) (by kernel_rfl) (by simp) ?_
              refine AllReadyH.cons (o := { dst := some 36, op := Go.Op.buildSlice 32 1 #[(0, Go.Operand.tmp 35)], type := 32, pos := "l10_proofs.go:339", after := #[{ on := 4, ground := Go.Ground.data }], guard := none }) rfl (fun K hK => ?_) AllReadyH.nil
              go_simp
              refine hK.out _ _ trivial (fun _ => ?_)
              clear hK K
              try simp only [Act.put, List.setIfInBounds_toArray, List.set_cons_zero, List.set_cons_succ]
              refine wpAnyH_ready (rs := [6]) (by kernel_rfl) (by simp) ?_
              refine AllReadyH.cons (o := { dst := some 37, op := Go.Op.call { callee := Go.Callee.builtin Go.Builtin.append, args := #[Go.Operand.tmp 32, Go.Operand.tmp 36], argTypes := #[32, 32] }, type := 32, pos := "l10_proofs.go:339", after := #[{ on := 1, ground := Go.Ground.data }, { on := 5, ground := Go.Ground.data }, { on := 4, ground := Go.Ground.chain }], guard := none }) rfl (fun K hK => ?_) AllReadyH.nil
              rw [if_pos (by rfl)]
              (refine oper_appendS _ _ _ rfl rfl rfl hrun ?_)
              refine hK.out _ _ trivial (fun _ => ?_)
              clear hK K
              try simp only [Act.put, List.setIfInBounds_toArray, List.set_cons_zero, List.set_cons_succ]
              refine wpAnyH_take (i := 7) (oi := { dst := some 38, op := Go.Op.fieldAddr 34 (Go.Operand.tmp 5) 1, type := 0, pos := "l10_proofs.go:339", after := #[{ on := 0, ground := Go.Ground.phase }, { on := 1, ground := Go.Ground.phase }, { on := 2, ground := Go.Ground.phase }, { on := 3, ground := Go.Ground.phase }, { on := 4, ground := Go.Ground.phase }, { on := 5, ground := Go.Ground.phase }, { on := 6, ground := Go.Ground.phase }], guard := none }) (v := ?_) rfl (by kernel_rfl) (by kernel_rfl) (by kernel_rfl) (fun _ _ _ h => h) (Or.inl ⟨by rfl, ?_⟩) (by assumption) ?_
              rotate_left
              · (intro w _; first | (go_simp; done) | (go_simp; with_reducible rfl))
              try simp only [Act.put, List.setIfInBounds_toArray, List.set_cons_zero, List.set_cons_succ]
              refine wpAnyH_ready (rs := [8]) (by kernel_rfl) (by simp) ?_
              refine AllReadyH.cons (o := { dst := none, op := Go.Op.store 32 (Go.Operand.tmp 38) (Go.Operand.tmp 37), type := 0, pos := "l10_proofs.go:339", after := #[{ on := 7, ground := Go.Ground.data }, { on := 6, ground := Go.Ground.data }, { on := 6, ground := Go.Ground.chain }, { on := 0, ground := Go.Ground.phase }, { on := 1, ground := Go.Ground.phase }, { on := 2, ground := Go.Ground.phase }, { on := 3, ground := Go.Ground.phase }, { on := 4, ground := Go.Ground.phase }, { on := 5, ground := Go.Ground.phase }, { on := 6, ground := Go.Ground.phase }], guard := none }) rfl (fun K hK => ?_) AllReadyH.nil
              go_simp
              refine hK.out _ _ trivial (fun _ => ?_)
              clear hK K
              try simp only [Act.put, List.setIfInBounds_toArray, List.set_cons_zero, List.set_cons_succ]
              refine wpAnyH_done (by kernel_rfl) ?_ _
              generalize hW7 : World.setCell _ _ _ = W7
              obtain ⟨hsg7, hb7⟩ := e7 W7 hW7
              have HTN7 := Lib.hid (turned_low (turned_below HTN5.out (show Below w5.heap.size w5 (w5.alloc (.cells #[.int .i64 y] 3)) by go_grown)) hb7 hrb)
              have HSG7 := Lib.hid hsg7
              clear hW7 hrun e7 e0 ef hsg7 hb7 g0 g1 g2 g6 k0 k1 k2 k6 HSG HTN5 HSG0 HTN
              obtain ⟨_, q8, q80, q81, hR8⟩ := id HTN7.out
              have HRD8 := Lib.hid hR8
              clear hR8
              go_wp2_with fail
              refine (pick_t r q8 4 W7 HRD8.out (by omega)).mono ?_
              rintro e w8 ⟨x, rfl, x0, x1, ht8⟩
              obtain ⟨z, rfl⟩ : ∃ z : Nat, x = z := ⟨x.toNat, by omega⟩
              have HSG8 := Lib.hid (sgV_turn HSG7.out ht8.1 hrb)
              have HTN8 := Lib.hid (turned_two HTN7.out HRD8.out ht8 (by omega) (by omega))
              have hwz : IntKind.i64.wrap ((a : Int) + 1 + (z : Int)) = (a : Int) + 1 + (z : Int) := by rw [IntKind.wrap_i64]; omega
              clear ht8 HSG7 HTN7 HRD8
              go_wp2
              go_roundw
              case rel => exact ⟨a + 1 + z, m1, _, _, _, _, _, by go_num, by go_num, by omega, by omega, by first | omega | (simp only [List.length_append, List.length_cons, List.length_nil]; omega), by first | omega | (simp only [List.length_append, List.length_cons, List.length_nil]; omega), by omega, by omega, HSG8.out, HTN8.out⟩
              case measure => simp [intOf] <;> omega
            ·
              go_simp
              refine hK.out _ _ trivial (fun _ => ?_)
              clear hK K
              try simp only [Act.put, List.setIfInBounds_toArray, List.set_cons_zero, List.set_cons_succ]
              refine wpAnyH_ready (rs := [1]) (by kernel_rfl) (by simp) ?_
              refine AllReadyH.cons (o := { dst := some 32, op := Go.Op.load 32 (Go.Operand.tmp 31), type := 32, pos := "l10_proofs.go:339", after := #[{ on := 0, ground := Go.Ground.data }], guard := none }) rfl (fun K hK => ?_) AllReadyH.nil
              go_simp
              refine hK.out _ _ trivial (fun _ => ?_)
              clear hK K
              try simp only [Act.put, List.setIfInBounds_toArray, List.set_cons_zero, List.set_cons_succ]
              refine wpAnyH_ready (rs := [6]) (by kernel_rfl) (by simp) ?_
              refine AllReadyH.cons (o := { dst := some 37, op := Go.Op.call { callee := Go.Callee.builtin Go.Builtin.append, args := #[Go.Operand.tmp 32, Go.Operand.tmp 36], argTypes := #[32, 32] }, type := 32, pos := "l10_proofs.go:339", after := #[{ on := 1, ground := Go.Ground.data }, { on := 5, ground := Go.Ground.data }, { on := 4, ground := Go.Ground.chain }], guard := none }) rfl (fun K hK => ?_) AllReadyH.nil
              rw [if_pos (by rfl)]
              (refine oper_appendS _ _ _ rfl rfl rfl hrun ?_)
              refine hK.out _ _ trivial (fun _ => ?_)
              clear hK K
              try simp only [Act.put, List.setIfInBounds_toArray, List.set_cons_zero, List.set_cons_succ]
              refine wpAnyH_take (i := 7) (oi := { dst := some 38, op := Go.Op.fieldAddr 34 (Go.Operand.tmp 5) 1, type := 0, pos := "l10_proofs.go:339", after := #[{ on := 0, ground := Go.Ground.phase }, { on := 1, ground := Go.Ground.phase }, { on := 2, ground := Go.Ground.phase }, { on := 3, ground := Go.Ground.phase }, { on := 4, ground := Go.Ground.phase }, { on := 5, ground := Go.Ground.phase }, { on := 6, ground := Go.Ground.phase }], guard := none }) (v := ?_) rfl (by kernel_rfl) (by kernel_rfl) (by kernel_rfl) (fun _ _ _ h => h) (Or.inl ⟨by rfl, ?_⟩) (by assumption) ?_
              rotate_left
              · (intro w _; first | (go_simp; done) | (go_simp; with_reducible rfl))
              try simp only [Act.put, List.setIfInBounds_toArray, List.set_cons_zero, List.set_cons_succ]
              refine wpAnyH_ready (rs := [8]) (by kernel_rfl) (by simp) ?_
              refine AllReadyH.cons (o := { dst := none, op := Go.Op.store 32 (Go.Operand.tmp 38) (Go.Operand.tmp 37), type := 0, pos := "l10_proofs.go:339", after := #[{ on := 7, ground := Go.Ground.data }, { on := 6, ground := Go.Ground.data }, { on := 6, ground := Go.Ground.chain }, { on := 0, ground := Go.Ground.phase }, { on := 1, ground := Go.Ground.phase }, { on := 2, ground := Go.Ground.phase }, { on := 3, ground := Go.Ground.phase }, { on := 4, ground := Go.Ground.phase }, { on := 5, ground := Go.Ground.phase }, { on := 6, ground := Go.Ground.phase }], guard := none }) rfl (fun K hK => ?_) AllReadyH.nil
              go_simp
              refine hK.out _ _ trivial (fun _ => ?_)
              clear hK K
              try simp only [Act.put, List.setIfInBounds_toArray, List.set_cons_zero, List.set_cons_succ]
              refine wpAnyH_done (by kernel_rfl) ?_ _
              generalize hW7 : World.setCell _ _ _ = W7
              obtain ⟨hsg7, hb7⟩ := e7 W7 hW7
              have HTN7 := Lib.hid (turned_low (turned_below HTN5.out (show Below w5.heap.size w5 (w5.alloc (.cells #[.int .i64 y] 3)) by go_grown)) hb7 hrb)
              have HSG7 := Lib.hid hsg7
              clear hW7 hrun e7 e0 ef hsg7 hb7 g0 g1 g2 g6 k0 k1 k2 k6 HSG HTN5 HSG0 HTN
              obtain ⟨_, q8, q80, q81, hR8⟩ := id HTN7.out
              have HRD8 := Lib.hid hR8
              clear hR8
              go_wp2_with fail
              refine (pick_t r q8 4 W7 HRD8.out (by omega)).mono ?_
              rintro e w8 ⟨x, rfl, x0, x1, ht8⟩
              obtain ⟨z, rfl⟩ : ∃ z : Nat, x = z := ⟨x.toNat, by omega⟩
              have HSG8 := Lib.hid (sgV_turn HSG7.out ht8.1 hrb)
              have HTN8 := Lib.hid (turned_two HTN7.out HRD8.out ht8 (by omega) (by omega))
              have hwz : IntKind.i64.wrap ((a : Int) + 1 + (z : Int)) = (a : Int) + 1 + (z : Int) := by rw [IntKind.wrap_i64]; omega
              clear ht8 HSG7 HTN7 HRD8
              go_wp2
              go_roundw
              case rel => exact ⟨a + 1 + z, m1, _, _, _, _, _, by go_num, by go_num, by omega, by omega, by first | omega | (simp only [List.length_append, List.length_cons, List.length_nil]; omega), by first | omega | (simp only [List.length_append, List.length_cons, List.length_nil]; omega), by omega, by omega, HSG8.out, HTN8.out⟩
              case measure => simp [intOf] <;> omega
      · go_upto_region 4 with fail
        go_cut [22] (fun q V => q = .bool false ∧ W4 = V)
        case first =>
          by_cases h0 : 0 < m
          · have d1 : decide ((m : Int) > 0) = true := by rw [decide_eq_true_iff]; omega
            have d1' : decide (0 < m) = true := by rw [decide_eq_true_iff]; exact h0
            have d2 : decide ((a : Int) < (N : Int)) = false := by rw [decide_eq_false_iff_not]; omega
            have d2' : decide (a < N) = false := by rw [decide_eq_false_iff_not]; omega
            go_wp2_with fail
            go_meet
            exact ⟨rfl, rfl⟩
          · have d1 : decide ((m : Int) > 0) = false := by rw [decide_eq_false_iff_not]; omega
            have d1' : decide (0 < m) = false := by rw [decide_eq_false_iff_not]; exact h0
            go_wp2_with fail
            go_meet
            exact ⟨rfl, rfl⟩
        case rest =>
          obtain ⟨rfl, rfl⟩ := hcut
          clear hc
          go_wp2_with fail
          refine (pick_t r q 30 W4 HRD.out (by omega)).mono ?_
          rintro e W5 ⟨x, rfl, x0, x1, ht5⟩
          have HSG5 := Lib.hid (sgV_turn HSG.out ht5.1 hrb)
          have HTN5 := Lib.hid (turned_two HTN.out HRD.out ht5 (by omega) (by omega))
          obtain ⟨_, q5, q50, q51, hR5⟩ := ht5
          have HR5 := Lib.hid hR5
          clear HSG HTN HRD hR5
          have HSG := HSG5
          have HTN := HTN5
          have HRD := HR5
          clear HSG5 HTN5 HR5 x1
          by_cases hx0 : x = 0
          · subst hx0
            obtain ⟨g0, g1, g2, _, _, _, g6, _, _, _⟩ := HSG.out
            obtain ⟨gg6, cc6, w6, hrun, hown6, hgrow, hob⟩ := app_intS w.heap.size (.slice ta tn tc) (T) 1 W5 HSG.out.2.2.2.2.1 (by omega) (by have := HSG.out.1; omega)
            obtain ⟨n0, n1, n2, n3, n4, n5⟩ := sgV_pre (sgV_on HSG.out (by go_grown)) hgrow (fun y hy => (owJ_lt HSG.out.2.2.2.2.1 hy).1)
            obtain ⟨e0, ef, e7⟩ := sgV_app1 (sgV_on HSG.out (by go_grown)) hown6 hgrow hob
            have HRUN := Lib.hid hrun
            have HE7 := Lib.hid e7
            clear hrun hown6 hgrow hob e7 e0 ef
            go_wp2_with (at_builtin; refine wpList_append_run rfl _ _ 32 rfl rfl rfl HRUN.out ?_)
            clear HRUN g0 g1 g2 g6
            go_wp2_with fail
            generalize hW8 : World.setCell _ _ _ = W8
            obtain ⟨W7', hW7⟩ : ∃ W7', World.setCell w6 ⟨w.heap.size + 1, 1, none⟩ (.slice (some ⟨gg6, 0, none⟩) (T.length + 1) cc6) = W7' := ⟨_, rfl⟩
            rw [hW7] at hW8
            obtain ⟨hsg7, hb7⟩ := HE7.out W7' hW7
            obtain ⟨u0, u1, r0, r1, hb8⟩ := sgV_end hsg7 hW8
            have HTN7 := Lib.hid (turned_low (turned_below HTN.out (show Below W5.heap.size W5 (W5.alloc (.cells #[.int .i64 1] 3)) by go_grown)) hb7 hrb)
            clear hW7 hW8 hsg7 hb7 n0 n1 n2 n3 n4 n5
            go_wp2
            refine bodyPost_ret (v := .agg #[.slice sa sn sc, .slice (some ⟨gg6, 0, none⟩) (T.length + 1) cc6]) (by simp [results, Try.results38, go_sem, u0, u1]) rfl ?_
            exact ⟨_, _, _, _, rfl, r0, r1, by first | omega | (simp only [List.length_append, List.length_cons, List.length_nil]; omega), by first | omega | (simp only [List.length_append, List.length_cons, List.length_nil]; omega), turned_more (turned_low HTN7.out hb8 hrb) (by omega)⟩
          · have hxe0 : (x == 0) = false := by simpa using hx0
            by_cases hx1 : x = 1
            · subst hx1
              obtain ⟨g0, g1, g2, _, _, _, g6, _, _, _⟩ := HSG.out
              have HSG0 := Lib.hid HSG.out
              clear HSG
              have hrW : r < W5.heap.size := rd_lt HRD.out
              go_wp2_with fail
              refine wp_region_held_drew (S := fun _ => True) (by kernel_rfl) trivial (fun _ => ?_)
              refine wpAnyH_take (i := 0) (oi := { dst := some 55, op := Go.Op.fieldAddr 34 (Go.Operand.tmp 5) 0, type := 0, pos := "l10_proofs.go:346", after := #[], guard := none }) (v := ?_) rfl (by kernel_rfl) (by kernel_rfl) (by kernel_rfl) (fun _ _ _ h => h) (Or.inl ⟨by rfl, ?_⟩) (by assumption) ?_
              rotate_left
              · (intro w _; first | (go_simp; done) | (go_simp; with_reducible rfl))
              try simp only [Act.put, List.setIfInBounds_toArray, List.set_cons_zero, List.set_cons_succ]
              refine wpAnyH_take (i := 2) (oi := { dst := some 57, op := Go.Op.move (Go.Operand.tmp 0), type := 74, pos := "l10_proofs.go:346", after := #[], guard := none }) (v := ?_) rfl (by kernel_rfl) (by kernel_rfl) (by kernel_rfl) (fun _ _ _ h => h) (Or.inl ⟨by rfl, ?_⟩) (by assumption) ?_
              rotate_left
              · (intro w _; first | (go_simp; done) | (go_simp; with_reducible rfl))
              try simp only [Act.put, List.setIfInBounds_toArray, List.set_cons_zero, List.set_cons_succ]
              refine wpAnyH_take (i := 3) (oi := { dst := some 58, op := Go.Op.move (Go.Operand.tmp 1), type := 3, pos := "l10_proofs.go:346", after := #[], guard := none }) (v := ?_) rfl (by kernel_rfl) (by kernel_rfl) (by kernel_rfl) (fun _ _ _ h => h) (Or.inl ⟨by rfl, ?_⟩) (by assumption) ?_
              rotate_left
              · (intro w _; first | (go_simp; done) | (go_simp; with_reducible rfl))
              try simp only [Act.put, List.setIfInBounds_toArray, List.set_cons_zero, List.set_cons_succ]
              refine wpAnyH_ready (rs := [1, 4]) (by kernel_rfl) (by simp) ?_
              refine AllReadyH.cons (o := { dst := some 56, op := Go.Op.load 32 (Go.Operand.tmp 55), type := 32, pos := "l10_proofs.go:346", after := #[{ on := 0, ground := Go.Ground.data }], guard := none }) rfl (fun K hK => ?_) (AllReadyH.cons (o := { dst := some 59, op := Go.Op.buildSlice 32 4 #[(0, Go.Operand.const (Go.Value.int Go.IntKind.i64 (-1))), (1, Go.Operand.tmp 58), (2, Go.Operand.const (Go.Value.int Go.IntKind.i64 0)), (3, Go.Operand.const (Go.Value.int Go.IntKind.i64 9223372036854775807))], type := 32, pos := "l10_proofs.go:346", after := #[{ on := 3, ground := Go.Ground.data }], guard := none }) rfl (fun K hK => ?_) AllReadyH.nil)
              ·
                go_simp
                refine hK.out _ _ trivial (fun _ => ?_)
                clear hK K
                try simp only [Act.put, List.setIfInBounds_toArray, List.set_cons_zero, List.set_cons_succ]
                refine wpAnyH_ready (rs := [4]) (by kernel_rfl) (by simp) ?_
                refine AllReadyH.cons (o := { dst := some 59, op := Go.Op.buildSlice 32 4 #[(0, Go.Operand.const (Go.Value.int Go.IntKind.i64 (-1))), (1, Go.Operand.tmp 58), (2, Go.Operand.const (Go.Value.int Go.IntKind.i64 0)), (3, Go.Operand.const (Go.Value.int Go.IntKind.i64 9223372036854775807))], type := 32, pos := "l10_proofs.go:346", after := #[{ on := 3, ground := Go.Ground.data }], guard := none }) rfl (fun K hK => ?_) AllReadyH.nil
                go_simp
                refine hK.out _ _ trivial (fun _ => ?_)
                clear hK K
                try simp only [Act.put, List.setIfInBounds_toArray, List.set_cons_zero, List.set_cons_succ]
                refine wpAnyH_ready (rs := [5]) (by kernel_rfl) (by simp) ?_
                refine AllReadyH.cons (o := { dst := some 60, op := Go.Op.call { callee := Go.Callee.value (Go.Operand.func 63), args := #[Go.Operand.tmp 57, Go.Operand.tmp 59], argTypes := #[74, 32] }, type := 3, pos := "l10_proofs.go:346", after := #[{ on := 2, ground := Go.Ground.data }, { on := 4, ground := Go.Ground.data }], guard := none }) rfl (fun K hK => ?_) AllReadyH.nil
                go_simp
                (go_at_call 63; refine (num_t r W5.heap.size q5 [-1, (N : Int), 0, 9223372036854775807] _ (rd_on HRD.out (by go_grown)) (by omega) (by simp) (by simp) (by simp) (by omega) (four_atS (by simp [go_sem]) (by simp [go_sem]) (by simp [go_sem]) (by simp [go_sem]))).mono ?_; rintro e w5 ⟨y, rfl, hy, ht5'⟩; have ht5 : Turned r _ _ W5 w5 := below_turned (by go_grown) ht5'; have hsg5 := sgV_turn HSG0.out ht5.1 hrb; have HSG := Lib.hid hsg5; have HTN5 := Lib.hid (turned_two HTN.out HRD.out ht5 (by omega) (by omega)); obtain ⟨k0, k1, k2, _, _, _, k6, _, _, _⟩ := hsg5; obtain ⟨gg6, cc6, w6, hrun, hown6, hgrow, hob⟩ := app_intS w.heap.size (.slice sa sn sc) (F) y w5 HSG.out.2.2.2.1 (by omega) (by have := HSG.out.1; omega); obtain ⟨e0, ef, e7⟩ := sgV_app0 (sgV_on HSG.out (by go_grown)) hown6 hgrow hob; clear ht5 ht5' hown6 hgrow hob hy)
                refine hK.out _ _ trivial (fun _ => ?_)
                clear hK K
                try simp only [Act.put, List.setIfInBounds_toArray, List.set_cons_zero, List.set_cons_succ]
                refine wpAnyH_ready (rs := [6]) (by kernel_rfl) (by simp) ?_
                refine AllReadyH.cons (o := { dst := some 61, op := Go.Op.buildSlice 32 1 #[(0, Go.Operand.tmp 60)], type := 32, pos := "l10_proofs.go:346", after := #[{ on := 5, ground := Go.Ground.data }], guard := none }) rfl (fun K hK => ?_) AllReadyH.nil
                go_simp
                refine hK.out _ _ trivial (fun _ => ?_)
                clear hK K
                try simp only [Act.put, List.setIfInBounds_toArray, List.set_cons_zero, List.set_cons_succ]
                refine wpAnyH_ready (rs := [7]) (by kernel_rfl) (by simp) ?_
                refine AllReadyH.cons (o := { dst := some 62, op := Go.Op.call { callee := Go.Callee.builtin Go.Builtin.append, args := #[Go.Operand.tmp 56, Go.Operand.tmp 61], argTypes := #[32, 32] }, type := 32, pos := "l10_proofs.go:346", after := #[{ on := 1, ground := Go.Ground.data }, { on := 6, ground := Go.Ground.data }, { on := 5, ground := Go.Ground.chain }], guard := none }) rfl (fun K hK => ?_) AllReadyH.nil
                rw [if_pos (by rfl)]
                (refine oper_appendS _ _ _ rfl rfl rfl hrun ?_)
                refine hK.out _ _ trivial (fun _ => ?_)
                clear hK K
                try simp only [Act.put, List.setIfInBounds_toArray, List.set_cons_zero, List.set_cons_succ]
                refine wpAnyH_take (i := 8) (oi := { dst := some 63, op := Go.Op.fieldAddr 34 (Go.Operand.tmp 5) 0, type := 0, pos := "l10_proofs.go:346", after := #[{ on := 0, ground := Go.Ground.phase }, { on := 1, ground := Go.Ground.phase }, { on := 2, ground := Go.Ground.phase }, { on := 3, ground := Go.Ground.phase }, { on := 4, ground := Go.Ground.phase }, { on := 5, ground := Go.Ground.phase }, { on := 6, ground := Go.Ground.phase }, { on := 7, ground := Go.Ground.phase }], guard := none }) (v := ?_) rfl (by kernel_rfl) (by kernel_rfl) (by kernel_rfl) (fun _ _ _ h => h) (Or.inl ⟨by rfl, ?_⟩) (by assumption) ?_
                rotate_left
                · (intro w _; first | (go_simp; done) | (go_simp; with_reducible rfl))
                try simp only [Act.put, List.setIfInBounds_toArray, List.set_cons_zero, List.set_cons_succ]
                refine wpAnyH_ready (rs := [9]) (by kernel_rfl) (by simp) ?_
                refine AllReadyH.cons (o := { dst := none, op := Go.Op.store 32 (Go.Operand.tmp 63) (Go.Operand.tmp 62), type := 0, pos := "l10_proofs.go:346", after := #[{ on := 8, ground := Go.Ground.data }, { on := 7, ground := Go.Ground.data }, { on := 7, ground := Go.Ground.chain }, { on := 0, ground := Go.Ground.phase }, { on := 1, ground := Go.Ground.phase }, { on := 2, ground := Go.Ground.phase }, { on := 3, ground := Go.Ground.phase }, { on := 4, ground := Go.Ground.phase }, { on := 5, ground := Go.Ground.phase }, { on := 6, ground := Go.Ground.phase }, { on := 7, ground := Go.Ground.phase }], guard := none }) rfl (fun K hK => ?_) AllReadyH.nil
                go_simp
                refine hK.out _ _ trivial (fun _ => ?_)
                clear hK K
                try simp only [Act.put, List.setIfInBounds_toArray, List.set_cons_zero, List.set_cons_succ]
                refine wpAnyH_done (by kernel_rfl) ?_ _
                generalize hW7 : World.setCell _ _ _ = W7
                obtain ⟨hsg7, hb7⟩ := e7 W7 hW7
                have HTN7 := Lib.hid (turned_low (turned_below HTN5.out (show Below w5.heap.size w5 (w5.alloc (.cells #[.int .i64 y] 3)) by go_grown)) hb7 hrb)
                have HSG7 := Lib.hid hsg7
                clear hW7 hrun e7 e0 ef hsg7 hb7 g0 g1 g2 g6 k0 k1 k2 k6 HSG HTN5 HSG0 HTN
                have HSG := HSG7
                have HTN := HTN7
                clear HSG7 HTN7
                obtain ⟨g0, g1, g2, _, _, _, g6, _, _, _⟩ := HSG.out
                obtain ⟨gg7, cc7, w6, hrun, hown6, hgrow, hob⟩ := app_intS w.heap.size (.slice ta tn tc) (T) 1 W7 HSG.out.2.2.2.2.1 (by omega) (by have := HSG.out.1; omega)
                obtain ⟨n0, n1, n2, n3, n4, n5⟩ := sgV_pre (sgV_on HSG.out (by go_grown)) hgrow (fun y hy => (owJ_lt HSG.out.2.2.2.2.1 hy).1)
                obtain ⟨e0, ef, e7⟩ := sgV_app1 (sgV_on HSG.out (by go_grown)) hown6 hgrow hob
                have HRUN := Lib.hid hrun
                have HE7 := Lib.hid e7
                clear hrun hown6 hgrow hob e7 e0 ef
                go_wp2_with (at_builtin; refine wpList_append_run rfl _ _ 32 rfl rfl rfl HRUN.out ?_)
                clear HRUN g0 g1 g2 g6
                go_wp2_with fail
                generalize hW8 : World.setCell _ _ _ = W8
                obtain ⟨W7', hW7⟩ : ∃ W7', World.setCell w6 ⟨w.heap.size + 1, 1, none⟩ (.slice (some ⟨gg7, 0, none⟩) (T.length + 1) cc7) = W7' := ⟨_, rfl⟩
                rw [hW7] at hW8
                obtain ⟨hsg7, hb7⟩ := HE7.out W7' hW7
                obtain ⟨u0, u1, r0, r1, hb8⟩ := sgV_end hsg7 hW8
                have HTN7 := Lib.hid (turned_low (turned_below HTN.out (show Below W7.heap.size W7 (W7.alloc (.cells #[.int .i64 1] 3)) by go_grown)) hb7 hrb)
                clear hW7 hW8 hsg7 hb7 n0 n1 n2 n3 n4 n5
                go_wp2
                refine bodyPost_ret (v := .agg #[.slice (some ⟨gg6, 0, none⟩) (F.length + 1) cc6, .slice (some ⟨gg7, 0, none⟩) (T.length + 1) cc7]) (by simp [results, Try.results38, go_sem, u0, u1]) rfl ?_
                exact ⟨_, _, _, _, rfl, r0, r1, by first | omega | (simp only [List.length_append, List.length_cons, List.length_nil]; omega), by first | omega | (simp only [List.length_append, List.length_cons, List.length_nil]; omega), turned_more (turned_low HTN7.out hb8 hrb) (by omega)⟩
              ·
                go_simp
                refine hK.out _ _ trivial (fun _ => ?_)
                clear hK K
                try simp only [Act.put, List.setIfInBounds_toArray, List.set_cons_zero, List.set_cons_succ]
                refine wpAnyH_ready (rs := [1, 5]) (by kernel_rfl) (by simp) ?_
                refine AllReadyH.cons (o := { dst := some 56, op := Go.Op.load 32 (Go.Operand.tmp 55), type := 32, pos := "l10_proofs.go:346", after := #[{ on := 0, ground := Go.Ground.data }], guard := none }) rfl (fun K hK => ?_) (AllReadyH.cons (o := { dst := some 60, op := Go.Op.call { callee := Go.Callee.value (Go.Operand.func 63), args := #[Go.Operand.tmp 57, Go.Operand.tmp 59], argTypes := #[74, 32] }, type := 3, pos := "l10_proofs.go:346", after := #[{ on := 2, ground := Go.Ground.data }, { on := 4, ground := Go.Ground.data }], guard := none }) rfl (fun K hK => ?_) AllReadyH.nil)
                ·
                  go_simp
                  refine hK.out _ _ trivial (fun _ => ?_)
                  clear hK K
                  try simp only [Act.put, List.setIfInBounds_toArray, List.set_cons_zero, List.set_cons_succ]
                  refine wpAnyH_ready (rs := [5]) (by kernel_rfl) (by simp) ?_
                  refine AllReadyH.cons (o := { dst := some 60, op := Go.Op.call { callee := Go.Callee.value (Go.Operand.func 63), args := #[Go.Operand.tmp 57, Go.Operand.tmp 59], argTypes := #[74, 32] }, type := 3, pos := "l10_proofs.go:346", after := #[{ on := 2, ground := Go.Ground.data }, { on := 4, ground := Go.Ground.data }], guard := none }) rfl (fun K hK => ?_) AllReadyH.nil
                  go_simp
                  (go_at_call 63; refine (num_t r W5.heap.size q5 [-1, (N : Int), 0, 9223372036854775807] _ (rd_on HRD.out (by go_grown)) (by omega) (by simp) (by simp) (by simp) (by omega) (four_atS (by simp [go_sem]) (by simp [go_sem]) (by simp [go_sem]) (by simp [go_sem]))).mono ?_; rintro e w5 ⟨y, rfl, hy, ht5'⟩; have ht5 : Turned r _ _ W5 w5 := below_turned (by go_grown) ht5'; have hsg5 := sgV_turn HSG0.out ht5.1 hrb; have HSG := Lib.hid hsg5; have HTN5 := Lib.hid (turned_two HTN.out HRD.out ht5 (by omega) (by omega)); obtain ⟨k0, k1, k2, _, _, _, k6, _, _, _⟩ := hsg5; obtain ⟨gg6, cc6, w6, hrun, hown6, hgrow, hob⟩ := app_intS w.heap.size (.slice sa sn sc) (F) y w5 HSG.out.2.2.2.1 (by omega) (by have := HSG.out.1; omega); obtain ⟨e0, ef, e7⟩ := sgV_app0 (sgV_on HSG.out (by go_grown)) hown6 hgrow hob; clear ht5 ht5' hown6 hgrow hob hy)
                  refine hK.out _ _ trivial (fun _ => ?_)
                  clear hK K
                  try simp only [Act.put, List.setIfInBounds_toArray, List.set_cons_zero, List.set_cons_succ]
                  refine wpAnyH_ready (rs := [6]) (by kernel_rfl) (by simp) ?_
                  refine AllReadyH.cons (o := { dst := some 61, op := Go.Op.buildSlice 32 1 #[(0, Go.Operand.tmp 60)], type := 32, pos := "l10_proofs.go:346", after := #[{ on := 5, ground := Go.Ground.data }], guard := none }) rfl (fun K hK => ?_) AllReadyH.nil
                  go_simp
                  refine hK.out _ _ trivial (fun _ => ?_)
                  clear hK K
                  try simp only [Act.put, List.setIfInBounds_toArray, List.set_cons_zero, List.set_cons_succ]
                  refine wpAnyH_ready (rs := [7]) (by kernel_rfl) (by simp) ?_
                  refine AllReadyH.cons (o := { dst := some 62, op := Go.Op.call { callee := Go.Callee.builtin Go.Builtin.append, args := #[Go.Operand.tmp 56, Go.Operand.tmp 61], argTypes := #[32, 32] }, type := 32, pos := "l10_proofs.go:346", after := #[{ on := 1, ground := Go.Ground.data }, { on := 6, ground := Go.Ground.data }, { on := 5, ground := Go.Ground.chain }], guard := none }) rfl (fun K hK => ?_) AllReadyH.nil
                  rw [if_pos (by rfl)]
                  (refine oper_appendS _ _ _ rfl rfl rfl hrun ?_)
                  refine hK.out _ _ trivial (fun _ => ?_)
                  clear hK K
                  try simp only [Act.put, List.setIfInBounds_toArray, List.set_cons_zero, List.set_cons_succ]
                  refine wpAnyH_take (i := 8) (oi := { dst := some 63, op := Go.Op.fieldAddr 34 (Go.Operand.tmp 5) 0, type := 0, pos := "l10_proofs.go:346", after := #[{ on := 0, ground := Go.Ground.phase }, { on := 1, ground := Go.Ground.phase }, { on := 2, ground := Go.Ground.phase }, { on := 3, ground := Go.Ground.phase }, { on := 4, ground := Go.Ground.phase }, { on := 5, ground := Go.Ground.phase }, { on := 6, ground := Go.Ground.phase }, { on := 7, ground := Go.Ground.phase }], guard := none }) (v := ?_) rfl (by kernel_rfl) (by kernel_rfl) (by kernel_rfl) (fun _ _ _ h => h) (Or.inl ⟨by rfl, ?_⟩) (by assumption) ?_
                  rotate_left
                  · (intro w _; first | (go_simp; done) | (go_simp; with_reducible rfl))
                  try simp only [Act.put, List.setIfInBounds_toArray, List.set_cons_zero, List.set_cons_succ]
                  refine wpAnyH_ready (rs := [9]) (by kernel_rfl) (by simp) ?_
                  refine AllReadyH.cons (o := { dst := none, op := Go.Op.store 32 (Go.Operand.tmp 63) (Go.Operand.tmp 62), type := 0, pos := "l10_proofs.go:346", after := #[{ on := 8, ground := Go.Ground.data }, { on := 7, ground := Go.Ground.data }, { on := 7, ground := Go.Ground.chain }, { on := 0, ground := Go.Ground.phase }, { on := 1, ground := Go.Ground.phase }, { on := 2, ground := Go.Ground.phase }, { on := 3, ground := Go.Ground.phase }, { on := 4, ground := Go.Ground.phase }, { on := 5, ground := Go.Ground.phase }, { on := 6, ground := Go.Ground.phase }, { on := 7, ground := Go.Ground.phase }], guard := none }) rfl (fun K hK => ?_) AllReadyH.nil
                  go_simp
                  refine hK.out _ _ trivial (fun _ => ?_)
                  clear hK K
                  try simp only [Act.put, List.setIfInBounds_toArray, List.set_cons_zero, List.set_cons_succ]
                  refine wpAnyH_done (by kernel_rfl) ?_ _
                  generalize hW7 : World.setCell _ _ _ = W7
                  obtain ⟨hsg7, hb7⟩ := e7 W7 hW7
                  have HTN7 := Lib.hid (turned_low (turned_below HTN5.out (show Below w5.heap.size w5 (w5.alloc (.cells #[.int .i64 y] 3)) by go_grown)) hb7 hrb)
                  have HSG7 := Lib.hid hsg7
                  clear hW7 hrun e7 e0 ef hsg7 hb7 g0 g1 g2 g6 k0 k1 k2 k6 HSG HTN5 HSG0 HTN
                  have HSG := HSG7
                  have HTN := HTN7
                  clear HSG7 HTN7
                  obtain ⟨g0, g1, g2, _, _, _, g6, _, _, _⟩ := HSG.out
                  obtain ⟨gg7, cc7, w6, hrun, hown6, hgrow, hob⟩ := app_intS w.heap.size (.slice ta tn tc) (T) 1 W7 HSG.out.2.2.2.2.1 (by omega) (by have := HSG.out.1; omega)
                  obtain ⟨n0, n1, n2, n3, n4, n5⟩ := sgV_pre (sgV_on HSG.out (by go_grown)) hgrow (fun y hy => (owJ_lt HSG.out.2.2.2.2.1 hy).1)
                  obtain ⟨e0, ef, e7⟩ := sgV_app1 (sgV_on HSG.out (by go_grown)) hown6 hgrow hob
                  have HRUN := Lib.hid hrun
                  have HE7 := Lib.hid e7
                  clear hrun hown6 hgrow hob e7 e0 ef
                  go_wp2_with (at_builtin; refine wpList_append_run rfl _ _ 32 rfl rfl rfl HRUN.out ?_)
                  clear HRUN g0 g1 g2 g6
                  go_wp2_with fail
                  generalize hW8 : World.setCell _ _ _ = W8
                  obtain ⟨W7', hW7⟩ : ∃ W7', World.setCell w6 ⟨w.heap.size + 1, 1, none⟩ (.slice (some ⟨gg7, 0, none⟩) (T.length + 1) cc7) = W7' := ⟨_, rfl⟩
                  rw [hW7] at hW8
                  obtain ⟨hsg7, hb7⟩ := HE7.out W7' hW7
                  obtain ⟨u0, u1, r0, r1, hb8⟩ := sgV_end hsg7 hW8
                  have HTN7 := Lib.hid (turned_low (turned_below HTN.out (show Below W7.heap.size W7 (W7.alloc (.cells #[.int .i64 1] 3)) by go_grown)) hb7 hrb)
                  clear hW7 hW8 hsg7 hb7 n0 n1 n2 n3 n4 n5
                  go_wp2
                  refine bodyPost_ret (v := .agg #[.slice (some ⟨gg6, 0, none⟩) (F.length + 1) cc6, .slice (some ⟨gg7, 0, none⟩) (T.length + 1) cc7]) (by simp [results, Try.results38, go_sem, u0, u1]) rfl ?_
                  exact ⟨_, _, _, _, rfl, r0, r1, by first | omega | (simp only [List.length_append, List.length_cons, List.length_nil]; omega), by first | omega | (simp only [List.length_append, List.length_cons, List.length_nil]; omega), turned_more (turned_low HTN7.out hb8 hrb) (by omega)⟩
                ·
                  go_simp
                  (go_at_call 63; refine (num_t r W5.heap.size q5 [-1, (N : Int), 0, 9223372036854775807] _ (rd_on HRD.out (by go_grown)) (by omega) (by simp) (by simp) (by simp) (by omega) (four_atS (by simp [go_sem]) (by simp [go_sem]) (by simp [go_sem]) (by simp [go_sem]))).mono ?_; rintro e w5 ⟨y, rfl, hy, ht5'⟩; have ht5 : Turned r _ _ W5 w5 := below_turned (by go_grown) ht5'; have hsg5 := sgV_turn HSG0.out ht5.1 hrb; have HSG := Lib.hid hsg5; have HTN5 := Lib.hid (turned_two HTN.out HRD.out ht5 (by omega) (by omega)); obtain ⟨k0, k1, k2, _, _, _, k6, _, _, _⟩ := hsg5; obtain ⟨gg6, cc6, w6, hrun, hown6, hgrow, hob⟩ := app_intS w.heap.size (.slice sa sn sc) (F) y w5 HSG.out.2.2.2.1 (by omega) (by have := HSG.out.1; omega); obtain ⟨e0, ef, e7⟩ := sgV_app0 (sgV_on HSG.out (by go_grown)) hown6 hgrow hob; clear ht5 ht5' hown6 hgrow hob hy)
                  refine hK.out _ _ trivial (fun _ => ?_)
                  clear hK K
                  try simp only [Act.put, List.setIfInBounds_toArray, List.set_cons_zero, List.set_cons_succ]
                  refine wpAnyH_ready (rs := [1, 6]) (by kernel_rfl) (by simp) ?_
                  refine AllReadyH.cons (o := { dst := some 56, op := Go.Op.load 32 (Go.Operand.tmp 55), type := 32, pos := "l10_proofs.go:346", after := #[{ on := 0, ground := Go.Ground.data }], guard := none }) rfl (fun K hK => ?_) (AllReadyH.cons (o := { dst := some 61, op := Go.Op.buildSlice 32 1 #[(0, Go.Operand.tmp 60)], type := 32, pos := "l10_proofs.go:346", after := #[{ on := 5, ground := Go.Ground.data }], guard := none }) rfl (fun K hK => ?_) AllReadyH.nil)
                  ·
                    go_simp
                    refine hK.out _ _ trivial (fun _ => ?_)
                    clear hK K
                    try simp only [Act.put, List.setIfInBounds_toArray, List.set_cons_zero, List.set_cons_succ]
                    refine wpAnyH_ready (rs := [6]) (by kernel_rfl) (by simp) ?_
                    refine AllReadyH.cons (o := { dst := some 61, op := Go.Op.buildSlice 32 1 #[(0, Go.Operand.tmp 60)], type := 32, pos := "l10_proofs.go:346", after := #[{ on := 5, ground := Go.Ground.data }], guard := none }) rfl (fun K hK => ?_) AllReadyH.nil
                    go_simp
                    refine hK.out _ _ trivial (fun _ => ?_)
                    clear hK K
                    try simp only [Act.put, List.setIfInBounds_toArray, List.set_cons_zero, List.set_cons_succ]
                    refine wpAnyH_ready (rs := [7]) (by kernel_rfl) (by simp) ?_
                    refine AllReadyH.cons (o := { dst := some 62, op := Go.Op.call { callee := Go.Callee.builtin Go.Builtin.append, args := #[Go.Operand.tmp 56, Go.Operand.tmp 61], argTypes := #[32, 32] }, type := 32, pos := "l10_proofs.go:346", after := #[{ on := 1, ground := Go.Ground.data }, { on := 6, ground := Go.Ground.data }, { on := 5, ground := Go.Ground.chain }], guard := none }) rfl (fun K hK => ?_) AllReadyH.nil
                    rw [if_pos (by rfl)]
                    (refine oper_appendS _ _ _ rfl rfl rfl hrun ?_)
                    refine hK.out _ _ trivial (fun _ => ?_)
                    clear hK K
                    try simp only [Act.put, List.setIfInBounds_toArray, List.set_cons_zero, List.set_cons_succ]
                    refine wpAnyH_take (i := 8) (oi := { dst := some 63, op := Go.Op.fieldAddr 34 (Go.Operand.tmp 5) 0, type := 0, pos := "l10_proofs.go:346", after := #[{ on := 0, ground := Go.Ground.phase }, { on := 1, ground := Go.Ground.phase }, { on := 2, ground := Go.Ground.phase }, { on := 3, ground := Go.Ground.phase }, { on := 4, ground := Go.Ground.phase }, { on := 5, ground := Go.Ground.phase }, { on := 6, ground := Go.Ground.phase }, { on := 7, ground := Go.Ground.phase }], guard := none }) (v := ?_) rfl (by kernel_rfl) (by kernel_rfl) (by kernel_rfl) (fun _ _ _ h => h) (Or.inl ⟨by rfl, ?_⟩) (by assumption) ?_
                    rotate_left
                    · (intro w _; first | (go_simp; done) | (go_simp; with_reducible rfl))
                    try simp only [Act.put, List.setIfInBounds_toArray, List.set_cons_zero, List.set_cons_succ]
                    refine wpAnyH_ready (rs := [9]) (by kernel_rfl) (by simp) ?_
                    refine AllReadyH.cons (o := { dst := none, op := Go.Op.store 32 (Go.Operand.tmp 63) (Go.Operand.tmp 62), type := 0, pos := "l10_proofs.go:346", after := #[{ on := 8, ground := Go.Ground.data }, { on := 7, ground := Go.Ground.data }, { on := 7, ground := Go.Ground.chain }, { on := 0, ground := Go.Ground.phase }, { on := 1, ground := Go.Ground.phase }, { on := 2, ground := Go.Ground.phase }, { on := 3, ground := Go.Ground.phase }, { on := 4, ground := Go.Ground.phase }, { on := 5, ground := Go.Ground.phase }, { on := 6, ground := Go.Ground.phase }, { on := 7, ground := Go.Ground.phase }], guard := none }) rfl (fun K hK => ?_) AllReadyH.nil
                    go_simp
                    refine hK.out _ _ trivial (fun _ => ?_)
                    clear hK K
                    try simp only [Act.put, List.setIfInBounds_toArray, List.set_cons_zero, List.set_cons_succ]
                    refine wpAnyH_done (by kernel_rfl) ?_ _
                    generalize hW7 : World.setCell _ _ _ = W7
                    obtain ⟨hsg7, hb7⟩ := e7 W7 hW7
                    have HTN7 := Lib.hid (turned_low (turned_below HTN5.out (show Below w5.heap.size w5 (w5.alloc (.cells #[.int .i64 y] 3)) by go_grown)) hb7 hrb)
                    have HSG7 := Lib.hid hsg7
                    clear hW7 hrun e7 e0 ef hsg7 hb7 g0 g1 g2 g6 k0 k1 k2 k6 HSG HTN5 HSG0 HTN
                    have HSG := HSG7
                    have HTN := HTN7
                    clear HSG7 HTN7
                    obtain ⟨g0, g1, g2, _, _, _, g6, _, _, _⟩ := HSG.out
                    obtain ⟨gg7, cc7, w6, hrun, hown6, hgrow, hob⟩ := app_intS w.heap.size (.slice ta tn tc) (T) 1 W7 HSG.out.2.2.2.2.1 (by omega) (by have := HSG.out.1; omega)
                    obtain ⟨n0, n1, n2, n3, n4, n5⟩ := sgV_pre (sgV_on HSG.out (by go_grown)) hgrow (fun y hy => (owJ_lt HSG.out.2.2.2.2.1 hy).1)
                    obtain ⟨e0, ef, e7⟩ := sgV_app1 (sgV_on HSG.out (by go_grown)) hown6 hgrow hob
                    have HRUN := Lib.hid hrun
                    have HE7 := Lib.hid e7
                    clear hrun hown6 hgrow hob e7 e0 ef
                    go_wp2_with (at_builtin; refine wpList_append_run rfl _ _ 32 rfl rfl rfl HRUN.out ?_)
                    clear HRUN g0 g1 g2 g6
                    go_wp2_with fail
                    generalize hW8 : World.setCell _ _ _ = W8
                    obtain ⟨W7', hW7⟩ : ∃ W7', World.setCell w6 ⟨w.heap.size + 1, 1, none⟩ (.slice (some ⟨gg7, 0, none⟩) (T.length + 1) cc7) = W7' := ⟨_, rfl⟩
                    rw [hW7] at hW8
                    obtain ⟨hsg7, hb7⟩ := HE7.out W7' hW7
                    obtain ⟨u0, u1, r0, r1, hb8⟩ := sgV_end hsg7 hW8
                    have HTN7 := Lib.hid (turned_low (turned_below HTN.out (show Below W7.heap.size W7 (W7.alloc (.cells #[.int .i64 1] 3)) by go_grown)) hb7 hrb)
                    clear hW7 hW8 hsg7 hb7 n0 n1 n2 n3 n4 n5
                    go_wp2
                    refine bodyPost_ret (v := .agg #[.slice (some ⟨gg6, 0, none⟩) (F.length + 1) cc6, .slice (some ⟨gg7, 0, none⟩) (T.length + 1) cc7]) (by simp [results, Try.results38, go_sem, u0, u1]) rfl ?_
                    exact ⟨_, _, _, _, rfl, r0, r1, by first | omega | (simp only [List.length_append, List.length_cons, List.length_nil]; omega), by first | omega | (simp only [List.length_append, List.length_cons, List.length_nil]; omega), turned_more (turned_low HTN7.out hb8 hrb) (by omega)⟩
                  ·
                    go_simp
                    refine hK.out _ _ trivial (fun _ => ?_)
                    clear hK K
                    try simp only [Act.put, List.setIfInBounds_toArray, List.set_cons_zero, List.set_cons_succ]
                    refine wpAnyH_ready (rs := [1]) (by kernel_rfl) (by simp) ?_
                    refine AllReadyH.cons (o := { dst := some 56, op := Go.Op.load 32 (Go.Operand.tmp 55), type := 32, pos := "l10_proofs.go:346", after := #[{ on := 0, ground := Go.Ground.data }], guard := none }) rfl (fun K hK => ?_) AllReadyH.nil
                    go_simp
                    refine hK.out _ _ trivial (fun _ => ?_)
                    clear hK K
                    try simp only [Act.put, List.setIfInBounds_toArray, List.set_cons_zero, List.set_cons_succ]
                    refine wpAnyH_ready (rs := [7]) (by kernel_rfl) (by simp) ?_
                    refine AllReadyH.cons (o := { dst := some 62, op := Go.Op.call { callee := Go.Callee.builtin Go.Builtin.append, args := #[Go.Operand.tmp 56, Go.Operand.tmp 61], argTypes := #[32, 32] }, type := 32, pos := "l10_proofs.go:346", after := #[{ on := 1, ground := Go.Ground.data }, { on := 6, ground := Go.Ground.data }, { on := 5, ground := Go.Ground.chain }], guard := none }) rfl (fun K hK => ?_) AllReadyH.nil
                    rw [if_pos (by rfl)]
                    (refine oper_appendS _ _ _ rfl rfl rfl hrun ?_)
                    refine hK.out _ _ trivial (fun _ => ?_)
                    clear hK K
                    try simp only [Act.put, List.setIfInBounds_toArray, List.set_cons_zero, List.set_cons_succ]
                    refine wpAnyH_take (i := 8) (oi := { dst := some 63, op := Go.Op.fieldAddr 34 (Go.Operand.tmp 5) 0, type := 0, pos := "l10_proofs.go:346", after := #[{ on := 0, ground := Go.Ground.phase }, { on := 1, ground := Go.Ground.phase }, { on := 2, ground := Go.Ground.phase }, { on := 3, ground := Go.Ground.phase }, { on := 4, ground := Go.Ground.phase }, { on := 5, ground := Go.Ground.phase }, { on := 6, ground := Go.Ground.phase }, { on := 7, ground := Go.Ground.phase }], guard := none }) (v := ?_) rfl (by kernel_rfl) (by kernel_rfl) (by kernel_rfl) (fun _ _ _ h => h) (Or.inl ⟨by rfl, ?_⟩) (by assumption) ?_
                    rotate_left
                    · (intro w _; first | (go_simp; done) | (go_simp; with_reducible rfl))
                    try simp only [Act.put, List.setIfInBounds_toArray, List.set_cons_zero, List.set_cons_succ]
                    refine wpAnyH_ready (rs := [9]) (by kernel_rfl) (by simp) ?_
                    refine AllReadyH.cons (o := { dst := none, op := Go.Op.store 32 (Go.Operand.tmp 63) (Go.Operand.tmp 62), type := 0, pos := "l10_proofs.go:346", after := #[{ on := 8, ground := Go.Ground.data }, { on := 7, ground := Go.Ground.data }, { on := 7, ground := Go.Ground.chain }, { on := 0, ground := Go.Ground.phase }, { on := 1, ground := Go.Ground.phase }, { on := 2, ground := Go.Ground.phase }, { on := 3, ground := Go.Ground.phase }, { on := 4, ground := Go.Ground.phase }, { on := 5, ground := Go.Ground.phase }, { on := 6, ground := Go.Ground.phase }, { on := 7, ground := Go.Ground.phase }], guard := none }) rfl (fun K hK => ?_) AllReadyH.nil
                    go_simp
                    refine hK.out _ _ trivial (fun _ => ?_)
                    clear hK K
                    try simp only [Act.put, List.setIfInBounds_toArray, List.set_cons_zero, List.set_cons_succ]
                    refine wpAnyH_done (by kernel_rfl) ?_ _
                    generalize hW7 : World.setCell _ _ _ = W7
                    obtain ⟨hsg7, hb7⟩ := e7 W7 hW7
                    have HTN7 := Lib.hid (turned_low (turned_below HTN5.out (show Below w5.heap.size w5 (w5.alloc (.cells #[.int .i64 y] 3)) by go_grown)) hb7 hrb)
                    have HSG7 := Lib.hid hsg7
                    clear hW7 hrun e7 e0 ef hsg7 hb7 g0 g1 g2 g6 k0 k1 k2 k6 HSG HTN5 HSG0 HTN
                    have HSG := HSG7
                    have HTN := HTN7
                    clear HSG7 HTN7
                    obtain ⟨g0, g1, g2, _, _, _, g6, _, _, _⟩ := HSG.out
                    obtain ⟨gg7, cc7, w6, hrun, hown6, hgrow, hob⟩ := app_intS w.heap.size (.slice ta tn tc) (T) 1 W7 HSG.out.2.2.2.2.1 (by omega) (by have := HSG.out.1; omega)
                    obtain ⟨n0, n1, n2, n3, n4, n5⟩ := sgV_pre (sgV_on HSG.out (by go_grown)) hgrow (fun y hy => (owJ_lt HSG.out.2.2.2.2.1 hy).1)
                    obtain ⟨e0, ef, e7⟩ := sgV_app1 (sgV_on HSG.out (by go_grown)) hown6 hgrow hob
                    have HRUN := Lib.hid hrun
                    have HE7 := Lib.hid e7
                    clear hrun hown6 hgrow hob e7 e0 ef
                    go_wp2_with (at_builtin; refine wpList_append_run rfl _ _ 32 rfl rfl rfl HRUN.out ?_)
                    clear HRUN g0 g1 g2 g6
                    go_wp2_with fail
                    generalize hW8 : World.setCell _ _ _ = W8
                    obtain ⟨W7', hW7⟩ : ∃ W7', World.setCell w6 ⟨w.heap.size + 1, 1, none⟩ (.slice (some ⟨gg7, 0, none⟩) (T.length + 1) cc7) = W7' := ⟨_, rfl⟩
                    rw [hW7] at hW8
                    obtain ⟨hsg7, hb7⟩ := HE7.out W7' hW7
                    obtain ⟨u0, u1, r0, r1, hb8⟩ := sgV_end hsg7 hW8
                    have HTN7 := Lib.hid (turned_low (turned_below HTN.out (show Below W7.heap.size W7 (W7.alloc (.cells #[.int .i64 1] 3)) by go_grown)) hb7 hrb)
                    clear hW7 hW8 hsg7 hb7 n0 n1 n2 n3 n4 n5
                    go_wp2
                    refine bodyPost_ret (v := .agg #[.slice (some ⟨gg6, 0, none⟩) (F.length + 1) cc6, .slice (some ⟨gg7, 0, none⟩) (T.length + 1) cc7]) (by simp [results, Try.results38, go_sem, u0, u1]) rfl ?_
                    exact ⟨_, _, _, _, rfl, r0, r1, by first | omega | (simp only [List.length_append, List.length_cons, List.length_nil]; omega), by first | omega | (simp only [List.length_append, List.length_cons, List.length_nil]; omega), turned_more (turned_low HTN7.out hb8 hrb) (by omega)⟩
            · have hxe1 : (x == 1) = false := by simpa using hx1
              by_cases hx2 : x = 2
              · subst hx2
                have hwN : IntKind.i64.wrap ((N : Int) - 1) = (N : Int) - 1 := by rw [IntKind.wrap_i64]; omega
                obtain ⟨g0, g1, g2, _, _, _, g6, _, _, _⟩ := HSG.out
                obtain ⟨gg6, cc6, w6, hrun, hown6, hgrow, hob⟩ := app_intS w.heap.size (.slice sa sn sc) (F) ((N : Int) - 1) W5 HSG.out.2.2.2.1 (by omega) (by have := HSG.out.1; omega)
                obtain ⟨e0, ef, e7⟩ := sgV_app0 (sgV_on HSG.out (by go_grown)) hown6 hgrow hob
                have HRUN := Lib.hid hrun
                have HE7 := Lib.hid e7
                clear hrun hown6 hgrow hob e7
                go_wp2_with (at_builtin; refine wpList_append_run rfl _ _ 32 rfl rfl rfl HRUN.out ?_)
                clear HRUN
                go_upto_region 17 with fail
                generalize hW7 : World.setCell _ _ _ = W7
                obtain ⟨hsg7, hb7⟩ := HE7.out W7 hW7
                have HTN7 := Lib.hid (turned_low (turned_below HTN.out (show Below W5.heap.size W5 (W5.alloc (.cells #[.int .i64 ((N : Int) - 1)] 3)) by go_grown)) hb7 hrb)
                have HSG7 := Lib.hid hsg7
                clear hW7 HE7 e0 ef hsg7 hb7 g0 g1 g2 g6 HSG HTN
                have HSG := HSG7
                have HTN := HTN7
                clear HSG7 HTN7
                obtain ⟨_, q9, q90, q91, hR9⟩ := id HTN.out
                have HRD := Lib.hid hR9
                clear hR9
                obtain ⟨g0, g1, g2, _, _, _, g6, _, _, _⟩ := HSG.out
                have HSG0 := Lib.hid HSG.out
                clear HSG
                have hrW : r < W7.heap.size := rd_lt HRD.out
                go_wp2_with fail
                refine wp_region_held_drew (S := fun _ => True) (by kernel_rfl) trivial (fun _ => ?_)
                refine wpAnyH_take (i := 0) (oi := { dst := some 78, op := Go.Op.fieldAddr 34 (Go.Operand.tmp 5) 1, type := 0, pos := "l10_proofs.go:350", after := #[], guard := none }) (v := ?_) rfl (by kernel_rfl) (by kernel_rfl) (by kernel_rfl) (fun _ _ _ h => h) (Or.inl ⟨by rfl, ?_⟩) (by assumption) ?_
                rotate_left
                · (intro w _; first | (go_simp; done) | (go_simp; with_reducible rfl))
                try simp only [Act.put, List.setIfInBounds_toArray, List.set_cons_zero, List.set_cons_succ]
                refine wpAnyH_take (i := 2) (oi := { dst := some 80, op := Go.Op.move (Go.Operand.tmp 0), type := 74, pos := "l10_proofs.go:350", after := #[], guard := none }) (v := ?_) rfl (by kernel_rfl) (by kernel_rfl) (by kernel_rfl) (fun _ _ _ h => h) (Or.inl ⟨by rfl, ?_⟩) (by assumption) ?_
                rotate_left
                · (intro w _; first | (go_simp; done) | (go_simp; with_reducible rfl))
                try simp only [Act.put, List.setIfInBounds_toArray, List.set_cons_zero, List.set_cons_succ]
                refine wpAnyH_ready (rs := [1, 3]) (by kernel_rfl) (by simp) ?_
                refine AllReadyH.cons (o := { dst := some 79, op := Go.Op.load 32 (Go.Operand.tmp 78), type := 32, pos := "l10_proofs.go:350", after := #[{ on := 0, ground := Go.Ground.data }], guard := none }) rfl (fun K hK => ?_) (AllReadyH.cons (o := { dst := some 81, op := Go.Op.buildSlice 32 4 #[(0, Go.Operand.const (Go.Value.int Go.IntKind.i64 0)), (1, Go.Operand.const (Go.Value.int Go.IntKind.i64 (-1))), (2, Go.Operand.const (Go.Value.int Go.IntKind.i64 1000)), (3, Go.Operand.const (Go.Value.int Go.IntKind.i64 1001))], type := 32, pos := "l10_proofs.go:350", after := #[], guard := none }) rfl (fun K hK => ?_) AllReadyH.nil)
                ·
                  go_simp
                  refine hK.out _ _ trivial (fun _ => ?_)
                  clear hK K
                  try simp only [Act.put, List.setIfInBounds_toArray, List.set_cons_zero, List.set_cons_succ]
                  refine wpAnyH_ready (rs := [3]) (by kernel_rfl) (by simp) ?_
                  refine AllReadyH.cons (o := { dst := some 81, op := Go.Op.buildSlice 32 4 #[(0, Go.Operand.const (Go.Value.int Go.IntKind.i64 0)), (1, Go.Operand.const (Go.Value.int Go.IntKind.i64 (-1))), (2, Go.Operand.const (Go.Value.int Go.IntKind.i64 1000)), (3, Go.Operand.const (Go.Value.int Go.IntKind.i64 1001))], type := 32, pos := "l10_proofs.go:350", after := #[], guard := none }) rfl (fun K hK => ?_) AllReadyH.nil
                  go_simp
                  refine hK.out _ _ trivial (fun _ => ?_)
                  clear hK K
                  try simp only [Act.put, List.setIfInBounds_toArray, List.set_cons_zero, List.set_cons_succ]
                  refine wpAnyH_ready (rs := [4]) (by kernel_rfl) (by simp) ?_
                  refine AllReadyH.cons (o := { dst := some 82, op := Go.Op.call { callee := Go.Callee.value (Go.Operand.func 63), args := #[Go.Operand.tmp 80, Go.Operand.tmp 81], argTypes := #[74, 32] }, type := 3, pos := "l10_proofs.go:350", after := #[{ on := 2, ground := Go.Ground.data }, { on := 3, ground := Go.Ground.data }], guard := none }) rfl (fun K hK => ?_) AllReadyH.nil
                  go_simp
                  (go_at_call 63; refine (num_t r W7.heap.size q9 [0, -1, 1000, 1001] _ (rd_on HRD.out (by go_grown)) (by omega) (by simp) (by simp) (by simp) (by omega) (four_atS (by simp [go_sem]) (by simp [go_sem]) (by simp [go_sem]) (by simp [go_sem]))).mono ?_; rintro e w5 ⟨y, rfl, hy, ht5'⟩; have ht5 : Turned r _ _ W7 w5 := below_turned (by go_grown) ht5'; have hsg5 := sgV_turn HSG0.out ht5.1 hrb; have HSG := Lib.hid hsg5; have HTN5 := Lib.hid (turned_two HTN.out HRD.out ht5 (by omega) (by omega)); obtain ⟨k0, k1, k2, _, _, _, k6, _, _, _⟩ := hsg5; obtain ⟨gg7, cc7, w6, hrun, hown6, hgrow, hob⟩ := app_intS w.heap.size (.slice ta tn tc) (T) y w5 HSG.out.2.2.2.2.1 (by omega) (by have := HSG.out.1; omega); obtain ⟨e0, ef, e7⟩ := sgV_app1 (sgV_on HSG.out (by go_grown)) hown6 hgrow hob; clear ht5 ht5' hown6 hgrow hob hy)
                  refine hK.out _ _ trivial (fun _ => ?_)
                  clear hK K
                  try simp only [Act.put, List.setIfInBounds_toArray, List.set_cons_zero, List.set_cons_succ]
                  refine wpAnyH_ready (rs := [5]) (by kernel_rfl) (by simp) ?_
                  refine AllReadyH.cons (o := { dst := some 83, op := Go.Op.buildSlice 32 1 #[(0, Go.Operand.tmp 82)], type := 32, pos := "l10_proofs.go:350", after := #[{ on := 4, ground := Go.Ground.data }], guard := none }) rfl (fun K hK => ?_) AllReadyH.nil
                  go_simp
                  refine hK.out _ _ trivial (fun _ => ?_)
                  clear hK K
                  try simp only [Act.put, List.setIfInBounds_toArray, List.set_cons_zero, List.set_cons_succ]
                  refine wpAnyH_ready (rs := [6]) (by kernel_rfl) (by simp) ?_
                  refine AllReadyH.cons (o := { dst := some 84, op := Go.Op.call { callee := Go.Callee.builtin Go.Builtin.append, args := #[Go.Operand.tmp 79, Go.Operand.tmp 83], argTypes := #[32, 32] }, type := 32, pos := "l10_proofs.go:350", after := #[{ on := 1, ground := Go.Ground.data }, { on := 5, ground := Go.Ground.data }, { on := 4, ground := Go.Ground.chain }], guard := none }) rfl (fun K hK => ?_) AllReadyH.nil
                  rw [if_pos (by rfl)]
                  (refine oper_appendS _ _ _ rfl rfl rfl hrun ?_)
                  refine hK.out _ _ trivial (fun _ => ?_)
                  clear hK K
                  try simp only [Act.put, List.setIfInBounds_toArray, List.set_cons_zero, List.set_cons_succ]
                  refine wpAnyH_take (i := 7) (oi := { dst := some 85, op := Go.Op.fieldAddr 34 (Go.Operand.tmp 5) 1, type := 0, pos := "l10_proofs.go:350", after := #[{ on := 0, ground := Go.Ground.phase }, { on := 1, ground := Go.Ground.phase }, { on := 2, ground := Go.Ground.phase }, { on := 3, ground := Go.Ground.phase }, { on := 4, ground := Go.Ground.phase }, { on := 5, ground := Go.Ground.phase }, { on := 6, ground := Go.Ground.phase }], guard := none }) (v := ?_) rfl (by kernel_rfl) (by kernel_rfl) (by kernel_rfl) (fun _ _ _ h => h) (Or.inl ⟨by rfl, ?_⟩) (by assumption) ?_
                  rotate_left
                  · (intro w _; first | (go_simp; done) | (go_simp; with_reducible rfl))
                  try simp only [Act.put, List.setIfInBounds_toArray, List.set_cons_zero, List.set_cons_succ]
                  refine wpAnyH_ready (rs := [8]) (by kernel_rfl) (by simp) ?_
                  refine AllReadyH.cons (o := { dst := none, op := Go.Op.store 32 (Go.Operand.tmp 85) (Go.Operand.tmp 84), type := 0, pos := "l10_proofs.go:350", after := #[{ on := 7, ground := Go.Ground.data }, { on := 6, ground := Go.Ground.data }, { on := 6, ground := Go.Ground.chain }, { on := 0, ground := Go.Ground.phase }, { on := 1, ground := Go.Ground.phase }, { on := 2, ground := Go.Ground.phase }, { on := 3, ground := Go.Ground.phase }, { on := 4, ground := Go.Ground.phase }, { on := 5, ground := Go.Ground.phase }, { on := 6, ground := Go.Ground.phase }], guard := none }) rfl (fun K hK => ?_) AllReadyH.nil
                  go_simp
                  refine hK.out _ _ trivial (fun _ => ?_)
                  clear hK K
                  try simp only [Act.put, List.setIfInBounds_toArray, List.set_cons_zero, List.set_cons_succ]
                  refine wpAnyH_done (by kernel_rfl) ?_ _
                  generalize hW9 : World.setCell _ _ _ = W9
                  obtain ⟨hsg7, hb7⟩ := e7 W9 hW9
                  have HTN7 := Lib.hid (turned_low (turned_below HTN5.out (show Below w5.heap.size w5 (w5.alloc (.cells #[.int .i64 y] 3)) by go_grown)) hb7 hrb)
                  have HSG7 := Lib.hid hsg7
                  clear hW9 hrun e7 e0 ef hsg7 hb7 g0 g1 g2 g6 k0 k1 k2 k6 HSG HTN5 HSG0 HTN
                  obtain ⟨g0, g1, g2, _, _, _, _, g7, g8, g9⟩ := HSG7.out
                  go_wp2_with fail
                  generalize hW8 : World.setCell _ _ _ = W8
                  obtain ⟨u0, u1, r0, r1, hb8⟩ := sgV_end HSG7.out hW8
                  go_wp2
                  refine bodyPost_ret (v := .agg #[.slice (some ⟨gg6, 0, none⟩) (F.length + 1) cc6, .slice (some ⟨gg7, 0, none⟩) (T.length + 1) cc7]) (by simp [results, Try.results38, go_sem, u0, u1]) rfl ?_
                  exact ⟨_, _, _, _, rfl, r0, r1, by first | omega | (simp only [List.length_append, List.length_cons, List.length_nil]; omega), by first | omega | (simp only [List.length_append, List.length_cons, List.length_nil]; omega), turned_more (turned_low HTN7.out hb8 hrb) (by omega)⟩
                ·
                  go_simp
                  refine hK.out _ _ trivial (fun _ => ?_)
                  clear hK K
                  try simp only [Act.put, List.setIfInBounds_toArray, List.set_cons_zero, List.set_cons_succ]
                  refine wpAnyH_ready (rs := [1, 4]) (by kernel_rfl) (by simp) ?_
                  refine AllReadyH.cons (o := { dst := some 79, op := Go.Op.load 32 (Go.Operand.tmp 78), type := 32, pos := "l10_proofs.go:350", after := #[{ on := 0, ground := Go.Ground.data }], guard := none }) rfl (fun K hK => ?_) (AllReadyH.cons (o := { dst := some 82, op := Go.Op.call { callee := Go.Callee.value (Go.Operand.func 63), args := #[Go.Operand.tmp 80, Go.Operand.tmp 81], argTypes := #[74, 32] }, type := 3, pos := "l10_proofs.go:350", after := #[{ on := 2, ground := Go.Ground.data }, { on := 3, ground := Go.Ground.data }], guard := none }) rfl (fun K hK => ?_) AllReadyH.nil)
                  ·
                    go_simp
                    refine hK.out _ _ trivial (fun _ => ?_)
                    clear hK K
                    try simp only [Act.put, List.setIfInBounds_toArray, List.set_cons_zero, List.set_cons_succ]
                    refine wpAnyH_ready (rs := [4]) (by kernel_rfl) (by simp) ?_
                    refine AllReadyH.cons (o := { dst := some 82, op := Go.Op.call { callee := Go.Callee.value (Go.Operand.func 63), args := #[Go.Operand.tmp 80, Go.Operand.tmp 81], argTypes := #[74, 32] }, type := 3, pos := "l10_proofs.go:350", after := #[{ on := 2, ground := Go.Ground.data }, { on := 3, ground := Go.Ground.data }], guard := none }) rfl (fun K hK => ?_) AllReadyH.nil
                    go_simp
                    (go_at_call 63; refine (num_t r W7.heap.size q9 [0, -1, 1000, 1001] _ (rd_on HRD.out (by go_grown)) (by omega) (by simp) (by simp) (by simp) (by omega) (four_atS (by simp [go_sem]) (by simp [go_sem]) (by simp [go_sem]) (by simp [go_sem]))).mono ?_; rintro e w5 ⟨y, rfl, hy, ht5'⟩; have ht5 : Turned r _ _ W7 w5 := below_turned (by go_grown) ht5'; have hsg5 := sgV_turn HSG0.out ht5.1 hrb; have HSG := Lib.hid hsg5; have HTN5 := Lib.hid (turned_two HTN.out HRD.out ht5 (by omega) (by omega)); obtain ⟨k0, k1, k2, _, _, _, k6, _, _, _⟩ := hsg5; obtain ⟨gg7, cc7, w6, hrun, hown6, hgrow, hob⟩ := app_intS w.heap.size (.slice ta tn tc) (T) y w5 HSG.out.2.2.2.2.1 (by omega) (by have := HSG.out.1; omega); obtain ⟨e0, ef, e7⟩ := sgV_app1 (sgV_on HSG.out (by go_grown)) hown6 hgrow hob; clear ht5 ht5' hown6 hgrow hob hy)
                    refine hK.out _ _ trivial (fun _ => ?_)
                    clear hK K
                    try simp only [Act.put, List.setIfInBounds_toArray, List.set_cons_zero, List.set_cons_succ]
                    refine wpAnyH_ready (rs := [5]) (by kernel_rfl) (by simp) ?_
                    refine AllReadyH.cons (o := { dst := some 83, op := Go.Op.buildSlice 32 1 #[(0, Go.Operand.tmp 82)], type := 32, pos := "l10_proofs.go:350", after := #[{ on := 4, ground := Go.Ground.data }], guard := none }) rfl (fun K hK => ?_) AllReadyH.nil
                    go_simp
                    refine hK.out _ _ trivial (fun _ => ?_)
                    clear hK K
                    try simp only [Act.put, List.setIfInBounds_toArray, List.set_cons_zero, List.set_cons_succ]
                    refine wpAnyH_ready (rs := [6]) (by kernel_rfl) (by simp) ?_
                    refine AllReadyH.cons (o := { dst := some 84, op := Go.Op.call { callee := Go.Callee.builtin Go.Builtin.append, args := #[Go.Operand.tmp 79, Go.Operand.tmp 83], argTypes := #[32, 32] }, type := 32, pos := "l10_proofs.go:350", after := #[{ on := 1, ground := Go.Ground.data }, { on := 5, ground := Go.Ground.data }, { on := 4, ground := Go.Ground.chain }], guard := none }) rfl (fun K hK => ?_) AllReadyH.nil
                    rw [if_pos (by rfl)]
                    (refine oper_appendS _ _ _ rfl rfl rfl hrun ?_)
                    refine hK.out _ _ trivial (fun _ => ?_)
                    clear hK K
                    try simp only [Act.put, List.setIfInBounds_toArray, List.set_cons_zero, List.set_cons_succ]
                    refine wpAnyH_take (i := 7) (oi := { dst := some 85, op := Go.Op.fieldAddr 34 (Go.Operand.tmp 5) 1, type := 0, pos := "l10_proofs.go:350", after := #[{ on := 0, ground := Go.Ground.phase }, { on := 1, ground := Go.Ground.phase }, { on := 2, ground := Go.Ground.phase }, { on := 3, ground := Go.Ground.phase }, { on := 4, ground := Go.Ground.phase }, { on := 5, ground := Go.Ground.phase }, { on := 6, ground := Go.Ground.phase }], guard := none }) (v := ?_) rfl (by kernel_rfl) (by kernel_rfl) (by kernel_rfl) (fun _ _ _ h => h) (Or.inl ⟨by rfl, ?_⟩) (by assumption) ?_
                    rotate_left
                    · (intro w _; first | (go_simp; done) | (go_simp; with_reducible rfl))
                    try simp only [Act.put, List.setIfInBounds_toArray, List.set_cons_zero, List.set_cons_succ]
                    refine wpAnyH_ready (rs := [8]) (by kernel_rfl) (by simp) ?_
                    refine AllReadyH.cons (o := { dst := none, op := Go.Op.store 32 (Go.Operand.tmp 85) (Go.Operand.tmp 84), type := 0, pos := "l10_proofs.go:350", after := #[{ on := 7, ground := Go.Ground.data }, { on := 6, ground := Go.Ground.data }, { on := 6, ground := Go.Ground.chain }, { on := 0, ground := Go.Ground.phase }, { on := 1, ground := Go.Ground.phase }, { on := 2, ground := Go.Ground.phase }, { on := 3, ground := Go.Ground.phase }, { on := 4, ground := Go.Ground.phase }, { on := 5, ground := Go.Ground.phase }, { on := 6, ground := Go.Ground.phase }], guard := none }) rfl (fun K hK => ?_) AllReadyH.nil
                    go_simp
                    refine hK.out _ _ trivial (fun _ => ?_)
                    clear hK K
                    try simp only [Act.put, List.setIfInBounds_toArray, List.set_cons_zero, List.set_cons_succ]
                    refine wpAnyH_done (by kernel_rfl) ?_ _
                    generalize hW9 : World.setCell _ _ _ = W9
                    obtain ⟨hsg7, hb7⟩ := e7 W9 hW9
                    have HTN7 := Lib.hid (turned_low (turned_below HTN5.out (show Below w5.heap.size w5 (w5.alloc (.cells #[.int .i64 y] 3)) by go_grown)) hb7 hrb)
                    have HSG7 := Lib.hid hsg7
                    clear hW9 hrun e7 e0 ef hsg7 hb7 g0 g1 g2 g6 k0 k1 k2 k6 HSG HTN5 HSG0 HTN
                    obtain ⟨g0, g1, g2, _, _, _, _, g7, g8, g9⟩ := HSG7.out
                    go_wp2_with fail
                    generalize hW8 : World.setCell _ _ _ = W8
                    obtain ⟨u0, u1, r0, r1, hb8⟩ := sgV_end HSG7.out hW8
                    go_wp2
                    refine bodyPost_ret (v := .agg #[.slice (some ⟨gg6, 0, none⟩) (F.length + 1) cc6, .slice (some ⟨gg7, 0, none⟩) (T.length + 1) cc7]) (by simp [results, Try.results38, go_sem, u0, u1]) rfl ?_
                    exact ⟨_, _, _, _, rfl, r0, r1, by first | omega | (simp only [List.length_append, List.length_cons, List.length_nil]; omega), by first | omega | (simp only [List.length_append, List.length_cons, List.length_nil]; omega), turned_more (turned_low HTN7.out hb8 hrb) (by omega)⟩
                  ·
                    go_simp
                    (go_at_call 63; refine (num_t r W7.heap.size q9 [0, -1, 1000, 1001] _ (rd_on HRD.out (by go_grown)) (by omega) (by simp) (by simp) (by simp) (by omega) (four_atS (by simp [go_sem]) (by simp [go_sem]) (by simp [go_sem]) (by simp [go_sem]))).mono ?_; rintro e w5 ⟨y, rfl, hy, ht5'⟩; have ht5 : Turned r _ _ W7 w5 := below_turned (by go_grown) ht5'; have hsg5 := sgV_turn HSG0.out ht5.1 hrb; have HSG := Lib.hid hsg5; have HTN5 := Lib.hid (turned_two HTN.out HRD.out ht5 (by omega) (by omega)); obtain ⟨k0, k1, k2, _, _, _, k6, _, _, _⟩ := hsg5; obtain ⟨gg7, cc7, w6, hrun, hown6, hgrow, hob⟩ := app_intS w.heap.size (.slice ta tn tc) (T) y w5 HSG.out.2.2.2.2.1 (by omega) (by have := HSG.out.1; omega); obtain ⟨e0, ef, e7⟩ := sgV_app1 (sgV_on HSG.out (by go_grown)) hown6 hgrow hob; clear ht5 ht5' hown6 hgrow hob hy)
                    refine hK.out _ _ trivial (fun _ => ?_)
                    clear hK K
                    try simp only [Act.put, List.setIfInBounds_toArray, List.set_cons_zero, List.set_cons_succ]
                    refine wpAnyH_ready (rs := [1, 5]) (by kernel_rfl) (by simp) ?_
                    refine AllReadyH.cons (o := { dst := some 79, op := Go.Op.load 32 (Go.Operand.tmp 78), type := 32, pos := "l10_proofs.go:350", after := #[{ on := 0, ground := Go.Ground.data }], guard := none }) rfl (fun K hK => ?_) (AllReadyH.cons (o := { dst := some 83, op := Go.Op.buildSlice 32 1 #[(0, Go.Operand.tmp 82)], type := 32, pos := "l10_proofs.go:350", after := #[{ on := 4, ground := Go.Ground.data }], guard := none }) rfl (fun K hK => ?_) AllReadyH.nil)
                    ·
                      go_simp
                      refine hK.out _ _ trivial (fun _ => ?_)
                      clear hK K
                      try simp only [Act.put, List.setIfInBounds_toArray, List.set_cons_zero, List.set_cons_succ]
                      refine wpAnyH_ready (rs := [5]) (by kernel_rfl) (by simp) ?_
                      refine AllReadyH.cons (o := { dst := some 83, op := Go.Op.buildSlice 32 1 #[(0, Go.Operand.tmp 82)], type := 32, pos := "l10_proofs.go:350", after := #[{ on := 4, ground := Go.Ground.data }], guard := none }) rfl (fun K hK => ?_) AllReadyH.nil
                      go_simp
                      refine hK.out _ _ trivial (fun _ => ?_)
                      clear hK K
                      try simp only [Act.put, List.setIfInBounds_toArray, List.set_cons_zero, List.set_cons_succ]
                      refine wpAnyH_ready (rs := [6]) (by kernel_rfl) (by simp) ?_
                      refine AllReadyH.cons (o := { dst := some 84, op := Go.Op.call { callee := Go.Callee.builtin Go.Builtin.append, args := #[Go.Operand.tmp 79, Go.Operand.tmp 83], argTypes := #[32, 32] }, type := 32, pos := "l10_proofs.go:350", after := #[{ on := 1, ground := Go.Ground.data }, { on := 5, ground := Go.Ground.data }, { on := 4, ground := Go.Ground.chain }], guard := none }) rfl (fun K hK => ?_) AllReadyH.nil
                      rw [if_pos (by rfl)]
                      (refine oper_appendS _ _ _ rfl rfl rfl hrun ?_)
                      refine hK.out _ _ trivial (fun _ => ?_)
                      clear hK K
                      try simp only [Act.put, List.setIfInBounds_toArray, List.set_cons_zero, List.set_cons_succ]
                      refine wpAnyH_take (i := 7) (oi := { dst := some 85, op := Go.Op.fieldAddr 34 (Go.Operand.tmp 5) 1, type := 0, pos := "l10_proofs.go:350", after := #[{ on := 0, ground := Go.Ground.phase }, { on := 1, ground := Go.Ground.phase }, { on := 2, ground := Go.Ground.phase }, { on := 3, ground := Go.Ground.phase }, { on := 4, ground := Go.Ground.phase }, { on := 5, ground := Go.Ground.phase }, { on := 6, ground := Go.Ground.phase }], guard := none }) (v := ?_) rfl (by kernel_rfl) (by kernel_rfl) (by kernel_rfl) (fun _ _ _ h => h) (Or.inl ⟨by rfl, ?_⟩) (by assumption) ?_
                      rotate_left
                      · (intro w _; first | (go_simp; done) | (go_simp; with_reducible rfl))
                      try simp only [Act.put, List.setIfInBounds_toArray, List.set_cons_zero, List.set_cons_succ]
                      refine wpAnyH_ready (rs := [8]) (by kernel_rfl) (by simp) ?_
                      refine AllReadyH.cons (o := { dst := none, op := Go.Op.store 32 (Go.Operand.tmp 85) (Go.Operand.tmp 84), type := 0, pos := "l10_proofs.go:350", after := #[{ on := 7, ground := Go.Ground.data }, { on := 6, ground := Go.Ground.data }, { on := 6, ground := Go.Ground.chain }, { on := 0, ground := Go.Ground.phase }, { on := 1, ground := Go.Ground.phase }, { on := 2, ground := Go.Ground.phase }, { on := 3, ground := Go.Ground.phase }, { on := 4, ground := Go.Ground.phase }, { on := 5, ground := Go.Ground.phase }, { on := 6, ground := Go.Ground.phase }], guard := none }) rfl (fun K hK => ?_) AllReadyH.nil
                      go_simp
                      refine hK.out _ _ trivial (fun _ => ?_)
                      clear hK K
                      try simp only [Act.put, List.setIfInBounds_toArray, List.set_cons_zero, List.set_cons_succ]
                      refine wpAnyH_done (by kernel_rfl) ?_ _
                      generalize hW9 : World.setCell _ _ _ = W9
                      obtain ⟨hsg7, hb7⟩ := e7 W9 hW9
                      have HTN7 := Lib.hid (turned_low (turned_below HTN5.out (show Below w5.heap.size w5 (w5.alloc (.cells #[.int .i64 y] 3)) by go_grown)) hb7 hrb)
                      have HSG7 := Lib.hid hsg7
                      clear hW9 hrun e7 e0 ef hsg7 hb7 g0 g1 g2 g6 k0 k1 k2 k6 HSG HTN5 HSG0 HTN
                      obtain ⟨g0, g1, g2, _, _, _, _, g7, g8, g9⟩ := HSG7.out
                      go_wp2_with fail
                      generalize hW8 : World.setCell _ _ _ = W8
                      obtain ⟨u0, u1, r0, r1, hb8⟩ := sgV_end HSG7.out hW8
                      go_wp2
                      refine bodyPost_ret (v := .agg #[.slice (some ⟨gg6, 0, none⟩) (F.length + 1) cc6, .slice (some ⟨gg7, 0, none⟩) (T.length + 1) cc7]) (by simp [results, Try.results38, go_sem, u0, u1]) rfl ?_
                      exact ⟨_, _, _, _, rfl, r0, r1, by first | omega | (simp only [List.length_append, List.length_cons, List.length_nil]; omega), by first | omega | (simp only [List.length_append, List.length_cons, List.length_nil]; omega), turned_more (turned_low HTN7.out hb8 hrb) (by omega)⟩
                    ·
                      go_simp
                      refine hK.out _ _ trivial (fun _ => ?_)
                      clear hK K
                      try simp only [Act.put, List.setIfInBounds_toArray, List.set_cons_zero, List.set_cons_succ]
                      refine wpAnyH_ready (rs := [1]) (by kernel_rfl) (by simp) ?_
                      refine AllReadyH.cons (o := { dst := some 79, op := Go.Op.load 32 (Go.Operand.tmp 78), type := 32, pos := "l10_proofs.go:350", after := #[{ on := 0, ground := Go.Ground.data }], guard := none }) rfl (fun K hK => ?_) AllReadyH.nil
                      go_simp
                      refine hK.out _ _ trivial (fun _ => ?_)
                      clear hK K
                      try simp only [Act.put, List.setIfInBounds_toArray, List.set_cons_zero, List.set_cons_succ]
                      refine wpAnyH_ready (rs := [6]) (by kernel_rfl) (by simp) ?_
                      refine AllReadyH.cons (o := { dst := some 84, op := Go.Op.call { callee := Go.Callee.builtin Go.Builtin.append, args := #[Go.Operand.tmp 79, Go.Operand.tmp 83], argTypes := #[32, 32] }, type := 32, pos := "l10_proofs.go:350", after := #[{ on := 1, ground := Go.Ground.data }, { on := 5, ground := Go.Ground.data }, { on := 4, ground := Go.Ground.chain }], guard := none }) rfl (fun K hK => ?_) AllReadyH.nil
                      rw [if_pos (by rfl)]
                      (refine oper_appendS _ _ _ rfl rfl rfl hrun ?_)
                      refine hK.out _ _ trivial (fun _ => ?_)
                      clear hK K
                      try simp only [Act.put, List.setIfInBounds_toArray, List.set_cons_zero, List.set_cons_succ]
                      refine wpAnyH_take (i := 7) (oi := { dst := some 85, op := Go.Op.fieldAddr 34 (Go.Operand.tmp 5) 1, type := 0, pos := "l10_proofs.go:350", after := #[{ on := 0, ground := Go.Ground.phase }, { on := 1, ground := Go.Ground.phase }, { on := 2, ground := Go.Ground.phase }, { on := 3, ground := Go.Ground.phase }, { on := 4, ground := Go.Ground.phase }, { on := 5, ground := Go.Ground.phase }, { on := 6, ground := Go.Ground.phase }], guard := none }) (v := ?_) rfl (by kernel_rfl) (by kernel_rfl) (by kernel_rfl) (fun _ _ _ h => h) (Or.inl ⟨by rfl, ?_⟩) (by assumption) ?_
                      rotate_left
                      · (intro w _; first | (go_simp; done) | (go_simp; with_reducible rfl))
                      try simp only [Act.put, List.setIfInBounds_toArray, List.set_cons_zero, List.set_cons_succ]
                      refine wpAnyH_ready (rs := [8]) (by kernel_rfl) (by simp) ?_
                      refine AllReadyH.cons (o := { dst := none, op := Go.Op.store 32 (Go.Operand.tmp 85) (Go.Operand.tmp 84), type := 0, pos := "l10_proofs.go:350", after := #[{ on := 7, ground := Go.Ground.data }, { on := 6, ground := Go.Ground.data }, { on := 6, ground := Go.Ground.chain }, { on := 0, ground := Go.Ground.phase }, { on := 1, ground := Go.Ground.phase }, { on := 2, ground := Go.Ground.phase }, { on := 3, ground := Go.Ground.phase }, { on := 4, ground := Go.Ground.phase }, { on := 5, ground := Go.Ground.phase }, { on := 6, ground := Go.Ground.phase }], guard := none }) rfl (fun K hK => ?_) AllReadyH.nil
                      go_simp
                      refine hK.out _ _ trivial (fun _ => ?_)
                      clear hK K
                      try simp only [Act.put, List.setIfInBounds_toArray, List.set_cons_zero, List.set_cons_succ]
                      refine wpAnyH_done (by kernel_rfl) ?_ _
                      generalize hW9 : World.setCell _ _ _ = W9
                      obtain ⟨hsg7, hb7⟩ := e7 W9 hW9
                      have HTN7 := Lib.hid (turned_low (turned_below HTN5.out (show Below w5.heap.size w5 (w5.alloc (.cells #[.int .i64 y] 3)) by go_grown)) hb7 hrb)
                      have HSG7 := Lib.hid hsg7
                      clear hW9 hrun e7 e0 ef hsg7 hb7 g0 g1 g2 g6 k0 k1 k2 k6 HSG HTN5 HSG0 HTN
                      obtain ⟨g0, g1, g2, _, _, _, _, g7, g8, g9⟩ := HSG7.out
                      go_wp2_with fail
                      generalize hW8 : World.setCell _ _ _ = W8
                      obtain ⟨u0, u1, r0, r1, hb8⟩ := sgV_end HSG7.out hW8
                      go_wp2
                      refine bodyPost_ret (v := .agg #[.slice (some ⟨gg6, 0, none⟩) (F.length + 1) cc6, .slice (some ⟨gg7, 0, none⟩) (T.length + 1) cc7]) (by simp [results, Try.results38, go_sem, u0, u1]) rfl ?_
                      exact ⟨_, _, _, _, rfl, r0, r1, by first | omega | (simp only [List.length_append, List.length_cons, List.length_nil]; omega), by first | omega | (simp only [List.length_append, List.length_cons, List.length_nil]; omega), turned_more (turned_low HTN7.out hb8 hrb) (by omega)⟩
              · have hxe2 : (x == 2) = false := by simpa using hx2
                by_cases hx3 : x = 3
                · subst hx3
                  obtain ⟨g0, g1, g2, _, _, _, _, g7, g8, g9⟩ := HSG.out
                  go_wp2_with fail
                  generalize hW8 : World.setCell _ _ _ = W8
                  obtain ⟨u0, u1, hb8⟩ := sgV_zero HSG.out hW8
                  go_wp2
                  refine bodyPost_ret (v := .agg #[.slice none 0 0, .slice none 0 0]) (by simp [results, Try.results38, go_sem, u0, u1]) rfl ?_
                  exact ⟨_, _, [], [], rfl, rdJ_nil _ _, rdJ_nil _ _, by simp, by simp, turned_more (turned_low HTN.out hb8 hrb) (by omega)⟩
                · have hxe3 : (x == 3) = false := by simpa using hx3
                  have HSG7 := HSG
                  have HTN7 := HTN
                  obtain ⟨g0, g1, g2, _, _, _, _, g7, g8, g9⟩ := HSG7.out
                  go_wp2_with fail
                  generalize hW8 : World.setCell _ _ _ = W8
                  obtain ⟨u0, u1, r0, r1, hb8⟩ := sgV_end HSG7.out hW8
                  go_wp2
                  refine bodyPost_ret (v := .agg #[.slice sa sn sc, .slice ta tn tc]) (by simp [results, Try.results38, go_sem, u0, u1]) rfl ?_
                  exact ⟨_, _, _, _, rfl, r0, r1, by first | omega | (simp only [List.length_append, List.length_cons, List.length_nil]; omega), by first | omega | (simp only [List.length_append, List.length_cons, List.length_nil]; omega), turned_more (turned_low HTN7.out hb8 hrb) (by omega)⟩

end Go.Proofs.Ytaiajdeognnndaa
