/- The contract of appendNodes and nodesIn: a node and all parts of parts; NodeCount of the model and of the program. -/
import Derived.Test.YtbppcpaodfjpkaaDoorFormM
import Derived.Test.YtbppcpaodfjpkaaDoorOwn2
namespace Go.Proofs.YtbppcpaodfjpkaaDoor
open Go.RowKit

/-- The nodes of formulas and of all their parts, in the order of the text. -/
def Fo.flat : Fo → List Value
  | .nil => []
  | .cons h s r => nd1 h s.nds :: (s.flat ++ r.flat)
theorem flat_len (f : Fo) : f.flat.length = f.size := by
  induction f with
  | nil => rfl
  | cons h s r ih1 ih2 => simp only [Fo.flat, Fo.size, List.length_cons, List.length_append, ih1, ih2]

/-- Another list's block: the same, or one that is made since a world. -/
def Wh (w : World) (v v' : Value) : Prop := v'.ownBlock = v.ownBlock ∨ ∃ g, v'.ownBlock = some g ∧ w.heap.size ≤ g
theorem wh_trans {a b : World} {u v x : Value} (h1 : Wh a u v) (h2 : Wh b v x) (hs : a.heap.size ≤ b.heap.size) : Wh a u x := by
  rcases h2 with e | ⟨g, e, hg⟩
  · rcases h1 with e1 | ⟨g, e1, hg⟩
    · exact .inl (e.trans e1)
    · exact .inr ⟨g, e.trans e1, hg⟩
  · exact .inr ⟨g, e, Nat.le_trans hs hg⟩
theorem gr_trans {a b c : World} {u v : Value} (h1 : a.grownBy b u.ownBlock) (h2 : b.grownBy c v.ownBlock) (hw : Wh a u v) : a.grownBy c u.ownBlock :=
  ⟨h2.os.trans h1.os, h2.tape.trans h1.tape, h2.output.trans h1.output, Nat.le_trans h1.size h2.size, fun k hk hne => (h2.block k (Nat.lt_of_lt_of_le hk h1.size) (fun e => by
    rcases hw with e1 | ⟨g, e1, hg⟩
    · exact hne (e.trans e1)
    · rw [e1] at e; cases e; omega)).trans (h1.block k hk hne)⟩
theorem gr_below {a b c : World} {u : Value} (h1 : a.grownBy b u.ownBlock) (h2 : Below b.heap.size b c) : a.grownBy c u.ownBlock :=
  ⟨h2.os.trans h1.os, h2.tape.trans h1.tape, h2.output.trans h1.output, Nat.le_trans h1.size h2.size, fun k hk hne => (h2.block k (Nat.lt_of_lt_of_le hk h1.size)).trans (h1.block k hk hne)⟩

def AnPost (base n : Nat) (xs L : List Value) (v : Value) (w : World) (e : Ending) (w' : World) : Prop :=
  ∃ v', e = .returned v' ∧ w'.ownsRow base 84 1 v' (n + L.length) (xs ++ L) ∧ w.grownBy w' v.ownBlock ∧ Wh w v v'

def AnAt (x : Value) (L : List Value) : Prop := ∀ (w : World) (base : Nat) (v : Value) (n : Nat) (xs : List Value), base ≤ w.heap.size → n + L.length ≤ 1048576 → w.ownsRow base 84 1 v n xs →
  Calls Tryd.prog 67 #[v, x] w (AnPost base n xs L v w)

/-- The first thing that appendNodes does. -/
theorem an_first (x : Value) (h1 : x.oneCell' = true) {w : World} {base n : Nat} {v : Value} {xs : List Value} (hb : base ≤ w.heap.size) (hn : n ≤ 1048576) (hown : w.ownsRow base 84 1 v n xs) :
    ∃ v1 w1, (Builtin.append_ #[87, 87] 87 #[v, .slice (some ⟨w.heap.size, 0, none⟩) 1 1]).run Tryd.prog (w.alloc (.cells #[x] 84)) = .ok v1 w1 ∧ w1.ownsRow base 84 1 v1 (n + 1) (xs ++ [x]) ∧ w.grownBy w1 v.ownBlock ∧ Wh w v v1 := by
  obtain ⟨i0, hi, hz0, hz1, hz2⟩ := info_parts Tryd.infoNode
  obtain ⟨v1, w1, hr, ho, hg, hw⟩ := append_one (P := Tryd.prog) (ty := 87) Tryd.underlying87 hi hz0 hz1 hz2 rfl (hown.alloc (.cells #[x] 84)) (a := ⟨w.heap.size, 0, none⟩) (x := x) (by simp) h1 hn (by omega) (by simp; omega)
  refine ⟨v1, w1, hr, ho, ?_, ?_⟩
  · exact ⟨hg.os, hg.tape, hg.output, Nat.le_trans (by simp) hg.size, fun k hk hne => (hg.block k (by simp; omega) hne).trans (Below.heap_alloc _ _ _ hk)⟩
  · rcases hw with e | e
    · exact .inl e
    · exact .inr ⟨_, e, by simp⟩

set_option maxRecDepth 10000 in
set_option maxHeartbeats 400000 in
theorem an_0 (h : FH) (hk : h.k = 0 ∨ h.k = 1 ∨ h.k = 2) : AnAt (nd1 h []) [nd1 h []] := by
  intro w base v n xs hb hn hown
  obtain ⟨t, y, e⟩ := nd1_iface h []
  rw [e]
  obtain ⟨v1, w1, hr, ho, hg, hw⟩ := an_first (.iface t y) rfl hb (by simp at hn; omega) hown
  have HP := Lib.hid (show AnPost base n xs [.iface t y] v w (.returned v1) (w1) from ⟨v1, rfl, ho, hg, hw⟩)
  have HO := Lib.hid ho
  have HG := Lib.hid hg
  have HW := Lib.hid hw
  clear ho hg hw hown hn
  obtain ⟨k, ak, am, a, b, c, d, m, u⟩ := h
  dsimp only at hk
  rcases hk with rfl | rfl | rfl
  · obtain ⟨rfl, rfl⟩ : 131 = t ∧ .agg #[.bool true] = y := by injection e with e1 e2; exact ⟨e1, e2⟩
    clear e
    have HRUN := Lib.hid hr
    clear hr
    go_enter Tryd.func67, Tryd.ntmps67
    go_wp2_with (at_builtin; refine wpList_append_run rfl _ _ 87 rfl rfl rfl HRUN.out ?_)
    go_wp2
    refine wp_loop_rounds 1 ?_
    rw [rounds_succ]
    go_wp2
    go_ret
    have hb2 : Below w1.heap.size w1 (w1.alloc (.cells #[.bool true] 131)) := by go_grown
    exact ⟨_, rfl, own_below HO.out hb2, gr_below HG.out hb2, HW.out⟩
  · obtain ⟨rfl, rfl⟩ : 131 = t ∧ .agg #[.bool false] = y := by injection e with e1 e2; exact ⟨e1, e2⟩
    clear e
    have HRUN := Lib.hid hr
    clear hr
    go_enter Tryd.func67, Tryd.ntmps67
    go_wp2_with (at_builtin; refine wpList_append_run rfl _ _ 87 rfl rfl rfl HRUN.out ?_)
    go_wp2
    refine wp_loop_rounds 1 ?_
    rw [rounds_succ]
    go_wp2
    go_ret
    have hb2 : Below w1.heap.size w1 (w1.alloc (.cells #[.bool false] 131)) := by go_grown
    exact ⟨_, rfl, own_below HO.out hb2, gr_below HG.out hb2, HW.out⟩
  · obtain ⟨rfl, rfl⟩ : 114 = t ∧ .agg #[.int .i64 ak, .int .i64 am, .int .i64 a, .int .i64 b, .int .i64 c, .int .i64 d, .int .i64 m] = y := by injection e with e1 e2; exact ⟨e1, e2⟩
    clear e
    have HRUN := Lib.hid hr
    clear hr
    go_enter Tryd.func67, Tryd.ntmps67
    go_wp2_with (at_builtin; refine wpList_append_run rfl _ _ 87 rfl rfl rfl HRUN.out ?_)
    go_wp2
    refine wp_loop_rounds 1 ?_
    rw [rounds_succ]
    go_wp2
    go_ret
    have hb2 : Below w1.heap.size w1 (w1.alloc (.cells #[.int .i64 ak, .int .i64 am, .int .i64 a, .int .i64 b, .int .i64 c, .int .i64 d, .int .i64 m] 114)) := by go_grown
    exact ⟨_, rfl, own_below HO.out hb2, gr_below HG.out hb2, HW.out⟩

set_option maxRecDepth 10000 in
set_option maxHeartbeats 1000000 in
theorem an_1 (h : FH) (t1 : TypeId) (y1 : Value) (L : List Value) (hk : h.k = 3 ∨ h.k = 6 ∨ h.k = 7) (HC : AnAt (.iface t1 y1) L) : AnAt (nd1 h [.iface t1 y1]) (nd1 h [.iface t1 y1] :: L) := by
  intro w base v n xs hb hn hown
  have H := Lib.hid HC
  clear HC
  obtain ⟨t, y, e⟩ := nd1_iface h [.iface t1 y1]
  rw [e]
  simp only [List.length_cons] at hn
  obtain ⟨v1, w1, hr, ho, hg, hw⟩ := an_first (.iface t y) rfl hb (by omega) hown
  have HO := Lib.hid ho
  have HG := Lib.hid hg
  have HW := Lib.hid hw
  have hb1 : base ≤ w1.heap.size := Nat.le_trans hb hg.size
  clear ho hg hw hown
  obtain ⟨k, ak, am, a, b, c, d, m, u⟩ := h
  dsimp only at hk
  rcases hk with rfl | rfl | rfl
  · obtain ⟨rfl, rfl⟩ : 133 = t ∧ .agg #[.iface t1 y1] = y := by injection e with e1 e2; exact ⟨e1, e2⟩
    clear e
    have HRUN := Lib.hid hr
    clear hr
    go_enter Tryd.func67, Tryd.ntmps67
    go_wp2_with (at_builtin; refine wpList_append_run rfl _ _ 87 rfl rfl rfl HRUN.out ?_)
    go_wp2
    generalize hW : World.alloc _ _ = W
    have hbW : Below w1.heap.size w1 W := by subst hW; go_grown
    have hc0 : W.cell? ⟨w1.heap.size + 1, 0, none⟩ = some (.iface t1 y1) := by subst hW; simp [go_sem]
    have HOW := Lib.hid (own_below HO.out hbW)
    have HGW := Lib.hid (gr_below HG.out hbW)
    have hbb : base ≤ W.heap.size := Nat.le_trans hb1 hbW.size
    have hsW : w1.heap.size ≤ W.heap.size := hbW.size
    clear hW hbW
    refine wp_loop_rounds 2 ?_
    rw [rounds_succ]
    go_wp2_with fail
    refine (H.out W base v1 (n + 1) _ hbb (by omega) HOW.out).mono ?_
    rintro e w2 ⟨v2, rfl, ho2, hg2, hw2⟩
    have HO2 := Lib.hid ho2
    have HG2 := Lib.hid (gr_trans HGW.out hg2 HW.out)
    have HW2 := Lib.hid (wh_trans HW.out hw2 (HGW.out.size))
    clear ho2 hg2 hw2 hc0
    go_wp2_with fail
    rw [rounds_succ]
    go_wp2
    go_ret
    exact ⟨_, rfl, by have := HO2.out; rw [List.append_assoc] at this; simpa [Nat.add_assoc, Nat.add_comm, Nat.add_left_comm] using this, HG2.out, HW2.out⟩
  · obtain ⟨rfl, rfl⟩ : 116 = t ∧ .agg #[.bool true, .int .i64 u, .iface t1 y1] = y := by injection e with e1 e2; exact ⟨e1, e2⟩
    clear e
    have HRUN := Lib.hid hr
    clear hr
    go_enter Tryd.func67, Tryd.ntmps67
    go_wp2_with (at_builtin; refine wpList_append_run rfl _ _ 87 rfl rfl rfl HRUN.out ?_)
    go_wp2
    generalize hW : World.alloc _ _ = W
    have hbW : Below w1.heap.size w1 W := by subst hW; go_grown
    have hc0 : W.cell? ⟨w1.heap.size + 1, 0, none⟩ = some (.iface t1 y1) := by subst hW; simp [go_sem]
    have HOW := Lib.hid (own_below HO.out hbW)
    have HGW := Lib.hid (gr_below HG.out hbW)
    have hbb : base ≤ W.heap.size := Nat.le_trans hb1 hbW.size
    have hsW : w1.heap.size ≤ W.heap.size := hbW.size
    clear hW hbW
    refine wp_loop_rounds 2 ?_
    rw [rounds_succ]
    go_wp2_with fail
    refine (H.out W base v1 (n + 1) _ hbb (by omega) HOW.out).mono ?_
    rintro e w2 ⟨v2, rfl, ho2, hg2, hw2⟩
    have HO2 := Lib.hid ho2
    have HG2 := Lib.hid (gr_trans HGW.out hg2 HW.out)
    have HW2 := Lib.hid (wh_trans HW.out hw2 (HGW.out.size))
    clear ho2 hg2 hw2 hc0
    go_wp2_with fail
    rw [rounds_succ]
    go_wp2
    go_ret
    exact ⟨_, rfl, by have := HO2.out; rw [List.append_assoc] at this; simpa [Nat.add_assoc, Nat.add_comm, Nat.add_left_comm] using this, HG2.out, HW2.out⟩
  · obtain ⟨rfl, rfl⟩ : 116 = t ∧ .agg #[.bool false, .int .i64 u, .iface t1 y1] = y := by injection e with e1 e2; exact ⟨e1, e2⟩
    clear e
    have HRUN := Lib.hid hr
    clear hr
    go_enter Tryd.func67, Tryd.ntmps67
    go_wp2_with (at_builtin; refine wpList_append_run rfl _ _ 87 rfl rfl rfl HRUN.out ?_)
    go_wp2
    generalize hW : World.alloc _ _ = W
    have hbW : Below w1.heap.size w1 W := by subst hW; go_grown
    have hc0 : W.cell? ⟨w1.heap.size + 1, 0, none⟩ = some (.iface t1 y1) := by subst hW; simp [go_sem]
    have HOW := Lib.hid (own_below HO.out hbW)
    have HGW := Lib.hid (gr_below HG.out hbW)
    have hbb : base ≤ W.heap.size := Nat.le_trans hb1 hbW.size
    have hsW : w1.heap.size ≤ W.heap.size := hbW.size
    clear hW hbW
    refine wp_loop_rounds 2 ?_
    rw [rounds_succ]
    go_wp2_with fail
    refine (H.out W base v1 (n + 1) _ hbb (by omega) HOW.out).mono ?_
    rintro e w2 ⟨v2, rfl, ho2, hg2, hw2⟩
    have HO2 := Lib.hid ho2
    have HG2 := Lib.hid (gr_trans HGW.out hg2 HW.out)
    have HW2 := Lib.hid (wh_trans HW.out hw2 (HGW.out.size))
    clear ho2 hg2 hw2 hc0
    go_wp2_with fail
    rw [rounds_succ]
    go_wp2
    go_ret
    exact ⟨_, rfl, by have := HO2.out; rw [List.append_assoc] at this; simpa [Nat.add_assoc, Nat.add_comm, Nat.add_left_comm] using this, HG2.out, HW2.out⟩

set_option maxRecDepth 10000 in
set_option maxHeartbeats 1000000 in
theorem an_2 (h : FH) (t1 t2 : TypeId) (y1 y2 : Value) (L L' : List Value) (hk : h.k = 4 ∨ h.k = 5) (HC : AnAt (.iface t1 y1) L) (HC' : AnAt (.iface t2 y2) L') : AnAt (nd1 h [.iface t1 y1, .iface t2 y2]) (nd1 h [.iface t1 y1, .iface t2 y2] :: (L ++ L')) := by
  intro w base v n xs hb hn hown
  have H := Lib.hid HC
  have H' := Lib.hid HC'
  clear HC HC'
  obtain ⟨t, y, e⟩ := nd1_iface h [.iface t1 y1, .iface t2 y2]
  rw [e]
  simp only [List.length_cons, List.length_append] at hn
  obtain ⟨v1, w1, hr, ho, hg, hw⟩ := an_first (.iface t y) rfl hb (by omega) hown
  have HO := Lib.hid ho
  have HG := Lib.hid hg
  have HW := Lib.hid hw
  have hb1 : base ≤ w1.heap.size := Nat.le_trans hb hg.size
  clear ho hg hw hown
  obtain ⟨k, ak, am, a, b, c, d, m, u⟩ := h
  dsimp only at hk
  rcases hk with rfl | rfl
  · obtain ⟨rfl, rfl⟩ : 135 = t ∧ .agg #[.bool true, .iface t1 y1, .iface t2 y2] = y := by injection e with e1 e2; exact ⟨e1, e2⟩
    clear e
    have HRUN := Lib.hid hr
    clear hr
    go_enter Tryd.func67, Tryd.ntmps67
    go_wp2_with (at_builtin; refine wpList_append_run rfl _ _ 87 rfl rfl rfl HRUN.out ?_)
    go_wp2
    generalize hW : World.alloc _ _ = W
    have hbW : Below w1.heap.size w1 W := by subst hW; go_grown
    have hc0 : W.cell? ⟨w1.heap.size + 1, 0, none⟩ = some (.iface t1 y1) := by subst hW; simp [go_sem]
    have hc1 : W.cell? ⟨w1.heap.size + 1, 1, none⟩ = some (.iface t2 y2) := by subst hW; simp [go_sem]
    have hsW : w1.heap.size + 1 < W.heap.size := by subst hW; simp
    have HOW := Lib.hid (own_below HO.out hbW)
    have HGW := Lib.hid (gr_below HG.out hbW)
    have hbb : base ≤ W.heap.size := Nat.le_trans hb1 hbW.size
    clear hW hbW
    refine wp_loop_rounds 3 ?_
    rw [rounds_succ]
    go_wp2_with fail
    refine (H.out W base v1 (n + 1) _ hbb (by omega) HOW.out).mono ?_
    rintro e w2 ⟨v2, rfl, ho2, hg2, hw2⟩
    have hd1 : w2.cell? ⟨w1.heap.size + 1, 1, none⟩ = some (.iface t2 y2) := (World.cell?_of_block (hg2.block (w1.heap.size + 1) hsW (fun e => by have := (HO.out.lt _ e.symm).2; omega))).trans hc1
    have HO2 := Lib.hid ho2
    have HG2 := Lib.hid (gr_trans HGW.out hg2 HW.out)
    have HW2 := Lib.hid (wh_trans HW.out hw2 (HGW.out.size))
    have hbb2 : base ≤ w2.heap.size := Nat.le_trans hbb hg2.size
    clear ho2 hg2 hw2 hc0 hc1
    go_wp2_with fail
    rw [rounds_succ]
    go_wp2_with fail
    refine (H'.out w2 base v2 _ _ hbb2 (by omega) HO2.out).mono ?_
    rintro e w3 ⟨v3, rfl, ho3, hg3, hw3⟩
    have HO3 := Lib.hid ho3
    have HG3 := Lib.hid (gr_trans HG2.out hg3 HW2.out)
    have HW3 := Lib.hid (wh_trans HW2.out hw3 (HG2.out.size))
    clear ho3 hg3 hw3 hd1
    go_wp2_with fail
    rw [rounds_succ]
    go_wp2
    go_ret
    exact ⟨_, rfl, by have := HO3.out; rw [List.append_assoc, List.append_assoc] at this; simpa [Nat.add_assoc, Nat.add_comm, Nat.add_left_comm] using this, HG3.out, HW3.out⟩
  · obtain ⟨rfl, rfl⟩ : 135 = t ∧ .agg #[.bool false, .iface t1 y1, .iface t2 y2] = y := by injection e with e1 e2; exact ⟨e1, e2⟩
    clear e
    have HRUN := Lib.hid hr
    clear hr
    go_enter Tryd.func67, Tryd.ntmps67
    go_wp2_with (at_builtin; refine wpList_append_run rfl _ _ 87 rfl rfl rfl HRUN.out ?_)
    go_wp2
    generalize hW : World.alloc _ _ = W
    have hbW : Below w1.heap.size w1 W := by subst hW; go_grown
    have hc0 : W.cell? ⟨w1.heap.size + 1, 0, none⟩ = some (.iface t1 y1) := by subst hW; simp [go_sem]
    have hc1 : W.cell? ⟨w1.heap.size + 1, 1, none⟩ = some (.iface t2 y2) := by subst hW; simp [go_sem]
    have hsW : w1.heap.size + 1 < W.heap.size := by subst hW; simp
    have HOW := Lib.hid (own_below HO.out hbW)
    have HGW := Lib.hid (gr_below HG.out hbW)
    have hbb : base ≤ W.heap.size := Nat.le_trans hb1 hbW.size
    clear hW hbW
    refine wp_loop_rounds 3 ?_
    rw [rounds_succ]
    go_wp2_with fail
    refine (H.out W base v1 (n + 1) _ hbb (by omega) HOW.out).mono ?_
    rintro e w2 ⟨v2, rfl, ho2, hg2, hw2⟩
    have hd1 : w2.cell? ⟨w1.heap.size + 1, 1, none⟩ = some (.iface t2 y2) := (World.cell?_of_block (hg2.block (w1.heap.size + 1) hsW (fun e => by have := (HO.out.lt _ e.symm).2; omega))).trans hc1
    have HO2 := Lib.hid ho2
    have HG2 := Lib.hid (gr_trans HGW.out hg2 HW.out)
    have HW2 := Lib.hid (wh_trans HW.out hw2 (HGW.out.size))
    have hbb2 : base ≤ w2.heap.size := Nat.le_trans hbb hg2.size
    clear ho2 hg2 hw2 hc0 hc1
    go_wp2_with fail
    rw [rounds_succ]
    go_wp2_with fail
    refine (H'.out w2 base v2 _ _ hbb2 (by omega) HO2.out).mono ?_
    rintro e w3 ⟨v3, rfl, ho3, hg3, hw3⟩
    have HO3 := Lib.hid ho3
    have HG3 := Lib.hid (gr_trans HG2.out hg3 HW2.out)
    have HW3 := Lib.hid (wh_trans HW2.out hw3 (HG2.out.size))
    clear ho3 hg3 hw3 hd1
    go_wp2_with fail
    rw [rounds_succ]
    go_wp2
    go_ret
    exact ⟨_, rfl, by have := HO3.out; rw [List.append_assoc, List.append_assoc] at this; simpa [Nat.add_assoc, Nat.add_comm, Nat.add_left_comm] using this, HG3.out, HW3.out⟩

theorem an_any : ∀ (N : Nat) (h : FH) (f : Fo), f.size ≤ N → ownB h f.len = true → f.okB = true → AnAt (nd1 h f.nds) (nd1 h f.nds :: f.flat) := by
  intro N
  induction N with
  | zero =>
    intro h f hf ho _
    match f, hf with
    | .nil, _ =>
      refine an_0 h ?_
      rcases own_kind ho with ⟨_, hk⟩ | ⟨hl, _⟩ | ⟨hl, _⟩
      · exact hk
      · simp [Fo.len] at hl
      · simp [Fo.len] at hl
    | .cons _ _ _, hf => simp [Fo.size] at hf
  | succ N ih =>
    intro h f hf ho hok
    match f, hf, ho, hok with
    | .nil, _, ho, _ =>
      refine an_0 h ?_
      rcases own_kind ho with ⟨_, hk⟩ | ⟨hl, _⟩ | ⟨hl, _⟩
      · exact hk
      · simp [Fo.len] at hl
      · simp [Fo.len] at hl
    | .cons h1 s1 .nil, hf, ho, hok =>
      have hk := own_kind ho
      simp only [Fo.size, Fo.okB, Bool.and_true, Bool.and_eq_true] at hf hok
      obtain ⟨t, y, e⟩ := nd1_iface h1 s1.nds
      have h1n := ih h1 s1 (by omega) hok.1 hok.2
      simp only [Fo.nds, Fo.flat, e, List.append_nil] at h1n ⊢
      refine an_1 h t y _ ?_ h1n
      rcases hk with ⟨hl, _⟩ | ⟨_, hk⟩ | ⟨hl, _⟩
      · simp [Fo.len] at hl
      · exact hk
      · simp [Fo.len] at hl
    | .cons h1 s1 (.cons h2 s2 .nil), hf, ho, hok =>
      have hk := own_kind ho
      simp only [Fo.size, Fo.okB, Bool.and_true, Bool.and_eq_true] at hf hok
      obtain ⟨t, y, e⟩ := nd1_iface h1 s1.nds
      obtain ⟨t', y', e'⟩ := nd1_iface h2 s2.nds
      have h1n := ih h1 s1 (by omega) hok.1.1 hok.1.2
      have h2n := ih h2 s2 (by omega) hok.2.1 hok.2.2
      simp only [Fo.nds, Fo.flat, e, e', List.append_nil] at h1n h2n ⊢
      have := an_2 h t t' y y' _ _ ?_ h1n h2n
      · simpa using this
      · rcases hk with ⟨hl, _⟩ | ⟨hl, _⟩ | ⟨_, hk⟩
        · simp [Fo.len] at hl
        · simp [Fo.len] at hl
        · exact hk
    | .cons _ _ (.cons _ _ (.cons _ _ r)), _, ho, _ =>
      rcases own_kind ho with ⟨hl, _⟩ | ⟨hl, _⟩ | ⟨hl, _⟩ <;> simp [Fo.len] at hl

/-- A new list of nodes. -/
def NiPost (L : List Value) (w : World) (e : Ending) (w' : World) : Prop :=
  ∃ v', e = .returned v' ∧ w'.ownsRow w.heap.size 84 1 v' L.length L ∧ Below w.heap.size w w'

theorem nodesIn_any (x : Value) (L : List Value) (w : World) (hL : L.length ≤ 1048576) (HC : AnAt x L) : Calls Tryd.prog 47 #[x] w (NiPost L w) := by
  have H := Lib.hid (HC w w.heap.size (.slice none 0 0) 0 [] (Nat.le_refl _) (by omega) (World.ownsRow_nil _ _ _ _))
  clear HC
  go_enter Tryd.func47, Tryd.ntmps47
  go_wp2_with fail
  refine H.out.mono ?_
  rintro e w1 ⟨v, rfl, ho, hg, _⟩
  have HP := Lib.hid (show w1.ownsRow w.heap.size 84 1 v L.length L from by simpa using ho)
  have HB := Lib.hid (show Below w.heap.size w w1 from (Below.refl _ _).grown hg (Nat.le_refl _) (by simp [Value.ownBlock]))
  clear ho hg
  go_wp2
  go_ret
  exact ⟨_, rfl, HP.out, HB.out⟩

def nnI (h : FH) (f : Fo) : Int := if vfB h f = true then (f.size : Int) + 1 else -1

end Go.Proofs.YtbppcpaodfjpkaaDoor
