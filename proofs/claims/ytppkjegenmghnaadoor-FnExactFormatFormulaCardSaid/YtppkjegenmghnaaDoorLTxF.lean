/- The walk of the law that says that FormatFormula answers as its model does. -/
import Derived.Test.YtppkjegenmghnaaDoorFtA
import Derived.Test.YtppkjegenmghnaaDoorFtC
import Derived.Deep.RegionHeld3
namespace Go.Proofs.YtppkjegenmghnaaDoor
open Go.RowKit

theorem keep20FormatFormula {W w' : World} {x y : Nat} {h : FH} {s s' : Value} (hx : C10 W x h s) (hy : C10 W y h s') (hB : Below W.heap.size W w') :
    Below W.heap.size W w' ∧ (w'.cell? ⟨x, 0, none⟩ = some (.int .i64 h.k) ∧ w'.cell? ⟨x, 1, none⟩ = some (.int .i64 h.ak) ∧ w'.cell? ⟨x, 2, none⟩ = some (.int .i64 h.am) ∧
    w'.cell? ⟨x, 3, none⟩ = some (.int .i64 h.a) ∧ w'.cell? ⟨x, 4, none⟩ = some (.int .i64 h.b) ∧ w'.cell? ⟨x, 5, none⟩ = some (.int .i64 h.c) ∧ w'.cell? ⟨x, 6, none⟩ = some (.int .i64 h.d) ∧ w'.cell? ⟨x, 7, none⟩ = some (.int .i64 h.n) ∧ w'.cell? ⟨x, 8, none⟩ = some (.int .i64 h.v) ∧ w'.cell? ⟨x, 9, none⟩ = some s) ∧
    (w'.cell? ⟨y, 0, none⟩ = some (.int .i64 h.k) ∧ w'.cell? ⟨y, 1, none⟩ = some (.int .i64 h.ak) ∧ w'.cell? ⟨y, 2, none⟩ = some (.int .i64 h.am) ∧
    w'.cell? ⟨y, 3, none⟩ = some (.int .i64 h.a) ∧ w'.cell? ⟨y, 4, none⟩ = some (.int .i64 h.b) ∧ w'.cell? ⟨y, 5, none⟩ = some (.int .i64 h.c) ∧ w'.cell? ⟨y, 6, none⟩ = some (.int .i64 h.d) ∧ w'.cell? ⟨y, 7, none⟩ = some (.int .i64 h.n) ∧ w'.cell? ⟨y, 8, none⟩ = some (.int .i64 h.v) ∧ w'.cell? ⟨y, 9, none⟩ = some s') :=
  ⟨hB, (c10_on hx hB).2, (c10_on hy hB).2⟩

set_option maxRecDepth 100000 in
set_option maxHeartbeats 2000000 in
theorem exactFormatFormula_walk (h : FH) (f : Fo) (w : World) (lo : Nat) (s : Value) (hs : FS w lo f s) (hw0 : Words w) (hT0 : Tab w) :
    Calls Tryd.prog 5 #[.agg #[.int .i64 h.k, .int .i64 h.ak, .int .i64 h.am, .int .i64 h.a, .int .i64 h.b, .int .i64 h.c, .int .i64 h.d, .int .i64 h.n, .int .i64 h.v, s]] w fun e w' => e = .returned (.bool true) ∧ Below w.heap.size w w' := by
  have HS := Lib.hid hs
  have HWD := Lib.hid hw0
  have HTB := Lib.hid hT0
  have hlist := bs_list
  have HSP := Lib.hid fun W lo s hs => specFormatFormula_any h f W lo s hs
  have HIM := Lib.hid fun W lo s hs h1 h2 => FormatFormula_any h f W lo s hs h1 h2
  obtain ⟨T, hT⟩ : ∃ T, fmT h f = T := ⟨_, rfl⟩
  rw [hT] at HSP HIM
  have hTT : (T == T) = true := beq_self_eq_true _
  clear hw0 hT0 hT
  obtain ⟨sa, sn, sc, rfl⟩ := hs.slice
  clear hs
  by_cases hsz : f.size ≤ 1048576
  · have HZ : Hid (szI f.size 1048576 = ((1048576 - f.size : Nat) : Int)) := szI_pos hsz
    obtain ⟨l, hl⟩ : ∃ l : Nat, 1048576 - f.size = l := ⟨_, rfl⟩
    rw [hl] at HZ
    have hl0 : ¬ (l : Int) < 0 := by omega
    clear hl
    go_enter Tryd.func5, Tryd.ntmps5
    go_wp2_with fail
    generalize hW : World.alloc _ _ = W
    have hx : C10 W w.heap.size h (.slice sa sn sc) := by subst hW; exact (by refine ⟨?_, ?_, ?_, ?_, ?_, ?_, ?_, ?_, ?_, ?_, ?_⟩ <;> first | (simp [go_sem]; done) | (simp; omega))
    have hw : Below w.heap.size w W := by subst hW; go_grown
    clear hW
    have HSW := Lib.hid (FS.below hw (Nat.le_refl _) HS.out)
    refine (szF_any h f W lo _ 1048576 (Nat.le_refl _) HSW.out).mono ?_
    rintro e w1 ⟨rfl, hb1⟩
    rw [HZ.out]
    have hw1 := below_on hw hb1
    have hx1 := c10_on hx hb1
    obtain ⟨x0, c0, c1, c2, c3, c4, c5, c6, c7, c8, c9⟩ := id hx1
    have HS1 := Lib.hid (FS.below hw1 (Nat.le_refl _) HS.out)
    clear hx hw hb1
    go_wp2_with fail
    refine (tF_any h f w1 lo _ hsz HS1.out).mono ?_
    rintro e w2 ⟨s2, rfl, hs2, hb2⟩
    have HS2 := Lib.hid hs2
    have hw2 := below_on hw1 hb2
    have hx2 := c10_on hx1 hb2
    clear hs2 c0 c1 c2 c3 c4 c5 c6 c7 c8 c9 x0
    obtain ⟨x0, c0, c1, c2, c3, c4, c5, c6, c7, c8, c9⟩ := id hx2
    clear hx1 hw1 hb2
    go_wp2_with fail
    refine (HSP.out _ _ _ HS2.out).mono ?_
    rintro e w3 ⟨rfl, hb3⟩
    have hw3 := below_on hw2 hb3
    have hx3 := c10_on hx2 hb3
    have HS3 := Lib.hid (FS.below hw3 (Nat.le_refl _) HS.out)
    clear hx2 hw2 hb3 c0 c1 c2 c3 c4 c5 c6 c7 c8 c9 x0
    obtain ⟨x0, c0, c1, c2, c3, c4, c5, c6, c7, c8, c9⟩ := id hx3
    go_wp2_with fail
    refine (tF_any h f w3 lo _ hsz HS3.out).mono ?_
    rintro e w4 ⟨s4, rfl, hs4, hb4⟩
    obtain ⟨ta, tn, tc, rfl⟩ := hs4.slice
    have hw4 := below_on hw3 hb4
    have hx4 := c10_on hx3 hb4
    have HS4 := Lib.hid hs4
    clear hs4 hx3 hw3 hb4 c0 c1 c2 c3 c4 c5 c6 c7 c8 c9 x0
    go_wp2_with fail
    generalize hW5 : World.alloc _ _ = W5
    have hb5 : Below w4.heap.size w4 W5 := by subst hW5; go_grown
    have hy5 : C10 W5 w4.heap.size h (.slice ta tn tc) := by subst hW5; exact (by refine ⟨?_, ?_, ?_, ?_, ?_, ?_, ?_, ?_, ?_, ?_, ?_⟩ <;> first | (simp [go_sem]; done) | (simp; omega))
    have hw5 := below_on hw4 hb5
    have hx5 := c10_on hx4 hb5
    have HS5 := Lib.hid (FS.below hb5 (Nat.le_refl _) HS4.out)
    have hne : w.heap.size < w4.heap.size := hx4.1
    clear hW5 hb5 hx4 hw4
    refine (HIM.out _ _ _ HS5.out (words_on HWD.out hw5) (tab_on HTB.out hw5)).mono ?_
    rintro e w6 ⟨rfl, hb6⟩
    have hw6 := below_on hw5 hb6
    have hx6 := c10_on hx5 hb6
    have hy6 := c10_on hy5 hb6
    have HA6 := Lib.hid (FS.below hb6 (Nat.le_refl _) HS5.out)
    have HS6 := Lib.hid (FS.below hw6 (Nat.le_refl _) HS.out)
    clear hx5 hy5 hw5 hb6
    go_wp2_with fail
    have HTF := Lib.hid (fun W hW => tF_any h f W lo _ hsz (FS.below (w := w6) hW (Nat.le_refl _) HS6.out))
    have HEQ := Lib.hid (fun W lo' s' hW hs' => eqF_any h f W _ lo' _ s' (FS.below (w := w6) hW (Nat.le_refl _) HA6.out) hs')
    refine wp_region_held_drew (S := (fun w' => Below w6.heap.size w6 w' ∧ (w'.cell? ⟨w.heap.size, 0, none⟩ = some (.int .i64 h.k) ∧ w'.cell? ⟨w.heap.size, 1, none⟩ = some (.int .i64 h.ak) ∧ w'.cell? ⟨w.heap.size, 2, none⟩ = some (.int .i64 h.am) ∧ w'.cell? ⟨w.heap.size, 3, none⟩ = some (.int .i64 h.a) ∧ w'.cell? ⟨w.heap.size, 4, none⟩ = some (.int .i64 h.b) ∧ w'.cell? ⟨w.heap.size, 5, none⟩ = some (.int .i64 h.c) ∧ w'.cell? ⟨w.heap.size, 6, none⟩ = some (.int .i64 h.d) ∧ w'.cell? ⟨w.heap.size, 7, none⟩ = some (.int .i64 h.n) ∧ w'.cell? ⟨w.heap.size, 8, none⟩ = some (.int .i64 h.v) ∧ w'.cell? ⟨w.heap.size, 9, none⟩ = some (.slice sa sn sc)) ∧ (w'.cell? ⟨w4.heap.size, 0, none⟩ = some (.int .i64 h.k) ∧ w'.cell? ⟨w4.heap.size, 1, none⟩ = some (.int .i64 h.ak) ∧ w'.cell? ⟨w4.heap.size, 2, none⟩ = some (.int .i64 h.am) ∧ w'.cell? ⟨w4.heap.size, 3, none⟩ = some (.int .i64 h.a) ∧ w'.cell? ⟨w4.heap.size, 4, none⟩ = some (.int .i64 h.b) ∧ w'.cell? ⟨w4.heap.size, 5, none⟩ = some (.int .i64 h.c) ∧ w'.cell? ⟨w4.heap.size, 6, none⟩ = some (.int .i64 h.d) ∧ w'.cell? ⟨w4.heap.size, 7, none⟩ = some (.int .i64 h.n) ∧ w'.cell? ⟨w4.heap.size, 8, none⟩ = some (.int .i64 h.v) ∧ w'.cell? ⟨w4.heap.size, 9, none⟩ = some (.slice ta tn tc)))) (by kernel_rfl) ?_ (fun hHeld => ?_)
    · try dsimp only
      exact keep20FormatFormula hx6 hy6 (by go_grown)
    refine wpAnyH_take (i := 0) (oi := { dst := some 22, op := Go.Op.load 50 (Go.Operand.tmp 5), type := 50, pos := "exact.go:3210", after := #[], guard := none }) (v := ?_) rfl (by kernel_rfl) (by kernel_rfl) (by kernel_rfl) (fun _ _ _ h => h) (Or.inl ⟨by rfl, ?_⟩) (by assumption) ?_
    rotate_left
    · (intro w hSw; (try dsimp only at hSw); first | (go_simp; done) | (go_simp; with_reducible rfl))
    try simp only [Act.put, List.setIfInBounds_toArray, List.set_cons_zero, List.set_cons_succ]
    refine wpAnyH_take (i := 1) (oi := { dst := some 23, op := Go.Op.load 42 (Go.Operand.tmp 1), type := 42, pos := "exact.go:3210", after := #[], guard := none }) (v := ?_) rfl (by kernel_rfl) (by kernel_rfl) (by kernel_rfl) (fun _ _ _ h => h) (Or.inl ⟨by rfl, ?_⟩) (by assumption) ?_
    rotate_left
    · (intro w hSw; (try dsimp only at hSw); first | (go_simp; done) | (go_simp; with_reducible rfl))
    try simp only [Act.put, List.setIfInBounds_toArray, List.set_cons_zero, List.set_cons_succ]
    refine wpAnyH_ready (rs := [2]) (by kernel_rfl) (by simp) ?_
    refine AllReadyH.cons (o := { dst := some 24, op := Go.Op.call { callee := Go.Callee.value (Go.Operand.func 19), args := #[Go.Operand.tmp 23], argTypes := #[42] }, type := 50, pos := "exact.go:3210", after := #[{ on := 1, ground := Go.Ground.data }], guard := none }) rfl (fun K hK => ?_) AllReadyH.nil
    go_simp
    (go_at_call 19; refine (HTF.out _ (by go_grown)).mono ?_; rintro e w7 ⟨s7, rfl, hs7, hb7⟩; have hbb7 := below_on (w := w6) (by go_grown) hb7; have hsb7 : w6.heap.size ≤ w7.heap.size := hbb7.size)
    (try go_wp2_with fail)
    refine hK.out _ _ ?_ (fun hHeld => ?_)
    · try dsimp only
      exact keep20FormatFormula hx6 hy6 (by go_grown)
    clear hK K
    try simp only [Act.put, List.setIfInBounds_toArray, List.set_cons_zero, List.set_cons_succ]
    refine wpAnyH_ready (rs := [3]) (by kernel_rfl) (by simp) ?_
    refine AllReadyH.cons (o := { dst := some 25, op := Go.Op.call { callee := Go.Callee.value (Go.Operand.func 21), args := #[Go.Operand.tmp 22, Go.Operand.tmp 24], argTypes := #[50, 50] }, type := 4, pos := "exact.go:3210", after := #[{ on := 0, ground := Go.Ground.data }, { on := 2, ground := Go.Ground.data }, { on := 2, ground := Go.Ground.chain }], guard := none }) rfl (fun K hK => ?_) AllReadyH.nil
    go_simp
    (go_at_call 21; refine (HEQ.out _ _ _ (by go_grown) hs7).mono ?_; rintro e w8 ⟨rfl, hb8⟩; have hbb8 := below_on hbb7 hb8; have hsb8 : w6.heap.size ≤ w8.heap.size := hbb8.size)
    (try go_wp2_with fail)
    refine hK.out _ _ ?_ (fun hHeld => ?_)
    · try dsimp only
      exact keep20FormatFormula hx6 hy6 (by go_grown)
    clear hK K
    try simp only [Act.put, List.setIfInBounds_toArray, List.set_cons_zero, List.set_cons_succ]
    refine wpAnyH_take (i := 4) (oi := { dst := some 26, op := Go.Op.unOp Go.UnOp.not 4 (Go.Operand.tmp 25), type := 4, pos := "exact.go:3210", after := #[{ on := 3, ground := Go.Ground.data }], guard := none }) (v := ?_) rfl (by kernel_rfl) (by kernel_rfl) (by kernel_rfl) (fun _ _ _ h => h) (Or.inl ⟨by rfl, ?_⟩) (by assumption) ?_
    rotate_left
    · (intro w hSw; (try dsimp only at hSw); first | (go_simp; done) | (go_simp; with_reducible rfl))
    try simp only [Act.put, List.setIfInBounds_toArray, List.set_cons_zero, List.set_cons_succ]
    refine wpAnyH_done (by kernel_rfl) ?_ _
    go_wp2
    go_ret
    exact ⟨rfl, below_on hw6 hbb8⟩
  · have hz : szI f.size 1048576 = -1 := szI_neg (by omega)
    have HZ := Lib.hid hz
    clear hz
    go_enter Tryd.func5, Tryd.ntmps5
    go_wp2_with fail
    generalize hW : World.alloc _ _ = W
    have hw : Below w.heap.size w W := by subst hW; go_grown
    clear hW
    have HSW := Lib.hid (FS.below hw (Nat.le_refl _) HS.out)
    refine (szF_any h f W lo _ 1048576 (Nat.le_refl _) HSW.out).mono ?_
    rintro e w1 ⟨rfl, hb1⟩
    rw [HZ.out]
    go_wp2
    go_ret
    exact ⟨rfl, below_on hw hb1⟩

end Go.Proofs.YtppkjegenmghnaaDoor
