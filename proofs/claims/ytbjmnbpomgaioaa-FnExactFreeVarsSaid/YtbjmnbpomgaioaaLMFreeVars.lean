/- The walk of the law that says that FreeVars answers as its model does. -/
import Derived.Test.YtbjmnbpomgaioaaFormY
import Derived.Test.YtbjmnbpomgaioaaFormQ
import Derived.Test.YtbjmnbpomgaioaaLFFormulaValid
import Derived.Deep.RegionHeld3
namespace Go.Proofs.Ytbjmnbpomgaioaa
open Go.RowKit

theorem own_keepsFreeVars {w w' : World} {B e sz n lo hi : Nat} {v : Value} {xs : List Value} (h : w.ownsRow B e sz v n xs) (hk : Keeps lo hi w w') (hB : hi ≤ B) : w'.ownsRow B e sz v n xs := by
  obtain ⟨h1, h2⟩ := h
  refine ⟨h1, ?_⟩
  rcases h2 with h0 | ⟨g, cap, cur, e0, hb, hg, h3⟩
  · exact .inl h0
  · exact .inr ⟨g, cap, cur, e0, hb, (hk.block g (Array.getElem?_eq_some_iff.1 hg).1 (.inr (by omega))).trans hg, h3⟩

set_option maxRecDepth 100000 in
set_option maxHeartbeats 4000000 in
theorem exactFreeVars_walk (h : FH) (f : Fo) (w : World) (lo : Nat) (s : Value) (hs : FS w lo f s) :
    Calls Try.prog 9 #[.agg #[.int .i64 h.k, .int .i64 h.ak, .int .i64 h.am, .int .i64 h.a, .int .i64 h.b, .int .i64 h.c, .int .i64 h.d, .int .i64 h.n, .int .i64 h.v, s]] w fun e w' => e = .returned (.bool true) ∧ Below w.heap.size w w' := by
  have HS := Lib.hid hs
  obtain ⟨sa, sn, sc, rfl⟩ := hs.slice
  clear hs
  by_cases hsz : f.size ≤ 1048576
  · have HZ : Hid (szI f.size 1048576 = ((1048576 - f.size : Nat) : Int)) := szI_pos hsz
    obtain ⟨l, hl⟩ : ∃ l : Nat, 1048576 - f.size = l := ⟨_, rfl⟩
    rw [hl] at HZ
    have hl0 : ¬ (l : Int) < 0 := by omega
    have hlen := fvL_len h f
    have HSP := Lib.hid fun W lo s hs => specFreeVars_any h f W lo s hs
    have HIM := Lib.hid fun W lo s hs => FreeVars_any h f W lo s hs
    obtain ⟨L, hL⟩ : ∃ L, fvL h f = L := ⟨_, rfl⟩
    rw [hL] at HSP HIM hlen
    obtain ⟨N, hN⟩ : ∃ N : Int, 1 + (L.length : Int) = N := ⟨_, rfl⟩
    have hN0 : 0 ≤ N := by omega
    have hN1 : N ≤ 10000 := by omega
    have HN := Lib.hid hN
    clear hl hL hN
    go_enter Try.func9, Try.ntmps9
    go_wp2_with fail
    generalize hW : World.alloc _ _ = W
    have hx : C10 W w.heap.size h (.slice sa sn sc) := by subst hW; exact (by refine ⟨?_, ?_, ?_, ?_, ?_, ?_, ?_, ?_, ?_, ?_, ?_⟩ <;> first | (simp [go_sem]; done) | (simp; omega))
    have hw : Below w.heap.size w W := by subst hW; go_grown
    clear hW
    have HSW := Lib.hid (FS.below hw (Nat.le_refl _) HS.out)
    refine (szF_any h f W lo _ 1048576 (Nat.le_refl _) HSW.out).mono ?_
    rintro e w1 ⟨rfl, hb1⟩
    rw [HZ.out]
    have hw1 := below_on hw hb1
    have hx1 := c10_on hx hb1
    obtain ⟨x0, c0, c1, c2, c3, c4, c5, c6, c7, c8, c9⟩ := id hx1
    have HS1 := Lib.hid (FS.below hw1 (Nat.le_refl _) HS.out)
    clear hx hw hb1
    go_wp2_with fail
    refine (tF_any h f w1 lo _ hsz HS1.out).mono ?_
    rintro e w2 ⟨s2, rfl, hs2, hb2⟩
    have HS2 := Lib.hid hs2
    have hw2 := below_on hw1 hb2
    have hx2 := c10_on hx1 hb2
    clear hs2 c0 c1 c2 c3 c4 c5 c6 c7 c8 c9 x0
    obtain ⟨x0, c0, c1, c2, c3, c4, c5, c6, c7, c8, c9⟩ := id hx2
    clear hx1 hw1 hb2
    go_wp2_with fail
    refine (HSP.out w2 _ _ HS2.out).mono ?_
    rintro e w3 ⟨v0, rfl, ho3, hb3⟩
    have HR0 := Lib.hid (own_reads ho3)
    have hw3 := below_on hw2 hb3
    have hx3 := c10_on hx2 hb3
    have HS3 := Lib.hid (FS.below hw3 (Nat.le_refl _) HS.out)
    clear hx2 hw2 hb3 ho3 c0 c1 c2 c3 c4 c5 c6 c7 c8 c9 x0
    obtain ⟨x0, c0, c1, c2, c3, c4, c5, c6, c7, c8, c9⟩ := id hx3
    go_wp2_with fail
    refine (tF_any2 h f w3 lo _ hsz HS3.out).mono ?_
    rintro e w4 ⟨s4, rfl, hs4, hn4, hb4⟩
    obtain ⟨ta, tn, tc, rfl⟩ := hs4.slice
    have HS4 := Lib.hid hs4
    have HN4 := Lib.hid hn4
    have hx4 := c10_on hx3 hb4
    have hs34 := hb4.size
    have HB34 := Lib.hid hb4
    clear hs4 hn4 hb4 c0 c1 c2 c3 c4 c5 c6 c7 c8 c9 x0
    go_wp2_with fail
    generalize hW5 : World.alloc _ _ = W5
    have hb5 : Below w4.heap.size w4 W5 := by subst hW5; go_grown
    have hy5 : C10 W5 w4.heap.size h (.slice ta tn tc) := by subst hW5; exact (by refine ⟨?_, ?_, ?_, ?_, ?_, ?_, ?_, ?_, ?_, ?_, ?_⟩ <;> first | (simp [go_sem]; done) | (simp; omega))
    have hx5 := c10_on hx4 hb5
    have HS5 := Lib.hid (FS.below hb5 (Nat.le_refl _) HS4.out)
    have hs45 := hb5.size
    have hne : w.heap.size < w3.heap.size := hx3.1
    clear hW5 hx4
    refine (HIM.out W5 _ _ HS5.out).mono ?_
    rintro e w6 ⟨v1, rfl, ho6, hb6⟩
    have hb46 := below_on hb5 hb6
    have hs56 := hb6.size
    have HO6 := Lib.hid ho6
    have HB36 := Lib.hid (HB34.out.trans (hb46.mono hs34))
    have hy6 := c10_on hy5 hb6
    clear ho6 hb5 hb6 hx5 hy5
    go_wp2_with fail
    refine (eqIntS_same _ _ L _ (own_reads HO6.out) (reads_on HR0.out HB36.out) (by omega)).mono ?_
    rintro e w7 ⟨rfl, hb7⟩
    have hb47 := below_on hb46 hb7
    have HB37 := Lib.hid (HB34.out.trans (hb47.mono hs34))
    have hw7 := below_on hw3 HB37.out
    have hx7 := c10_on hx3 HB37.out
    have hy7 := c10_on hy6 hb7
    have HO7 := Lib.hid (show OwnI w7 W5.heap.size v1 L from own_below HO6.out hb7)
    have HA7 := Lib.hid (FS.below hb47 (Nat.le_refl _) HS4.out)
    have HS7 := Lib.hid (FS.below hw7 (Nat.le_refl _) HS.out)
    have hs67 := hb7.size
    have HTF := Lib.hid (fun W hW => tF_any h f W lo _ hsz (FS.below (w := w7) hW (Nat.le_refl _) HS7.out))
    have HEQ := Lib.hid (fun W lo' s' hW hs' => eqF_any h f W _ lo' _ s' (FS.below (w := w7) hW (Nat.le_refl _) HA7.out) hs')
    clear hb46 hb7 hy6
    go_wp2_with fail
    refine wp_region_held_drew (S := (fun w' => Below w7.heap.size w7 w' ∧ (w'.cell? ⟨w.heap.size, 0, none⟩ = some (.int .i64 h.k) ∧ w'.cell? ⟨w.heap.size, 1, none⟩ = some (.int .i64 h.ak) ∧ w'.cell? ⟨w.heap.size, 2, none⟩ = some (.int .i64 h.am) ∧ w'.cell? ⟨w.heap.size, 3, none⟩ = some (.int .i64 h.a) ∧ w'.cell? ⟨w.heap.size, 4, none⟩ = some (.int .i64 h.b) ∧ w'.cell? ⟨w.heap.size, 5, none⟩ = some (.int .i64 h.c) ∧ w'.cell? ⟨w.heap.size, 6, none⟩ = some (.int .i64 h.d) ∧ w'.cell? ⟨w.heap.size, 7, none⟩ = some (.int .i64 h.n) ∧ w'.cell? ⟨w.heap.size, 8, none⟩ = some (.int .i64 h.v) ∧ w'.cell? ⟨w.heap.size, 9, none⟩ = some (.slice sa sn sc)) ∧ (w'.cell? ⟨w4.heap.size, 0, none⟩ = some (.int .i64 h.k) ∧ w'.cell? ⟨w4.heap.size, 1, none⟩ = some (.int .i64 h.ak) ∧ w'.cell? ⟨w4.heap.size, 2, none⟩ = some (.int .i64 h.am) ∧ w'.cell? ⟨w4.heap.size, 3, none⟩ = some (.int .i64 h.a) ∧ w'.cell? ⟨w4.heap.size, 4, none⟩ = some (.int .i64 h.b) ∧ w'.cell? ⟨w4.heap.size, 5, none⟩ = some (.int .i64 h.c) ∧ w'.cell? ⟨w4.heap.size, 6, none⟩ = some (.int .i64 h.d) ∧ w'.cell? ⟨w4.heap.size, 7, none⟩ = some (.int .i64 h.n) ∧ w'.cell? ⟨w4.heap.size, 8, none⟩ = some (.int .i64 h.v) ∧ w'.cell? ⟨w4.heap.size, 9, none⟩ = some (.slice ta tn tc)))) (by kernel_rfl) ?_ (fun hHeld => ?_)
    · try dsimp only
      exact keep20FormulaValid hx7 hy7 (by go_grown)
    refine wpAnyH_take (i := 0) (oi := { dst := some 27, op := Go.Op.load 53 (Go.Operand.tmp 5), type := 53, pos := "exact.go:3302", after := #[], guard := none }) (v := ?_) rfl (by kernel_rfl) (by kernel_rfl) (by kernel_rfl) (fun _ _ _ h => h) (Or.inl ⟨by rfl, ?_⟩) (by assumption) ?_
    rotate_left
    · (intro w hSw; (try dsimp only at hSw); first | (go_simp; done) | (go_simp; with_reducible rfl))
    try simp only [Act.put, List.setIfInBounds_toArray, List.set_cons_zero, List.set_cons_succ]
    refine wpAnyH_take (i := 1) (oi := { dst := some 28, op := Go.Op.load 48 (Go.Operand.tmp 1), type := 48, pos := "exact.go:3302", after := #[], guard := none }) (v := ?_) rfl (by kernel_rfl) (by kernel_rfl) (by kernel_rfl) (fun _ _ _ h => h) (Or.inl ⟨by rfl, ?_⟩) (by assumption) ?_
    rotate_left
    · (intro w hSw; (try dsimp only at hSw); first | (go_simp; done) | (go_simp; with_reducible rfl))
    try simp only [Act.put, List.setIfInBounds_toArray, List.set_cons_zero, List.set_cons_succ]
    refine wpAnyH_ready (rs := [2]) (by kernel_rfl) (by simp) ?_
    refine AllReadyH.cons (o := { dst := some 29, op := Go.Op.call { callee := Go.Callee.value (Go.Operand.func 29), args := #[Go.Operand.tmp 28], argTypes := #[48] }, type := 53, pos := "exact.go:3302", after := #[{ on := 1, ground := Go.Ground.data }], guard := none }) rfl (fun K hK => ?_) AllReadyH.nil
    go_simp
    (go_at_call 29; refine (HTF.out _ (by go_grown)).mono ?_; rintro e w8 ⟨s8, rfl, hs8, hb8⟩; have hbb8 := below_on (w := w7) (by go_grown) hb8; have hsb8 : w7.heap.size ≤ w8.heap.size := hbb8.size)
    (try go_wp2_with fail)
    refine hK.out _ _ ?_ (fun hHeld => ?_)
    · try dsimp only
      exact keep20FormulaValid hx7 hy7 (by go_grown)
    clear hK K
    try simp only [Act.put, List.setIfInBounds_toArray, List.set_cons_zero, List.set_cons_succ]
    refine wpAnyH_ready (rs := [3]) (by kernel_rfl) (by simp) ?_
    refine AllReadyH.cons (o := { dst := some 30, op := Go.Op.call { callee := Go.Callee.value (Go.Operand.func 31), args := #[Go.Operand.tmp 27, Go.Operand.tmp 29], argTypes := #[53, 53] }, type := 4, pos := "exact.go:3302", after := #[{ on := 0, ground := Go.Ground.data }, { on := 2, ground := Go.Ground.data }, { on := 2, ground := Go.Ground.chain }], guard := none }) rfl (fun K hK => ?_) AllReadyH.nil
    go_simp
    (go_at_call 31; refine (HEQ.out _ _ _ (by go_grown) hs8).mono ?_; rintro e w9 ⟨rfl, hb9⟩; have hbb9 := below_on hbb8 hb9; have hsb9 : w7.heap.size ≤ w9.heap.size := hbb9.size)
    (try go_wp2_with fail)
    refine hK.out _ _ ?_ (fun hHeld => ?_)
    · try dsimp only
      exact keep20FormulaValid hx7 hy7 (by go_grown)
    clear hK K
    try simp only [Act.put, List.setIfInBounds_toArray, List.set_cons_zero, List.set_cons_succ]
    refine wpAnyH_take (i := 4) (oi := { dst := some 31, op := Go.Op.unOp Go.UnOp.not 4 (Go.Operand.tmp 30), type := 4, pos := "exact.go:3302", after := #[{ on := 3, ground := Go.Ground.data }], guard := none }) (v := ?_) rfl (by kernel_rfl) (by kernel_rfl) (by kernel_rfl) (fun _ _ _ h => h) (Or.inl ⟨by rfl, ?_⟩) (by assumption) ?_
    rotate_left
    · (intro w hSw; (try dsimp only at hSw); first | (go_simp; done) | (go_simp; with_reducible rfl))
    try simp only [Act.put, List.setIfInBounds_toArray, List.set_cons_zero, List.set_cons_succ]
    refine wpAnyH_done (by kernel_rfl) ?_ _
    have hb49 := below_on hb47 hbb9
    have HN9 := Lib.hid (NS.same (fun x _ hx => hb49.block x hx) HN4.out)
    have HO9 := Lib.hid (show OwnI w9 W5.heap.size v1 L from own_below HO7.out hbb9)
    have HB39 := Lib.hid (HB34.out.trans (hb49.mono hs34))
    have hy9 := c10_on hy7 hbb9
    obtain ⟨y0, d0, d1, d2, d3, d4, d5, d6, d7, d8, d9⟩ := id hy9
    have hs49 := hb49.size
    clear hHeld hb8 hb9 hbb8 hbb9 hs8 hb47 hx7 hy7 hw7
    go_wp2_with fail
    refine (mkF_any h f w9 w3.heap.size w4.heap.size _ 1 HN9.out hs49 (by omega) (by omega)).mono ?_
    rintro e w10 ⟨rfl, hk10⟩
    obtain ⟨q, hq⟩ : ∃ q : Int, 1 + ((f.size * 9 : Nat) : Int) = q := ⟨_, rfl⟩
    have hq0 : ¬ q < 0 := by omega
    rw [hq]
    have HB310 := Lib.hid (HB39.out.trans (hk10.below (by have := HB39.out.size; omega)))
    have HO10 := Lib.hid (show OwnI w10 W5.heap.size v1 L from own_keepsFreeVars HO9.out hk10 hs45)
    have hs510 : W5.heap.size ≤ w10.heap.size := by have := hk10.size; have := hb49.size; omega
    clear hq hk10 y0 d0 d1 d2 d3 d4 d5 d6 d7 d8 d9 hy9 hb49
    go_wp2_with fail
    refine (eqIntS_same _ _ L _ (own_reads HO10.out) (reads_on HR0.out HB310.out) (by omega)).mono ?_
    rintro e w11 ⟨rfl, hb11⟩
    have HO11 := Lib.hid (show OwnI w11 W5.heap.size v1 L from own_below HO10.out hb11)
    have HB311 := Lib.hid (below_on HB310.out hb11)
    have hs511 : W5.heap.size ≤ w11.heap.size := Nat.le_trans hs510 hb11.size
    clear hb11
    go_wp2_with fail
    refine (markIntS_t W5.heap.size _ 1 N L _ HO11.out hs511 (by omega) (by omega) (by omega) HN.out).mono ?_
    rintro e w12 ⟨rfl, ho12, hb12⟩
    have HO12 := Lib.hid ho12
    have HB312 := Lib.hid (HB311.out.trans (hb12.mono (by omega)))
    have hx12 := c10_on hx3 HB312.out
    clear ho12 hb12
    go_wp2_with fail
    refine (heldIntS_t _ 1 N L.length _ (own_reads HO12.out) (by omega) (by omega) (by omega) HN.out).mono ?_
    rintro e w' ⟨rfl, rfl⟩
    obtain ⟨x0, c0, c1, c2, c3, c4, c5, c6, c7, c8, c9⟩ := id hx12
    have HS12 := Lib.hid (FS.below (below_on hw3 HB312.out) (Nat.le_refl _) HS.out)
    go_wp2_with fail
    refine (tF_any h f w12 lo _ hsz HS12.out).mono ?_
    rintro e w13 ⟨s13, rfl, hs13, hb13⟩
    have HS13 := Lib.hid hs13
    clear hs13 c0 c1 c2 c3 c4 c5 c6 c7 c8 c9 x0
    go_wp2_with fail
    refine (HIM.out w13 _ _ HS13.out).mono ?_
    rintro e w14 ⟨v2, rfl, ho14, hb14⟩
    have hb1214 := below_on hb13 hb14
    have HR14 := Lib.hid (own_reads ho14)
    have HB314 := Lib.hid (below_on HB312.out hb1214)
    have HO14 := Lib.hid (show OwnI w14 W5.heap.size v1 (marks 1 L.length) from own_below HO12.out hb1214)
    clear ho14 hb14 hb13 hb1214
    go_wp2_with fail
    refine (eqIntS_same _ _ L _ HR14.out (reads_on HR0.out HB314.out) (by omega)).mono ?_
    rintro e w15 ⟨rfl, hb15⟩
    have HB315 := Lib.hid (below_on HB314.out hb15)
    have HO15 := Lib.hid (show OwnI w15 W5.heap.size v1 (marks 1 L.length) from own_below HO14.out hb15)
    clear hb15
    go_wp2_with fail
    refine (heldIntS_t _ 1 N L.length _ (own_reads HO15.out) (by omega) (by omega) (by omega) HN.out).mono ?_
    rintro e w' ⟨rfl, rfl⟩
    go_wp2
    go_ret
    exact ⟨rfl, below_on hw3 HB315.out⟩
  · have hz : szI f.size 1048576 = -1 := szI_neg (by omega)
    have HZ := Lib.hid hz
    clear hz
    go_enter Try.func9, Try.ntmps9
    go_wp2_with fail
    generalize hW : World.alloc _ _ = W
    have hw : Below w.heap.size w W := by subst hW; go_grown
    clear hW
    have HSW := Lib.hid (FS.below hw (Nat.le_refl _) HS.out)
    refine (szF_any h f W lo _ 1048576 (Nat.le_refl _) HSW.out).mono ?_
    rintro e w1 ⟨rfl, hb1⟩
    rw [HZ.out]
    go_wp2
    go_ret
    exact ⟨rfl, below_on hw hb1⟩

end Go.Proofs.Ytbjmnbpomgaioaa
