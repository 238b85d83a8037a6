/- The contract of the model's l4Subst: the loop over the parts. -/
import Derived.Test.YtcgolbkpfncgpaaSu
namespace Go.Proofs.Ytcgolbkpfncgpaa
open Go.RowKit

set_option maxRecDepth 10000 in
set_option maxHeartbeats 2000000 in
/-- A quantifier that catches the term. -/
theorem lb_caught (σ : SbD) (h : FH) (f : Fo) (h2 : h.k ≠ 2) (hf : fr1 h σ.v (f.fr σ.v) = true) (hq : qB h.k = true) (hc : sel σ.a σ.b σ.c σ.d h.v 0 ≠ 0) : LbF σ h f := by
  intro ho hok w P s hs
  have HF := Lib.hid (fun W hW => l3f_any h f W 0 s σ.v (FS.below (w := w) hW (Nat.le_refl _) (fsp_fs hs)))
  rw [hf] at HF
  have HQ := Lib.hid (fun W => l3Quant_is h.k true W hq)
  have HC := Lib.hid (fun W => specCoefOf_any σ.a σ.b σ.c σ.d σ.n h.v W)
  obtain ⟨z, hz⟩ : ∃ z, sel σ.a σ.b σ.c σ.d h.v 0 = z := ⟨_, rfl⟩
  rw [hz] at HC
  have hsbK : sbK σ h f = false := by
    unfold sbK sbF sbE
    rw [hf, if_neg (by simp), if_neg h2, if_pos ⟨hq, hc⟩]
    show (ownB badH Fo.nil.len && Fo.nil.okB) = false
    rw [badH_own, Bool.false_and]
  rw [hz] at hc
  have hz0 : ((z : Int) != 0) = true := by simpa using hc
  have hk2 : ((h.k : Int) == 2) = false := by simpa using h2
  obtain ⟨sa0, sn0, sc0, rfl⟩ := hs.slice
  have HSK := Lib.hid hsbK
  clear hs ho hok hf hz hsbK hc h2 hq
  go_enter Try.func109, Try.ntmps109
  go_wp2_with fail
  generalize hW : World.alloc _ _ = W
  have hw : Below w.heap.size w W := by subst hW; go_grown
  have hy : C10 W w.heap.size h (.slice sa0 sn0 sc0) := by subst hW; exact (by refine ⟨?_, ?_, ?_, ?_, ?_, ?_, ?_, ?_, ?_, ?_, ?_⟩ <;> first | (simp [go_sem]; done) | (simp; omega))
  have hv5 : C5 W (w.heap.size + 1) σ.a σ.b σ.c σ.d σ.n := by subst hW; exact (by refine ⟨?_, ?_, ?_, ?_, ?_, ?_⟩ <;> first | (simp [go_sem]; done) | (simp; omega))
  have hx : C10 W (w.heap.size + 1 + 1) ⟨0, 0, 0, 0, 0, 0, 0, 0, 0⟩ (.slice none 0 0) := by subst hW; exact (by refine ⟨?_, ?_, ?_, ?_, ?_, ?_, ?_, ?_, ?_, ?_, ?_⟩ <;> first | (simp [go_sem]; done) | (simp; omega))
  have hf : ∀ o, W.frozen? ⟨w.heap.size + 1 + 1, o, none⟩ = false := fun o => by subst hW; simp [go_sem]
  clear hW
  refine (HF.out W hw).mono ?_
  rintro e w1 ⟨rfl, hb1⟩
  have hy1 := c10_on hy hb1
  obtain ⟨y0, d0, d1, d2, d3, d4, d5, d6, d7, d8, d9⟩ := id hy1
  obtain ⟨j0, j1, j2, j3, j4, j5⟩ := c5_on hv5 hb1
  have hx1 := c10_on hx hb1
  have fx1 : ∀ o, w1.frozen? ⟨w.heap.size + 1 + 1, o, none⟩ = false := fun o => ((bcell hb1).2 _ o hx.1).trans (hf o)
  have hw1 := below_on hw hb1
  clear hy hx hf hb1 hw hv5
  go_wp2_with fail
  refine (HQ.out w1).mono ?_
  rintro e w' ⟨rfl, rfl⟩
  go_wp2_with fail
  refine (HC.out w1).mono ?_
  rintro e w4 ⟨rfl, hb4⟩
  have hz4 := c10_on hx1 hb4
  have fz4 : ∀ o, w4.frozen? ⟨w.heap.size + 1 + 1, o, none⟩ = false := fun o => ((bcell hb4).2 _ o hx1.1).trans (fx1 o)
  have hw4 := below_on hw1 hb4
  obtain ⟨x0, c0, c1, c2, c3, c4, c5, c6, c7, c8, c9⟩ := id hz4
  clear hb4 hx1 fx1 hw1 y0 d0 d1 d2 d3 d4 d5 d6 d7 d8 d9 j0 j1 j2 j3 j4 j5 hy1
  go_upto_region 30 with fail
  generalize hW7 : World.setCell _ _ _ = W7
  obtain ⟨hz7, hk7, hs7, _⟩ := ten_set (g := ⟨0, 0, 0, 0, 0, 0, 0, 0, 0⟩) hz4 hW7
  have hw7 : Below w.heap.size w W7 := hw4.trans ((put10b (g := ⟨0, 0, 0, 0, 0, 0, 0, 0, 0⟩) hz4 hW7).2 w.heap.size (by omega))
  obtain ⟨z0, k0, k1, k2, k3, k4, k5, k6, k7, k8, k9⟩ := hz7
  clear hW7 hk7 hs7 x0 c0 c1 c2 c3 c4 c5 c6 c7 c8 c9
  go_wp2
  refine bodyPost_ret (v := .tuple #[.agg #[.int .i64 0, .int .i64 0, .int .i64 0, .int .i64 0, .int .i64 0, .int .i64 0, .int .i64 0, .int .i64 0, .int .i64 0, .slice none 0 0], .bool false]) (by simp [results, Try.results109, go_sem, k0, k1, k2, k3, k4, k5, k6, k7, k8, k9]) rfl ?_
  unfold LbT
  rw [HSK.out]
  exact ⟨(h00, .nil), _, rfl, fun h9 => absurd h9 (by simp), .inl ⟨rfl, none, 0, rfl, Nat.le_refl _, Nat.zero_le _⟩, hw7⟩

set_option maxRecDepth 10000 in
set_option maxHeartbeats 4000000 in
/-- A formula with parts, no quantifier. -/
theorem lb_loop0 (σ : SbD) (h : FH) (f : Fo) (HF : ∀ h s, s.size < f.size → LbF σ h s) (h2 : h.k ≠ 2) (hf : fr1 h σ.v (f.fr σ.v) = true) (hq : qB h.k = false) : LbF σ h f := by
  intro ho hok w P s hs
  have H := Lib.hid HF
  have HFR := Lib.hid (fun W hW => l3f_any h f W 0 s σ.v (FS.below (w := w) hW (Nat.le_refl _) (fsp_fs hs)))
  rw [hf] at HFR
  have hn : ¬ (qB h.k = true ∧ h.v = σ.v) := fun e => by rw [fr1_bound e.1 e.2] at hf; simp at hf
  have hcc : ¬ (qB h.k = true ∧ sel σ.a σ.b σ.c σ.d h.v 0 ≠ 0) := fun e => by rw [hq] at e; simp at e
  have HQ := Lib.hid (fun W => l3Quant_is h.k false W hq)
  have HSK := Lib.hid (sbK_else ho h2 hn hcc)
  have HSF := Lib.hid (sbF_else (f := f) h2 hn hcc)
  obtain ⟨sa, sc, rfl⟩ := fsp_len hs
  obtain ⟨bb, o, hel, hsh⟩ := fsp_shape hs
  have HEL := Lib.hid hel
  have HSH := Lib.hid hsh
  have hlen := Fo.len_le f
  have hf6 : f.len ≤ 2 := by rcases own_kind ho with ⟨h, _⟩ | ⟨h, _⟩ | ⟨h, _⟩ <;> omega
  obtain ⟨z1, z2, z3, z4, z5, z6, z7⟩ := own_zero ho h2
  have b2 : ((h.k : Int) == 2) = false := by simpa using h2
  obtain ⟨kk, ak, am, a, bq, c, d, n, u⟩ := h
  dsimp only at z1 z2 z3 z4 z5 z6 z7 b2
  subst z1 z2 z3 z4 z5 z6 z7
  have HOK := Lib.hid hok
  clear HF hs hel hsh ho hok h2 hf hn hcc hq 
  go_enter Try.func109, Try.ntmps109
  go_wp2_with fail
  generalize hW : World.alloc _ _ = W
  have hw : Below w.heap.size w W := by subst hW; go_grown
  have hy : C10 W w.heap.size ⟨kk, 0, 0, 0, 0, 0, 0, 0, u⟩ (.slice sa f.len sc) := by subst hW; exact (by refine ⟨?_, ?_, ?_, ?_, ?_, ?_, ?_, ?_, ?_, ?_, ?_⟩ <;> first | (simp [go_sem]; done) | (simp; omega))
  have hv5 : C5 W (w.heap.size + 1) σ.a σ.b σ.c σ.d σ.n := by subst hW; exact (by refine ⟨?_, ?_, ?_, ?_, ?_, ?_⟩ <;> first | (simp [go_sem]; done) | (simp; omega))
  have hx : C10 W (w.heap.size + 1 + 1) ⟨0, 0, 0, 0, 0, 0, 0, 0, 0⟩ (.slice none 0 0) := by subst hW; exact (by refine ⟨?_, ?_, ?_, ?_, ?_, ?_, ?_, ?_, ?_, ?_, ?_⟩ <;> first | (simp [go_sem]; done) | (simp; omega))
  have hfz : ∀ o, W.frozen? ⟨w.heap.size + 1 + 1, o, none⟩ = false := fun o => by subst hW; simp [go_sem]
  clear hW
  refine (HFR.out W hw).mono ?_
  rintro e w1 ⟨rfl, hb1⟩
  have hy1 := c10_on hy hb1
  have hv1 := c5_on hv5 hb1
  have hx1 := c10_on hx hb1
  have fx1 : ∀ o, w1.frozen? ⟨w.heap.size + 1 + 1, o, none⟩ = false := fun o => ((bcell hb1).2 _ o hx.1).trans (hfz o)
  have hw1 := below_on hw hb1
  obtain ⟨y0, d0, d1, d2, d3, d4, d5, d6, d7, d8, d9⟩ := id hy1
  obtain ⟨j0, j1, j2, j3, j4, j5⟩ := id hv1
  clear hy hx hfz hb1 hw hv5
  go_wp2_with fail
  refine (HQ.out w1).mono ?_
  rintro e w' ⟨rfl, rfl⟩
  obtain ⟨w2, hw12⟩ : ∃ w2, w1 = w2 := ⟨_, rfl⟩
  subst hw12
  have hy2 := hy1
  have hv2 := hv1
  have hx2 := hx1
  have fx2 := fx1
  have hw2 := hw1
  go_upto_region 9 with fail
  generalize hW0 : World.alloc _ _ = W0
  have hb0 : Below w1.heap.size w1 W0 := by subst hW0; go_grown
  have hxo : C10 W0 w1.heap.size ⟨kk, 0, 0, 0, 0, 0, 0, 0, u⟩ (.slice none 0 0) := by subst hW0; exact (by refine ⟨?_, ?_, ?_, ?_, ?_, ?_, ?_, ?_, ?_, ?_, ?_⟩ <;> first | (simp [go_sem]; done) | (simp; omega))
  have fxo : ∀ o, W0.frozen? ⟨w1.heap.size, o, none⟩ = false := fun o => by subst hW0; simp [go_sem]
  obtain ⟨xo, hxoe⟩ : ∃ xo, w1.heap.size = xo := ⟨_, rfl⟩
  rw [hxoe] at hxo fxo ⊢
  have hx0 := hx2.1
  have hst : MlSt w W0 w.heap.size xo (w.heap.size + 1 + 1) ⟨kk, 0, 0, 0, 0, 0, 0, 0, u⟩ ⟨kk, 0, 0, 0, 0, 0, 0, 0, u⟩ (.slice sa f.len sc) (.slice none 0 0) W0 := by
    have h1 := hxo.1
    have h2 := hb0.size
    exact ⟨c10_on hy2 hb0, hxo, fxo, c10_on hx2 hb0, fun o => ((bcell hb0).2 _ o hx2.1).trans (fx2 o), below_on hw2 hb0, Nat.le_refl _, Nat.le_refl _, by omega, by omega, by omega, by omega, by omega, by omega, by omega, by omega⟩
  have hv0 := c5_on hv2 hb0
  have HST := Lib.hid (show LbR σ f (.slice sa f.len sc) bb o P w W0 xo ⟨kk, 0, 0, 0, 0, 0, 0, 0, u⟩ (.int .i64 0) W0 from ⟨0, .nil, f, _, rfl, rfl, rfl, HOK.out, rfl, HEL.out, hst, hv0, hv0.1, by omega, fownR_nil _ _ _⟩)
  clear hW0 hst b2 hb0 hxo fxo hy1 hv1 hx1 fx1 hw1 hy2 hv2 hx2 fx2 hw2 hv0 y0 d0 d1 d2 d3 d4 d5 d6 d7 d8 d9 j0 j1 j2 j3 j4 j5 hxoe hx0
  go_wp2_with fail
  go_loopw [11] (fun i wr => LbR σ f (.slice sa f.len sc) bb o P w W0 xo ⟨kk, 0, 0, 0, 0, 0, 0, 0, u⟩ i wr) (fun i _ => f.len - (intOf i).toNat)
  case atStart => exact HST.out
  case round =>
    obtain ⟨k, pre0, r, v, rfl, hpl, hap, hrok, hpok, hr, hst, hv5, hxt, hxot, how⟩ := hrel
    clear HST
    have HAP := Lib.hid hap
    have HPL := Lib.hid hpl
    have HPOK := Lib.hid hpok
    have HST := Lib.hid hst
    have HV5 := Lib.hid hv5
    have HOW := Lib.hid how
    have hkf : k + r.len = f.len := by rw [← hap, Fo.app_len, hpl]
    have hszr : r.size ≤ f.size := by rw [← hap, size_app]; omega
    obtain ⟨va, vc, hv⟩ := fownR_slice how
    subst hv
    have hlv : (pre0.sb σ).len = k := by rw [sb_len, hpl]
    obtain ⟨⟨x0, c0, c1, c2, c3, c4, c5, c6, c7, c8, c9⟩, ⟨y0, e0, e1, e2, e3, e4, e5, e6, e7, e8, e9⟩, yf, ⟨z0, d0, d1, d2, d3, d4, d5, d6, d7, d8, d9⟩, zf, hbw, hsW, hl1, hl2, hl3, hl4, hyy, hzz, hn1, hn2, hn3⟩ := id hst
    obtain ⟨j0, j1, j2, j3, j4, j5⟩ := id hv5
    rw [hlv] at e9
    have HLV := Lib.hid hlv
    clear hap hpl hst how hlv hv5 hpok
    cases r with
    | nil =>
      simp only [Fo.len] at hkf
      have hkl : ¬ (k : Int) < (f.len : Int) := by omega
      have e : pre0 = f := by have := HAP.out; rwa [Fo.app_nil] at this
      subst e
      obtain rfl : k = pre0.len := by omega
      go_wp2_with fail
      generalize hW7 : World.setCell _ _ _ = W7
      obtain ⟨hz7, hblk7, hsz7, _⟩ := ten_set (g := ⟨kk, 0, 0, 0, 0, 0, 0, 0, u⟩) HST.out.2.2.2.1 hW7
      have hww7 : Below w.heap.size w W7 := hbw.trans ((put10b (g := ⟨kk, 0, 0, 0, 0, 0, 0, 0, u⟩) HST.out.2.2.2.1 hW7).2 w.heap.size (by omega))
      have HS7 := Lib.hid (FSP.weak (Q := fun k => (P k ∨ w.heap.size ≤ k) ∧ k < W7.heap.size) (fun k hk => ⟨by rcases hk.1 with (h9 | h9) | h9 <;> first | exact .inl h9.1 | exact .inr (by omega), hk.2⟩) (fownR_fsp (fownR_put HOW.out hzz (by omega) hblk7 hsz7)))
      obtain ⟨q0, k0, k1, k2, k3, k4, k5, k6, k7, k8, k9⟩ := hz7
      rw [HLV.out] at HS7
      (try simp only [Exit.inBlock, Exit.then])
      refine bodyPost_ret (v := .tuple #[.agg #[.int .i64 kk, .int .i64 0, .int .i64 0, .int .i64 0, .int .i64 0, .int .i64 0, .int .i64 0, .int .i64 0, .int .i64 u, .slice va pre0.len vc], .bool true]) ?_ rfl ?_
      · simp [results, Try.results109, go_sem, k0, k1, k2, k3, k4, k5, k6, k7, k8, k9]
      · unfold LbT
        rw [HSK.out, HPOK.out, HSF.out]
        exact ⟨(⟨kk, 0, 0, 0, 0, 0, 0, 0, u⟩, pre0.sb σ), _, rfl, fun _ => rfl, HS7.out, hww7⟩
    | cons h' s' r' =>
      simp only [Fo.len] at hkf
      simp only [Fo.size] at hszr
      simp only [Fo.okB, Bool.and_eq_true] at hrok
      have hkl : (k : Int) < (f.len : Int) := by omega
      have hk0 : (0 : Int) ≤ k := by omega
      obtain ⟨rfl, hcc2, hcc1, hbb⟩ := HSH.out (by omega)
      have hcc2' := hcc2
      unfold maxLen at hcc2'
      obtain ⟨⟨sl, hroww, hsl⟩, hrest⟩ := hr
      have HR := Lib.hid hrest
      have hrow : FRow wr bb (o + k * 10) h' sl := by
        have g : ∀ o, wr.cell? ⟨bb, o, none⟩ = w.cell? ⟨bb, o, none⟩ := fun o => (bcell hbw).1 bb o hbb
        simpa only [FRow, g] using hroww
      obtain ⟨la, ln, lc, rfl⟩ := FSP.slice (show FSP w P s' sl from hsl)
      have HC := Lib.hid (fun W (hW : Below W0.heap.size wr W) => H.out h' s' (by omega) hrok.1.1 hrok.1.2 W (fun k => P k ∧ k < w.heap.size) _ (FSP.kept (w' := W) (Q := fun k => P k ∧ k < w.heap.size) (Nat.le_trans hbw.size hW.size) (fun k hk _ => (hW.block k (by omega)).trans (hbw.block k hk.2)) (fun _ h => h) (FSP.lt (show FSP w P s' _ from hsl))))
      have HSE := Lib.hid (show wr.cell? ⟨w.heap.size, 9, none⟩ = some (.slice (some ⟨bb, o, none⟩) f.len sc) ∧ FRow wr bb (o + k * 10) h' (.slice la ln lc) from ⟨c9, hrow⟩)
      have hlen1 : k ≤ 1048576 := by omega
      clear hrow hroww hsl hrest
      go_wp2_with fail
      refine wp_region_held_drew (S := (fun w' => w'.cell? ⟨w.heap.size, 9, none⟩ = some (.slice (some ⟨bb, o, none⟩) f.len sc) ∧ (w'.cell? ⟨bb, o + k * 10, none⟩ = some (.int .i64 h'.k) ∧ w'.cell? ⟨bb, o + k * 10 + 1, none⟩ = some (.int .i64 h'.ak) ∧ w'.cell? ⟨bb, o + k * 10 + 2, none⟩ = some (.int .i64 h'.am) ∧ w'.cell? ⟨bb, o + k * 10 + 3, none⟩ = some (.int .i64 h'.a) ∧ w'.cell? ⟨bb, o + k * 10 + 4, none⟩ = some (.int .i64 h'.b) ∧ w'.cell? ⟨bb, o + k * 10 + 5, none⟩ = some (.int .i64 h'.c) ∧ w'.cell? ⟨bb, o + k * 10 + 6, none⟩ = some (.int .i64 h'.d) ∧ w'.cell? ⟨bb, o + k * 10 + 7, none⟩ = some (.int .i64 h'.n) ∧ w'.cell? ⟨bb, o + k * 10 + 8, none⟩ = some (.int .i64 h'.v) ∧ w'.cell? ⟨bb, o + k * 10 + 9, none⟩ = some (.slice la ln lc)) ∧ w'.cell? ⟨w.heap.size + 1, 0, none⟩ = some (.int .i64 σ.a) ∧ w'.cell? ⟨w.heap.size + 1, 1, none⟩ = some (.int .i64 σ.b) ∧ w'.cell? ⟨w.heap.size + 1, 2, none⟩ = some (.int .i64 σ.c) ∧ w'.cell? ⟨w.heap.size + 1, 3, none⟩ = some (.int .i64 σ.d) ∧ w'.cell? ⟨w.heap.size + 1, 4, none⟩ = some (.int .i64 σ.n))) (by kernel_rfl) ?_ (fun hHeld => ?_)
      · try dsimp only
        exact keepB HSE.out HV5.out (show w.heap.size < W0.heap.size by omega) (show bb < W0.heap.size by omega) hxt (by go_grown)
      refine wpAnyH_take (i := 0) (oi := { dst := some 57, op := Go.Op.fieldAddr 56 (Go.Operand.tmp 3) 3, type := 0, pos := "l4_forms.go:169", after := #[], guard := none }) (v := ?_) rfl (by kernel_rfl) (by kernel_rfl) (by kernel_rfl) (fun _ _ _ h => h) (Or.inl ⟨by rfl, ?_⟩) (by assumption) ?_
      rotate_left
      · (intro w hSw; (try dsimp only at hSw); first | (go_simp; done) | (go_simp; with_reducible rfl))
      try simp only [Act.put, List.setIfInBounds_toArray, List.set_cons_zero, List.set_cons_succ]
      refine wpAnyH_take (i := 1) (oi := { dst := some 58, op := Go.Op.load 54 (Go.Operand.tmp 57), type := 54, pos := "l4_forms.go:169", after := #[{ on := 0, ground := Go.Ground.data }], guard := none }) (v := ?_) rfl (by kernel_rfl) (by kernel_rfl) (by kernel_rfl) (fun _ _ _ h => h) (Or.inl ⟨by rfl, ?_⟩) (by assumption) ?_
      rotate_left
      · (intro w hSw; (try dsimp only at hSw); first | (go_simp; done) | (go_simp; with_reducible rfl))
      try simp only [Act.put, List.setIfInBounds_toArray, List.set_cons_zero, List.set_cons_succ]
      refine wpAnyH_take (i := 2) (oi := { dst := some 59, op := Go.Op.move (Go.Operand.tmp 11), type := 3, pos := "l4_forms.go:169", after := #[], guard := none }) (v := ?_) rfl (by kernel_rfl) (by kernel_rfl) (by kernel_rfl) (fun _ _ _ h => h) (Or.inl ⟨by rfl, ?_⟩) (by assumption) ?_
      rotate_left
      · (intro w hSw; (try dsimp only at hSw); first | (go_simp; done) | (go_simp; with_reducible rfl))
      try simp only [Act.put, List.setIfInBounds_toArray, List.set_cons_zero, List.set_cons_succ]
      refine wpAnyH_take (i := 3) (oi := { dst := some 60, op := Go.Op.indexAddr 54 (Go.Operand.tmp 58) (Go.Operand.tmp 59), type := 0, pos := "l4_forms.go:169", after := #[{ on := 1, ground := Go.Ground.data }, { on := 2, ground := Go.Ground.data }], guard := none }) (v := ?_) rfl (by kernel_rfl) (by kernel_rfl) (by kernel_rfl) (fun _ _ _ h => h) (Or.inl ⟨by rfl, ?_⟩) (by assumption) ?_
      rotate_left
      · (intro w hSw; (try dsimp only at hSw); first | (go_simp; done) | (go_simp; with_reducible rfl))
      try simp only [Act.put, List.setIfInBounds_toArray, List.set_cons_zero, List.set_cons_succ]
      refine wpAnyH_take (i := 4) (oi := { dst := some 61, op := Go.Op.load 56 (Go.Operand.tmp 60), type := 56, pos := "l4_forms.go:169", after := #[{ on := 3, ground := Go.Ground.data }], guard := none }) (v := ?_) rfl (by kernel_rfl) (by kernel_rfl) (by kernel_rfl) (fun _ _ _ h => h) (Or.inl ⟨by rfl, ?_⟩) (by assumption) ?_
      rotate_left
      · (intro w hSw; (try dsimp only at hSw); first | (go_simp; done) | (go_simp; with_reducible rfl))
      try simp only [Act.put, List.setIfInBounds_toArray, List.set_cons_zero, List.set_cons_succ]
      refine wpAnyH_take (i := 5) (oi := { dst := some 62, op := Go.Op.move (Go.Operand.tmp 1), type := 3, pos := "l4_forms.go:169", after := #[], guard := none }) (v := ?_) rfl (by kernel_rfl) (by kernel_rfl) (by kernel_rfl) (fun _ _ _ h => h) (Or.inl ⟨by rfl, ?_⟩) (by assumption) ?_
      rotate_left
      · (intro w hSw; (try dsimp only at hSw); first | (go_simp; done) | (go_simp; with_reducible rfl))
      try simp only [Act.put, List.setIfInBounds_toArray, List.set_cons_zero, List.set_cons_succ]
      refine wpAnyH_take (i := 6) (oi := { dst := some 63, op := Go.Op.load 24 (Go.Operand.tmp 5), type := 24, pos := "l4_forms.go:169", after := #[], guard := none }) (v := ?_) rfl (by kernel_rfl) (by kernel_rfl) (by kernel_rfl) (fun _ _ _ h => h) (Or.inl ⟨by rfl, ?_⟩) (by assumption) ?_
      rotate_left
      · (intro w hSw; (try dsimp only at hSw); first | (go_simp; done) | (go_simp; with_reducible rfl))
      try simp only [Act.put, List.setIfInBounds_toArray, List.set_cons_zero, List.set_cons_succ]
      refine wpAnyH_ready (rs := [7, 11]) (by kernel_rfl) (by simp) ?_
      refine AllReadyH.cons (o := { dst := some 64, op := Go.Op.call { callee := Go.Callee.value (Go.Operand.func 109), args := #[Go.Operand.tmp 61, Go.Operand.tmp 62, Go.Operand.tmp 63], argTypes := #[56, 3, 24] }, type := 57, pos := "l4_forms.go:169", after := #[{ on := 4, ground := Go.Ground.data }, { on := 5, ground := Go.Ground.data }, { on := 6, ground := Go.Ground.data }], guard := none }) rfl (fun K hK => ?_) (AllReadyH.cons (o := { dst := some 12, op := Go.Op.alloc 56, type := 0, pos := "l4_forms.go:169", after := #[], guard := none }) rfl (fun K hK => ?_) AllReadyH.nil)
      ·
        go_simp
        (go_at_call 109; refine (HC.out _ (by go_grown)).mono ?_; rintro e w4 ⟨q4, s4, rfl, hq4, hs4, hb4⟩; obtain ⟨ga, gn, gc, rfl⟩ := hs4.slice; have HS4 := Lib.hid hs4; have hbb4 := below_on (w := wr) (by go_grown) hb4; have hsb4 : wr.heap.size ≤ w4.heap.size := hbb4.size; have hbl4 := hbb4.mono hsW)
        (try go_wp2_with fail)
        refine hK.out _ _ ?_ (fun hHeld => ?_)
        · try dsimp only
          exact keepB HSE.out HV5.out (show w.heap.size < W0.heap.size by omega) (show bb < W0.heap.size by omega) hxt (by go_grown)
        clear hK K
        try simp only [Act.put, List.setIfInBounds_toArray, List.set_cons_zero, List.set_cons_succ]
        refine wpAnyH_take (i := 8) (oi := { dst := some 56, op := Go.Op.move (Go.Operand.tmp 64), type := 57, pos := "l4_forms.go:169", after := #[{ on := 7, ground := Go.Ground.data }], guard := none }) (v := ?_) rfl (by kernel_rfl) (by kernel_rfl) (by kernel_rfl) (fun _ _ _ h => h) (Or.inl ⟨by rfl, ?_⟩) (by assumption) ?_
        rotate_left
        · (intro w hSw; (try dsimp only at hSw); first | (go_simp; done) | (go_simp; with_reducible rfl))
        try simp only [Act.put, List.setIfInBounds_toArray, List.set_cons_zero, List.set_cons_succ]
        refine wpAnyH_take (i := 9) (oi := { dst := some 65, op := Go.Op.extract (Go.Operand.tmp 56) 0, type := 56, pos := "l4_forms.go:169", after := #[{ on := 8, ground := Go.Ground.data }], guard := none }) (v := ?_) rfl (by kernel_rfl) (by kernel_rfl) (by kernel_rfl) (fun _ _ _ h => h) (Or.inl ⟨by rfl, ?_⟩) (by assumption) ?_
        rotate_left
        · (intro w hSw; (try dsimp only at hSw); first | (go_simp; done) | (go_simp; with_reducible rfl))
        try simp only [Act.put, List.setIfInBounds_toArray, List.set_cons_zero, List.set_cons_succ]
        refine wpAnyH_take (i := 10) (oi := { dst := some 66, op := Go.Op.extract (Go.Operand.tmp 56) 1, type := 4, pos := "l4_forms.go:169", after := #[{ on := 8, ground := Go.Ground.data }, { on := 12, ground := Go.Ground.gcOnly Go.Departure.lateStores }], guard := none }) (v := ?_) rfl (by kernel_rfl) (by kernel_rfl) (by kernel_rfl) (fun _ _ _ h => h) (Or.inl ⟨by rfl, ?_⟩) (by assumption) ?_
        rotate_left
        · (intro w hSw; (try dsimp only at hSw); first | (go_simp; done) | (go_simp; with_reducible rfl))
        try simp only [Act.put, List.setIfInBounds_toArray, List.set_cons_zero, List.set_cons_succ]
        refine wpAnyH_ready (rs := [11]) (by kernel_rfl) (by simp) ?_
        refine AllReadyH.cons (o := { dst := some 12, op := Go.Op.alloc 56, type := 0, pos := "l4_forms.go:169", after := #[], guard := none }) rfl (fun K hK => ?_) AllReadyH.nil
        go_simp
        refine hK.out _ _ ?_ (fun hHeld => ?_)
        · try dsimp only
          exact keepB HSE.out HV5.out (show w.heap.size < W0.heap.size by omega) (show bb < W0.heap.size by omega) hxt (by go_grown)
        clear hK K
        try simp only [Act.put, List.setIfInBounds_toArray, List.set_cons_zero, List.set_cons_succ]
        refine wpAnyH_ready (rs := [12]) (by kernel_rfl) (by simp) ?_
        refine AllReadyH.cons (o := { dst := none, op := Go.Op.store 56 (Go.Operand.tmp 12) (Go.Operand.tmp 65), type := 0, pos := "l4_forms.go:169", after := #[{ on := 11, ground := Go.Ground.data }, { on := 9, ground := Go.Ground.data }, { on := 7, ground := Go.Ground.chain }, { on := 0, ground := Go.Ground.phase }, { on := 1, ground := Go.Ground.phase }, { on := 2, ground := Go.Ground.phase }, { on := 3, ground := Go.Ground.phase }, { on := 4, ground := Go.Ground.phase }, { on := 5, ground := Go.Ground.phase }, { on := 6, ground := Go.Ground.phase }, { on := 7, ground := Go.Ground.phase }, { on := 8, ground := Go.Ground.phase }, { on := 9, ground := Go.Ground.phase }, { on := 10, ground := Go.Ground.textOnly Go.Departure.lateStores }, { on := 11, ground := Go.Ground.phase }], guard := none }) rfl (fun K hK => ?_) AllReadyH.nil
        go_simp
        refine hK.out _ _ ?_ (fun hHeld => ?_)
        · try dsimp only
          exact keepB HSE.out HV5.out (show w.heap.size < W0.heap.size by omega) (show bb < W0.heap.size by omega) hxt (by go_grown)
        clear hK K
        try simp only [Act.put, List.setIfInBounds_toArray, List.set_cons_zero, List.set_cons_succ]
        refine wpAnyH_take (i := 13) (oi := { dst := some 13, op := Go.Op.assign (Go.Operand.tmp 66), type := 4, pos := "l4_forms.go:169", after := #[{ on := 10, ground := Go.Ground.data }, { on := 12, ground := Go.Ground.chain }, { on := 0, ground := Go.Ground.phase }, { on := 1, ground := Go.Ground.phase }, { on := 2, ground := Go.Ground.phase }, { on := 3, ground := Go.Ground.phase }, { on := 4, ground := Go.Ground.phase }, { on := 5, ground := Go.Ground.phase }, { on := 6, ground := Go.Ground.phase }, { on := 7, ground := Go.Ground.phase }, { on := 8, ground := Go.Ground.phase }, { on := 9, ground := Go.Ground.phase }, { on := 10, ground := Go.Ground.phase }, { on := 11, ground := Go.Ground.phase }, { on := 12, ground := Go.Ground.phase }], guard := none }) (v := ?_) rfl (by kernel_rfl) (by kernel_rfl) (by kernel_rfl) (fun _ _ _ h => h) (Or.inl ⟨by rfl, ?_⟩) (by assumption) ?_
        rotate_left
        · (intro w hSw; (try dsimp only at hSw); first | (go_simp; done) | (go_simp; with_reducible rfl))
        try simp only [Act.put, List.setIfInBounds_toArray, List.set_cons_zero, List.set_cons_succ]
        refine wpAnyH_done (by kernel_rfl) ?_ _
        (generalize hX : World.alloc _ _ = wX; have hbx : C10 wX w4.heap.size q4.1 (.slice ga gn gc) := (by subst hX; exact (by refine ⟨?_, ?_, ?_, ?_, ?_, ?_, ?_, ?_, ?_, ?_, ?_⟩ <;> first | (simp [go_sem]; done) | (simp; omega))); have hb4X : Below w4.heap.size w4 wX := (by subst hX; go_grown); have hbX : Below W0.heap.size wr wX := hbl4.trans (hb4X.mono (by omega)); have hsX := hb4X.size; have hbXX : Below wr.heap.size wr wX := below_on hbb4 hb4X; have HSX := Lib.hid (FSP.kept (w' := wX) (Q := fun k => ((P k ∧ k < w.heap.size) ∨ wr.heap.size ≤ k) ∧ k < wX.heap.size) hb4X.size (fun k hk _ => hb4X.block k hk.2) (fun k hk => ⟨hk.1, Nat.lt_of_lt_of_le hk.2 hsX⟩) HS4.out); obtain ⟨bx, hbxe⟩ : ∃ bx, w4.heap.size = bx := ⟨_, rfl⟩; have hbxl : W0.heap.size ≤ bx := (by omega); rw [hbxe] at hbx ⊢; clear hX hb4X hbxe)
        have hst4 := mlst_low HST.out hbX
        have hvX := c5_low HV5.out hxt hbX
        have howX0 := HOW.out
        obtain ⟨⟨_, c0', c1', c2', c3', c4', c5', c6', c7', c8', c9'⟩, ⟨yy0, e0', e1', e2', e3', e4', e5', e6', e7', e8', e9'⟩, yf', ⟨zz0, d0', d1', d2', d3', d4', d5', d6', d7', d8', d9'⟩, zf', hbwX, _⟩ := id hst4
        rw [HLV.out] at e9'
        obtain ⟨b0, b1, b2, b3, b4, b5, b6, b7, b8, b9, b10⟩ := id hbx
        clear x0 c0 c1 c2 c3 c4 c5 c6 c7 c8 c9 y0 e0 e1 e2 e3 e4 e5 e6 e7 e8 e9 yf z0 d0 d1 d2 d3 d4 d5 d6 d7 d8 d9 zf j0 j1 j2 j3 j4 j5 hHeld
        have hsr := hbX.size
        cases hk4 : sbK σ h' s' with
        | false =>
          have HSK2 : Hid (sbK σ ⟨kk, 0, 0, 0, 0, 0, 0, 0, u⟩ f = false) := by
            show _ = _
            rw [HSK.out, ← HAP.out, sb_app]
            simp only [Fo.sb]
            rw [okB_app]
            simp only [Fo.okB]
            have h9 : (ownB (sbE σ h' s' (s'.sb σ)).1 (sbE σ h' s' (s'.sb σ)).2.len && (sbE σ h' s' (s'.sb σ)).2.okB) = false := hk4
            rw [h9, Bool.false_and, Bool.and_false]
          go_wp2_with fail
          generalize hW7 : World.setCell _ _ _ = W7
          obtain ⟨hz7, hk7, hs7, _⟩ := ten_set (g := ⟨0, 0, 0, 0, 0, 0, 0, 0, 0⟩) hst4.2.2.2.1 hW7
          have hw7 : Below w.heap.size w W7 := hbwX.trans ((put10b (g := ⟨0, 0, 0, 0, 0, 0, 0, 0, 0⟩) hst4.2.2.2.1 hW7).2 w.heap.size (by omega))
          obtain ⟨q0, k0, k1, k2, k3, k4, k5, k6, k7, k8, k9⟩ := hz7
          (try simp only [Exit.inBlock, Exit.then])
          refine bodyPost_ret (v := .tuple #[.agg #[.int .i64 0, .int .i64 0, .int .i64 0, .int .i64 0, .int .i64 0, .int .i64 0, .int .i64 0, .int .i64 0, .int .i64 0, .slice none 0 0], .bool false]) ?_ rfl ?_
          · simp [results, Try.results109, go_sem, k0, k1, k2, k3, k4, k5, k6, k7, k8, k9]
          · unfold LbT
            rw [HSK2.out]
            exact ⟨(h00, .nil), _, rfl, fun h9 => absurd h9 (by simp), .inl ⟨rfl, none, 0, rfl, Nat.le_refl _, Nat.zero_le _⟩, hw7⟩
        | true =>
          obtain rfl := hq4 hk4
          obtain ⟨v5, w5, hr5, ho5, hb5⟩ := fownR_app (wa := wr) (w4 := wX) (sbF σ h' s').1 (sbF σ h' s').2 ga gn gc howX0 (by rw [HLV.out]; exact hlen1) (by omega) hbXX (FSP.weak (fun q hq => ⟨by rcases hq.1 with h9 | h9; (exact .inl h9); (exact .inr (by omega)), by rcases hq.1 with h9 | h9 <;> omega, hq.2⟩) HSX.out)
          obtain ⟨a5, c5x, rfl⟩ := fownR_slice ho5
          rw [HLV.out] at hr5
          have HRUN := Lib.hid hr5
          have hst5 := mlst_low hst4 hb5
          have hv5' := c5_low hvX hxt hb5
          have he9 : w5.cell? ⟨xo, 9, none⟩ = some (.slice va k vc) := (World.cell?_of_block (a := ⟨xo, 9, none⟩) (hb5.block _ hyy)).trans e9'
          have hf5 : ∀ o, w5.frozen? ⟨xo, o, none⟩ = false := hst5.2.2.1
          clear hr5
          go_wp2_with (at_builtin; refine wpList_append_run rfl _ _ 54 rfl rfl rfl HRUN.out ?_)
          go_wp2_with fail
          generalize hW6 : World.setCell _ _ _ = W6
          obtain ⟨hst6, hk6, hs6⟩ := mlst_put hst5 hW6
          have how6 := fownR_put ho5 hyy (by omega) hk6 hs6
          have hv6 := c5_putb hv5' (fun e => hxot e.symm) hk6 hs6
          have HN6 : Hid (LbR σ f (.slice (some ⟨bb, o, none⟩) f.len sc) bb o P w W0 xo ⟨kk, 0, 0, 0, 0, 0, 0, 0, u⟩ (.int .i64 ((k + 1 : Nat) : Int)) W6) := ⟨k + 1, pre0.app (.cons h' s' .nil), r', _, rfl, by rw [Fo.app_len, HPL.out]; rfl, by rw [Fo.app_assoc]; exact HAP.out, hrok.2, by
            rw [sb_snoc, okB_app, HPOK.out]
            simp only [Fo.okB, Bool.and_true, Bool.true_and]
            exact hk4, by rw [show o + (k + 1) * 10 = o + k * 10 + 10 by omega]; exact HR.out, hst6, hv6, hxt, hxot, by rw [sb_snoc]; exact how6⟩
          clear hW6 hst6 hk6 hs6 how6 hv6 ho5 hst5 hv5' he9 hf5 hb5 hst4 hvX howX0 hbx HSX HS4 b0 b1 b2 b3 b4 b5 b6 b7 b8 b9 b10 c0' c1' c2' c3' c4' c5' c6' c7' c8' c9' yy0 e0' e1' e2' e3' e4' e5' e6' e7' e8' e9' yf' zz0 d0' d1' d2' d3' d4' d5' d6' d7' d8' d9' zf'
          go_wp2
          go_roundw
          case rel =>
            have e : ((k + 1 : Nat) : Int) = (k : Int) + 1 := by omega
            have h9 := HN6.out
            rw [e] at h9
            exact h9
          case measure => simp [intOf]; omega
      ·
        go_simp
        refine hK.out _ _ ?_ (fun hHeld => ?_)
        · try dsimp only
          exact keepB HSE.out HV5.out (show w.heap.size < W0.heap.size by omega) (show bb < W0.heap.size by omega) hxt (by go_grown)
        clear hK K
        try simp only [Act.put, List.setIfInBounds_toArray, List.set_cons_zero, List.set_cons_succ]
        refine wpAnyH_ready (rs := [7]) (by kernel_rfl) (by simp) ?_
        refine AllReadyH.cons (o := { dst := some 64, op := Go.Op.call { callee := Go.Callee.value (Go.Operand.func 109), args := #[Go.Operand.tmp 61, Go.Operand.tmp 62, Go.Operand.tmp 63], argTypes := #[56, 3, 24] }, type := 57, pos := "l4_forms.go:169", after := #[{ on := 4, ground := Go.Ground.data }, { on := 5, ground := Go.Ground.data }, { on := 6, ground := Go.Ground.data }], guard := none }) rfl (fun K hK => ?_) AllReadyH.nil
        go_simp
        (go_at_call 109; refine (HC.out _ (by go_grown)).mono ?_; rintro e w4 ⟨q4, s4, rfl, hq4, hs4, hb4⟩; obtain ⟨ga, gn, gc, rfl⟩ := hs4.slice; have HS4 := Lib.hid hs4; have hbb4 := below_on (w := wr) (by go_grown) hb4; have hsb4 : wr.heap.size ≤ w4.heap.size := hbb4.size; have hbl4 := hbb4.mono hsW; have hb41 : wr.heap.size + 1 ≤ w4.heap.size := (by have := hb4.size; simpa using this); have HS4B := Lib.hid (FSP.weak (Q := fun k => ((P k ∧ k < w.heap.size) ∨ wr.heap.size + 1 ≤ k) ∧ k < w4.heap.size) (fun k hk => ⟨hk.1.imp id (fun h9 => by simpa using h9), hk.2⟩) hs4); have hbz4 : C10 w4 wr.heap.size ⟨0, 0, 0, 0, 0, 0, 0, 0, 0⟩ (.slice none 0 0) := (c10_on (h := ⟨0, 0, 0, 0, 0, 0, 0, 0, 0⟩) (s := .slice none 0 0) (by refine ⟨?_, ?_, ?_, ?_, ?_, ?_, ?_, ?_, ?_, ?_, ?_⟩ <;> first | (simp [go_sem]; done) | (simp; omega)) hb4); have fbz4 : ∀ o, w4.frozen? ⟨wr.heap.size, o, none⟩ = false := (fun o => ((bcell hb4).2 _ o (by simp)).trans (by simp [go_sem])); obtain ⟨b0, b1, b2, b3, b4, b5, b6, b7, b8, b9, b10⟩ := id hbz4)
        (try go_wp2_with fail)
        refine hK.out _ _ ?_ (fun hHeld => ?_)
        · try dsimp only
          exact keepB HSE.out HV5.out (show w.heap.size < W0.heap.size by omega) (show bb < W0.heap.size by omega) hxt (by go_grown)
        clear hK K
        try simp only [Act.put, List.setIfInBounds_toArray, List.set_cons_zero, List.set_cons_succ]
        refine wpAnyH_take (i := 8) (oi := { dst := some 56, op := Go.Op.move (Go.Operand.tmp 64), type := 57, pos := "l4_forms.go:169", after := #[{ on := 7, ground := Go.Ground.data }], guard := none }) (v := ?_) rfl (by kernel_rfl) (by kernel_rfl) (by kernel_rfl) (fun _ _ _ h => h) (Or.inl ⟨by rfl, ?_⟩) (by assumption) ?_
        rotate_left
        · (intro w hSw; (try dsimp only at hSw); first | (go_simp; done) | (go_simp; with_reducible rfl))
        try simp only [Act.put, List.setIfInBounds_toArray, List.set_cons_zero, List.set_cons_succ]
        refine wpAnyH_take (i := 9) (oi := { dst := some 65, op := Go.Op.extract (Go.Operand.tmp 56) 0, type := 56, pos := "l4_forms.go:169", after := #[{ on := 8, ground := Go.Ground.data }], guard := none }) (v := ?_) rfl (by kernel_rfl) (by kernel_rfl) (by kernel_rfl) (fun _ _ _ h => h) (Or.inl ⟨by rfl, ?_⟩) (by assumption) ?_
        rotate_left
        · (intro w hSw; (try dsimp only at hSw); first | (go_simp; done) | (go_simp; with_reducible rfl))
        try simp only [Act.put, List.setIfInBounds_toArray, List.set_cons_zero, List.set_cons_succ]
        refine wpAnyH_take (i := 10) (oi := { dst := some 66, op := Go.Op.extract (Go.Operand.tmp 56) 1, type := 4, pos := "l4_forms.go:169", after := #[{ on := 8, ground := Go.Ground.data }, { on := 12, ground := Go.Ground.gcOnly Go.Departure.lateStores }], guard := none }) (v := ?_) rfl (by kernel_rfl) (by kernel_rfl) (by kernel_rfl) (fun _ _ _ h => h) (Or.inl ⟨by rfl, ?_⟩) (by assumption) ?_
        rotate_left
        · (intro w hSw; (try dsimp only at hSw); first | (go_simp; done) | (go_simp; with_reducible rfl))
        try simp only [Act.put, List.setIfInBounds_toArray, List.set_cons_zero, List.set_cons_succ]
        refine wpAnyH_ready (rs := [12]) (by kernel_rfl) (by simp) ?_
        refine AllReadyH.cons (o := { dst := none, op := Go.Op.store 56 (Go.Operand.tmp 12) (Go.Operand.tmp 65), type := 0, pos := "l4_forms.go:169", after := #[{ on := 11, ground := Go.Ground.data }, { on := 9, ground := Go.Ground.data }, { on := 7, ground := Go.Ground.chain }, { on := 0, ground := Go.Ground.phase }, { on := 1, ground := Go.Ground.phase }, { on := 2, ground := Go.Ground.phase }, { on := 3, ground := Go.Ground.phase }, { on := 4, ground := Go.Ground.phase }, { on := 5, ground := Go.Ground.phase }, { on := 6, ground := Go.Ground.phase }, { on := 7, ground := Go.Ground.phase }, { on := 8, ground := Go.Ground.phase }, { on := 9, ground := Go.Ground.phase }, { on := 10, ground := Go.Ground.textOnly Go.Departure.lateStores }, { on := 11, ground := Go.Ground.phase }], guard := none }) rfl (fun K hK => ?_) AllReadyH.nil
        go_simp
        refine hK.out _ _ ?_ (fun hHeld => ?_)
        · try dsimp only
          exact keepB HSE.out HV5.out (show w.heap.size < W0.heap.size by omega) (show bb < W0.heap.size by omega) hxt (by go_grown)
        clear hK K
        try simp only [Act.put, List.setIfInBounds_toArray, List.set_cons_zero, List.set_cons_succ]
        refine wpAnyH_take (i := 13) (oi := { dst := some 13, op := Go.Op.assign (Go.Operand.tmp 66), type := 4, pos := "l4_forms.go:169", after := #[{ on := 10, ground := Go.Ground.data }, { on := 12, ground := Go.Ground.chain }, { on := 0, ground := Go.Ground.phase }, { on := 1, ground := Go.Ground.phase }, { on := 2, ground := Go.Ground.phase }, { on := 3, ground := Go.Ground.phase }, { on := 4, ground := Go.Ground.phase }, { on := 5, ground := Go.Ground.phase }, { on := 6, ground := Go.Ground.phase }, { on := 7, ground := Go.Ground.phase }, { on := 8, ground := Go.Ground.phase }, { on := 9, ground := Go.Ground.phase }, { on := 10, ground := Go.Ground.phase }, { on := 11, ground := Go.Ground.phase }, { on := 12, ground := Go.Ground.phase }], guard := none }) (v := ?_) rfl (by kernel_rfl) (by kernel_rfl) (by kernel_rfl) (fun _ _ _ h => h) (Or.inl ⟨by rfl, ?_⟩) (by assumption) ?_
        rotate_left
        · (intro w hSw; (try dsimp only at hSw); first | (go_simp; done) | (go_simp; with_reducible rfl))
        try simp only [Act.put, List.setIfInBounds_toArray, List.set_cons_zero, List.set_cons_succ]
        refine wpAnyH_done (by kernel_rfl) ?_ _
        (generalize hX : World.setCell _ _ _ = wX; obtain ⟨hbx, hkX, hsX', hfX⟩ := ten_set (g := q4.1) hbz4 hX; have hbX : Below W0.heap.size wr wX := hbl4.trans ((put10b (g := q4.1) hbz4 hX).2 W0.heap.size hsW); have hsX : w4.heap.size ≤ wX.heap.size := (by omega); have hbXX : Below wr.heap.size wr wX := hbb4.trans ((put10b (g := q4.1) hbz4 hX).2 wr.heap.size (Nat.le_refl _)); have HSX := Lib.hid (FSP.kept (w' := wX) (Q := fun k => ((P k ∧ k < w.heap.size) ∨ wr.heap.size ≤ k) ∧ k < wX.heap.size) hsX (fun k hk _ => hkX k (by have h1 := hk.1; omega)) (fun k hk => ⟨hk.1.imp id (fun h9 => by omega), Nat.lt_of_lt_of_le hk.2 hsX⟩) HS4B.out); obtain ⟨bx, hbxe⟩ : ∃ bx, wr.heap.size = bx := ⟨_, rfl⟩; have hbxl : W0.heap.size ≤ bx := (by omega); rw [hbxe] at hbx ⊢; clear hX hkX hbxe hsX' hfX hbz4 fbz4 b0 b1 b2 b3 b4 b5 b6 b7 b8 b9 b10)
        have hst4 := mlst_low HST.out hbX
        have hvX := c5_low HV5.out hxt hbX
        have howX0 := HOW.out
        obtain ⟨⟨_, c0', c1', c2', c3', c4', c5', c6', c7', c8', c9'⟩, ⟨yy0, e0', e1', e2', e3', e4', e5', e6', e7', e8', e9'⟩, yf', ⟨zz0, d0', d1', d2', d3', d4', d5', d6', d7', d8', d9'⟩, zf', hbwX, _⟩ := id hst4
        rw [HLV.out] at e9'
        obtain ⟨b0, b1, b2, b3, b4, b5, b6, b7, b8, b9, b10⟩ := id hbx
        clear x0 c0 c1 c2 c3 c4 c5 c6 c7 c8 c9 y0 e0 e1 e2 e3 e4 e5 e6 e7 e8 e9 yf z0 d0 d1 d2 d3 d4 d5 d6 d7 d8 d9 zf j0 j1 j2 j3 j4 j5 hHeld
        have hsr := hbX.size
        cases hk4 : sbK σ h' s' with
        | false =>
          have HSK2 : Hid (sbK σ ⟨kk, 0, 0, 0, 0, 0, 0, 0, u⟩ f = false) := by
            show _ = _
            rw [HSK.out, ← HAP.out, sb_app]
            simp only [Fo.sb]
            rw [okB_app]
            simp only [Fo.okB]
            have h9 : (ownB (sbE σ h' s' (s'.sb σ)).1 (sbE σ h' s' (s'.sb σ)).2.len && (sbE σ h' s' (s'.sb σ)).2.okB) = false := hk4
            rw [h9, Bool.false_and, Bool.and_false]
          go_wp2_with fail
          generalize hW7 : World.setCell _ _ _ = W7
          obtain ⟨hz7, hk7, hs7, _⟩ := ten_set (g := ⟨0, 0, 0, 0, 0, 0, 0, 0, 0⟩) hst4.2.2.2.1 hW7
          have hw7 : Below w.heap.size w W7 := hbwX.trans ((put10b (g := ⟨0, 0, 0, 0, 0, 0, 0, 0, 0⟩) hst4.2.2.2.1 hW7).2 w.heap.size (by omega))
          obtain ⟨q0, k0, k1, k2, k3, k4, k5, k6, k7, k8, k9⟩ := hz7
          (try simp only [Exit.inBlock, Exit.then])
          refine bodyPost_ret (v := .tuple #[.agg #[.int .i64 0, .int .i64 0, .int .i64 0, .int .i64 0, .int .i64 0, .int .i64 0, .int .i64 0, .int .i64 0, .int .i64 0, .slice none 0 0], .bool false]) ?_ rfl ?_
          · simp [results, Try.results109, go_sem, k0, k1, k2, k3, k4, k5, k6, k7, k8, k9]
          · unfold LbT
            rw [HSK2.out]
            exact ⟨(h00, .nil), _, rfl, fun h9 => absurd h9 (by simp), .inl ⟨rfl, none, 0, rfl, Nat.le_refl _, Nat.zero_le _⟩, hw7⟩
        | true =>
          obtain rfl := hq4 hk4
          obtain ⟨v5, w5, hr5, ho5, hb5⟩ := fownR_app (wa := wr) (w4 := wX) (sbF σ h' s').1 (sbF σ h' s').2 ga gn gc howX0 (by rw [HLV.out]; exact hlen1) (by omega) hbXX (FSP.weak (fun q hq => ⟨by rcases hq.1 with h9 | h9; (exact .inl h9); (exact .inr (by omega)), by rcases hq.1 with h9 | h9 <;> omega, hq.2⟩) HSX.out)
          obtain ⟨a5, c5x, rfl⟩ := fownR_slice ho5
          rw [HLV.out] at hr5
          have HRUN := Lib.hid hr5
          have hst5 := mlst_low hst4 hb5
          have hv5' := c5_low hvX hxt hb5
          have he9 : w5.cell? ⟨xo, 9, none⟩ = some (.slice va k vc) := (World.cell?_of_block (a := ⟨xo, 9, none⟩) (hb5.block _ hyy)).trans e9'
          have hf5 : ∀ o, w5.frozen? ⟨xo, o, none⟩ = false := hst5.2.2.1
          clear hr5
          go_wp2_with (at_builtin; refine wpList_append_run rfl _ _ 54 rfl rfl rfl HRUN.out ?_)
          go_wp2_with fail
          generalize hW6 : World.setCell _ _ _ = W6
          obtain ⟨hst6, hk6, hs6⟩ := mlst_put hst5 hW6
          have how6 := fownR_put ho5 hyy (by omega) hk6 hs6
          have hv6 := c5_putb hv5' (fun e => hxot e.symm) hk6 hs6
          have HN6 : Hid (LbR σ f (.slice (some ⟨bb, o, none⟩) f.len sc) bb o P w W0 xo ⟨kk, 0, 0, 0, 0, 0, 0, 0, u⟩ (.int .i64 ((k + 1 : Nat) : Int)) W6) := ⟨k + 1, pre0.app (.cons h' s' .nil), r', _, rfl, by rw [Fo.app_len, HPL.out]; rfl, by rw [Fo.app_assoc]; exact HAP.out, hrok.2, by
            rw [sb_snoc, okB_app, HPOK.out]
            simp only [Fo.okB, Bool.and_true, Bool.true_and]
            exact hk4, by rw [show o + (k + 1) * 10 = o + k * 10 + 10 by omega]; exact HR.out, hst6, hv6, hxt, hxot, by rw [sb_snoc]; exact how6⟩
          clear hW6 hst6 hk6 hs6 how6 hv6 ho5 hst5 hv5' he9 hf5 hb5 hst4 hvX howX0 hbx HSX HS4 b0 b1 b2 b3 b4 b5 b6 b7 b8 b9 b10 c0' c1' c2' c3' c4' c5' c6' c7' c8' c9' yy0 e0' e1' e2' e3' e4' e5' e6' e7' e8' e9' yf' zz0 d0' d1' d2' d3' d4' d5' d6' d7' d8' d9' zf'
          go_wp2
          go_roundw
          case rel =>
            have e : ((k + 1 : Nat) : Int) = (k : Int) + 1 := by omega
            have h9 := HN6.out
            rw [e] at h9
            exact h9
          case measure => simp [intOf]; omega

end Go.Proofs.Ytcgolbkpfncgpaa
