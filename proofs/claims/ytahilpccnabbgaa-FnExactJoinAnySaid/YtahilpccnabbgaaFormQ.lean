/- Contracts of toFormulaS, toFormula that tell that the copy can be marked. -/
import Derived.Test.YtahilpccnabbgaaFormP
namespace Go.Proofs.Ytahilpccnabbgaa
open Go.RowKit

def TsPost2 (f : Fo) (w : World) (e : Ending) (w' : World) : Prop := ∃ s', e = .returned s' ∧ FS w' w.heap.size f s' ∧ NS w' w.heap.size w'.heap.size f s' ∧ Below w.heap.size w w'
def TfPost2 (h : FH) (f : Fo) (w : World) (e : Ending) (w' : World) : Prop := ∃ s', e = .returned (.agg #[.int .i64 h.k, .int .i64 h.ak, .int .i64 h.am, .int .i64 h.a, .int .i64 h.b, .int .i64 h.c, .int .i64 h.d, .int .i64 h.n, .int .i64 h.v, s']) ∧ FS w' w.heap.size f s' ∧ NS w' w.heap.size w'.heap.size f s' ∧ Below w.heap.size w w'

def TS2 (f : Fo) : Prop := ∀ (w : World) (lo : Nat) (s : Value), f.size ≤ 1048576 → FS w lo f s → Calls Try.prog 11 #[s] w (TsPost2 f w)
def TF2 (h : FH) (f : Fo) : Prop := ∀ (w : World) (lo : Nat) (s : Value), f.size ≤ 1048576 → FS w lo f s → Calls Try.prog 22 #[.agg #[.int .i64 h.k, .int .i64 h.ak, .int .i64 h.am, .int .i64 h.a, .int .i64 h.b, .int .i64 h.c, .int .i64 h.d, .int .i64 h.n, .int .i64 h.v, s]] w (TfPost2 h f w)

def TsR2 (f : Fo) (b o lo : Nat) (w : World) (i : Value) (wr : World) : Prop :=
  ∃ (k : Nat) (pre r : Fo) (xs : List Value), i = .int .i64 k ∧ pre.len = k ∧ k + r.len = f.len ∧ r.size ≤ f.size ∧ pre.app r = f ∧ FEl w lo r b (o + k * 10) ∧ FEl wr (w.heap.size + 1) pre w.heap.size 0 ∧ NEl wr (w.heap.size + 1) wr.heap.size pre w.heap.size 0 ∧
    wr.ownsRow w.heap.size 30 10 (.slice (some ⟨w.heap.size, 0, none⟩) f.len f.len) f.len xs ∧ Below w.heap.size w wr

set_option maxHeartbeats 1000000 in
theorem tS_of2 {f : Fo} (HF : ∀ h s, s.size < f.size → TF2 h s) : TS2 f := by
  intro w lo s hf hs
  have H := Lib.hid HF
  clear HF
  obtain ⟨i0, hi, hz0, hz1, hz2⟩ := info_parts Try.infoForm
  rcases hs with ⟨h0, x, cap, rfl, _, _⟩ | ⟨h0, b, o, cap, rfl, hc1, hc2, hlo, hb, hel⟩
  · obtain rfl : f = .nil := Fo.len_zero h0
    clear h0
    obtain ⟨w1, hr, _, hg⟩ := run_make_full (P := Try.prog) w w.heap.size 28 30 i0 _ 10 Try.underlying28 hi hz0 hz1 .i64 .i64 0 (by simp) (by simp [maxLen]) (Nat.le_refl _)
    have HG := Lib.hid hg
    simp only [Int.cast_ofNat_Int] at hr
    clear hg
    go_enter Try.func11, Try.ntmps11
    go_wp2
    refine wp_loop_rounds 1 ?_
    rw [rounds_succ]
    go_wp2
    go_ret
    exact ⟨_, rfl, .inl ⟨rfl, _, _, rfl, Nat.le_refl _, Nat.zero_le _⟩, .inl ⟨rfl, _, _, rfl⟩, (Below.refl _ _).grown HG.out (Nat.le_refl _) (by simp)⟩
  · have hlen := Fo.len_le f
    obtain ⟨w1, hr, hown, hg⟩ := run_make_full (P := Try.prog) w w.heap.size 28 30 i0 _ 10 Try.underlying28 hi hz0 hz1 .i64 .i64 f.len (by rw [hz2]; omega) (by unfold maxLen; omega) (Nat.le_refl _)
    have hbw1 : Below w.heap.size w w1 := (Below.refl _ _).grown hg (Nat.le_refl _) (by simp)
    have HST := Lib.hid (show TsR2 f b o lo w (.int .i64 0) w1 from ⟨0, .nil, f, _, rfl, rfl, by omega, Nat.le_refl _, rfl, by simpa using hel, trivial, trivial, hown, hbw1⟩)
    unfold maxLen at hc2
    clear hel hown hg hbw1 hi hz0 hz1 hz2
    go_enter Try.func11, Try.ntmps11
    go_wp2
    go_loopw [4] (fun i wr => TsR2 f b o lo w i wr) (fun i _ => f.len - (intOf i).toNat)
    case atStart => exact HST.out
    case round =>
      obtain ⟨k, pre, r, xs, rfl, hpl, hk, hdr, hap, hr, hpre, hnel, hown, hbw⟩ := hrel
      clear HST
      have HAP := Lib.hid hap
      have HPL := Lib.hid hpl
      clear hap hpl
      cases r with
      | nil =>
        simp only [Fo.len] at hk
        have hkl : ¬ k < f.len := by omega
        have HO := Lib.hid hown
        have HP := Lib.hid hpre
        have HNE := Lib.hid hnel
        clear hown hpre hnel
        go_wp2
        go_ret
        have e := HAP.out
        rw [Fo.app_nil] at e
        rw [e] at HP HNE
        refine ⟨_, rfl, .inr ⟨h0, _, _, _, rfl, Nat.le_refl _, by unfold maxLen; omega, Nat.le_refl _, (HO.out.lt w.heap.size rfl).2, FEl.mono (by omega) _ _ _ HP.out⟩, .inr ⟨h0, _, _, rfl, Nat.le_refl _, by unfold maxLen; omega, Nat.le_refl _, (HO.out.lt w.heap.size rfl).2, fun o => HO.out.frozenAt o, NEl.mono (by omega) (Nat.le_refl _) _ _ _ HNE.out⟩, hbw⟩
      | cons h' s' r' =>
        simp only [Fo.len] at hk
        simp only [Fo.size] at hdr
        have hkl : k < f.len := by omega
        have HR := Lib.hid hr.2
        obtain ⟨⟨sl, hrow, hsl⟩, _⟩ := FEl.below hbw (Nat.le_refl _) hlo hb hr
        clear hr
        have HC := Lib.hid (H.out h' s' (by omega) wr lo sl (by omega) hsl)
        have HB := Lib.hid hbw
        have HO := Lib.hid hown
        have HP := Lib.hid hpre
        have HNE := Lib.hid hnel
        have hB0 : w.heap.size < wr.heap.size := (hown.lt w.heap.size rfl).2
        obtain ⟨c0, c1, c2, c3, c4, c5, c6, c7, c8, c9⟩ := hrow
        clear hsl hbw hown hpre hnel
        go_wp2_with fail
        refine HC.out.mono ?_
        rintro e w2 ⟨s2, rfl, hs2, hns2, hb2⟩
        obtain ⟨sa, sn, sc, rfl⟩ := hs2.slice
        have HS2 := Lib.hid hs2
        have HN2 := Lib.hid hns2
        have hown2 := own_below (show wr.ownsRow w.heap.size 30 10 _ f.len xs from HO.out) hb2
        have HO2 := Lib.hid hown2
        have hl2 := hown2.1
        obtain ⟨x0, hx0⟩ : ∃ x, w2.cell? ⟨w.heap.size, k * 10, none⟩ = some x := ⟨_, (hown2.cellAt (k * 10) (by omega)).trans (List.getElem?_eq_getElem (by omega))⟩
        obtain ⟨x1, hx1⟩ : ∃ x, w2.cell? ⟨w.heap.size, k * 10 + 1, none⟩ = some x := ⟨_, (hown2.cellAt (k * 10 + 1) (by omega)).trans (List.getElem?_eq_getElem (by omega))⟩
        obtain ⟨x2, hx2⟩ : ∃ x, w2.cell? ⟨w.heap.size, k * 10 + 2, none⟩ = some x := ⟨_, (hown2.cellAt (k * 10 + 2) (by omega)).trans (List.getElem?_eq_getElem (by omega))⟩
        obtain ⟨x3, hx3⟩ : ∃ x, w2.cell? ⟨w.heap.size, k * 10 + 3, none⟩ = some x := ⟨_, (hown2.cellAt (k * 10 + 3) (by omega)).trans (List.getElem?_eq_getElem (by omega))⟩
        obtain ⟨x4, hx4⟩ : ∃ x, w2.cell? ⟨w.heap.size, k * 10 + 4, none⟩ = some x := ⟨_, (hown2.cellAt (k * 10 + 4) (by omega)).trans (List.getElem?_eq_getElem (by omega))⟩
        obtain ⟨x5, hx5⟩ : ∃ x, w2.cell? ⟨w.heap.size, k * 10 + 5, none⟩ = some x := ⟨_, (hown2.cellAt (k * 10 + 5) (by omega)).trans (List.getElem?_eq_getElem (by omega))⟩
        obtain ⟨x6, hx6⟩ : ∃ x, w2.cell? ⟨w.heap.size, k * 10 + 6, none⟩ = some x := ⟨_, (hown2.cellAt (k * 10 + 6) (by omega)).trans (List.getElem?_eq_getElem (by omega))⟩
        obtain ⟨x7, hx7⟩ : ∃ x, w2.cell? ⟨w.heap.size, k * 10 + 7, none⟩ = some x := ⟨_, (hown2.cellAt (k * 10 + 7) (by omega)).trans (List.getElem?_eq_getElem (by omega))⟩
        obtain ⟨x8, hx8⟩ : ∃ x, w2.cell? ⟨w.heap.size, k * 10 + 8, none⟩ = some x := ⟨_, (hown2.cellAt (k * 10 + 8) (by omega)).trans (List.getElem?_eq_getElem (by omega))⟩
        obtain ⟨x9, hx9⟩ : ∃ x, w2.cell? ⟨w.heap.size, k * 10 + 9, none⟩ = some x := ⟨_, (hown2.cellAt (k * 10 + 9) (by omega)).trans (List.getElem?_eq_getElem (by omega))⟩
        have hfz := fun o => hown2.frozenAt o
        have HP2 := Lib.hid (FEl.stored hb2.size (fun j _ hj => hb2.block j hj) pre 0 (pre.len * 10) (fun j _ => (bcell hb2).1 _ _ hB0) (by omega) HP.out)
        have HNE2 := Lib.hid (NEl.same (fun x _ hx => hb2.block x hx) pre w.heap.size 0 (fun j _ _ => (bcell hb2).1 _ _ hB0) HNE.out)
        have HB2 := Lib.hid (below_on HB.out hb2)
        have hsz2 := hb2.size
        clear c0 c1 c2 c3 c4 c5 c6 c7 c8 c9 hs2 hns2 hown2 hb2 hl2
        go_wp2_with fail
        generalize hW2 : World.setCell _ _ _ = W2
        obtain ⟨⟨ys, ho⟩, hbl, hsz, hoth, hpr, g0, g1, g2, g3, g4, g5, g6, g7, g8, g9⟩ := put10 _ _ _ _ _ _ _ _ _ _ HO2.out hkl hW2
        have HO3 := Lib.hid ho
        have HB3 := Lib.hid (HB2.out.trans (hbl w.heap.size (Nat.le_refl _)))
        have HP3 := Lib.hid (FEl.stored hsz hoth pre 0 (k * 10) hpr (by rw [HPL.out]; omega) HP2.out)
        have HS3 := Lib.hid (show FS W2 (w.heap.size + 1) s' (.slice sa sn sc) from
          FS.mono (by omega) (FS.kept hsz (fun j hj1 hj2 => hoth j (by omega) hj2) HS2.out))
        have HNE3 := Lib.hid (show NEl W2 (w.heap.size + 1) W2.heap.size pre w.heap.size 0 from NEl.mono (Nat.le_refl _) (Nat.le_trans hsz2 hsz) _ _ _ (NEl.same (fun x h1 h2 => hoth x (by omega) (by omega)) pre w.heap.size 0 (fun j _ h2 => hpr j (by rw [HPL.out] at h2; omega)) HNE2.out))
        have HN3 := Lib.hid (show NS W2 (w.heap.size + 1) W2.heap.size s' (.slice sa sn sc) from NS.mono (by omega) hsz (NS.same (fun x h1 h2 => hoth x (by omega) h2) HN2.out))
        clear hW2 ho hbl hsz hoth hpr hx0 hx1 hx2 hx3 hx4 hx5 hx6 hx7 hx8 hx9 hfz
        have HG := Lib.hid (show FRow W2 w.heap.size (k * 10) h' (.slice sa sn sc) from ⟨g0, g1, g2, g3, g4, g5, g6, g7, g8, g9⟩)
        clear g0 g1 g2 g3 g4 g5 g6 g7 g8 g9
        go_wp2
        go_roundw
        case rel => exact ⟨k + 1, pre.app (.cons h' s' .nil), r', _, by go_num, by rw [Fo.app_len, HPL.out]; rfl, by omega, by omega, by rw [Fo.app_assoc]; exact HAP.out, by rw [show o + (k + 1) * 10 = o + k * 10 + 10 by omega]; exact HR.out, FEl.app _ _ _ HP3.out (by rw [HPL.out]; exact ⟨⟨_, by rw [Nat.zero_add]; exact HG.out, HS3.out⟩, trivial⟩), NEl.app _ _ _ HNE3.out (by rw [HPL.out]; exact ⟨⟨_, _, by rw [Nat.zero_add]; exact HG.out, HN3.out⟩, trivial⟩), HO3.out, HB3.out⟩
        case measure => simp [intOf]; omega

set_option maxHeartbeats 1000000 in
theorem tF_of2 {h : FH} {f : Fo} (HS : TS2 f) : TF2 h f := by
  intro w lo s hf hs
  have H := Lib.hid HS
  have HF := Lib.hid hs
  clear HS hs
  go_enter Try.func22, Try.ntmps22
  go_wp2_with fail
  generalize hW : World.alloc _ _ = W
  have hx : C10 W w.heap.size h s := by subst hW; exact (by refine ⟨?_, ?_, ?_, ?_, ?_, ?_, ?_, ?_, ?_, ?_, ?_⟩ <;> first | (simp [go_sem]; done) | (simp; omega))
  have hz : C10 W (w.heap.size + 1) ⟨0, 0, 0, 0, 0, 0, 0, 0, 0⟩ (.slice none 0 0) := by subst hW; exact (by refine ⟨?_, ?_, ?_, ?_, ?_, ?_, ?_, ?_, ?_, ?_, ?_⟩ <;> first | (simp [go_sem]; done) | (simp; omega))
  have hy : C10 W (w.heap.size + 1 + 1) ⟨h.k, 0, 0, 0, 0, 0, 0, 0, 0⟩ (.slice none 0 0) := by subst hW; exact (by refine ⟨?_, ?_, ?_, ?_, ?_, ?_, ?_, ?_, ?_, ?_, ?_⟩ <;> first | (simp [go_sem]; done) | (simp; omega))
  have fz : Hid (∀ o, W.frozen? ⟨w.heap.size + 1, o, none⟩ = false) := by intro o; subst hW; simp [go_sem]
  have fy : Hid (∀ o, W.frozen? ⟨w.heap.size + 1 + 1, o, none⟩ = false) := by intro o; subst hW; simp [go_sem]
  have hw : Below w.heap.size w W := by subst hW; go_grown
  have hs3 : w.heap.size + 3 ≤ W.heap.size := by subst hW; simp
  clear hW
  refine (toAtom_any _ _ _ _ _ _ _ _).mono ?_
  rintro e w1 ⟨rfl, hb1⟩
  obtain ⟨x0, c0, c1, c2, c3, c4, c5, c6, c7, c8, c9⟩ := c10_on hx hb1
  obtain ⟨y0, d0, d1, d2, d3, d4, d5, d6, d7, d8, d9⟩ := c10_on hy hb1
  obtain ⟨z0, g0, g1, g2, g3, g4, g5, g6, g7, g8, g9⟩ := c10_on hz hb1
  have fz1 := fz7_on hz.1 fz hb1
  have fy1 := fz7_on hy.1 fy hb1
  have hw1 := below_on hw hb1
  have hs4 : w.heap.size + 3 ≤ w1.heap.size := Nat.le_trans hs3 hb1.size
  go_wp2_with fail
  generalize hW2 : World.setCell _ _ _ = W2
  have hy2 : C10 W2 (w.heap.size + 1 + 1) h (.slice none 0 0) := by subst hW2; refine ⟨?_, ?_, ?_, ?_, ?_, ?_, ?_, ?_, ?_, ?_, ?_⟩ <;> first | (simp [go_sem, *]; done) | (simp [World.setCell]; omega)
  have hz2 : C10 W2 (w.heap.size + 1) ⟨0, 0, 0, 0, 0, 0, 0, 0, 0⟩ (.slice none 0 0) := by subst hW2; refine ⟨?_, ?_, ?_, ?_, ?_, ?_, ?_, ?_, ?_, ?_, ?_⟩ <;> first | (simp [go_sem, *]; done) | (simp [World.setCell]; omega)
  have fy2 : Hid (∀ o, W2.frozen? ⟨w.heap.size + 1 + 1, o, none⟩ = false) := by intro o; subst hW2; simp [go_sem, fy1]
  have fz2 : Hid (∀ o, W2.frozen? ⟨w.heap.size + 1, o, none⟩ = false) := by intro o; subst hW2; simp [go_sem, fz1]
  have hw2 : Below w.heap.size w W2 := by subst hW2; go_grown
  clear hW2 x0 c0 c1 c2 c3 c4 c5 c6 c7 c8 c9 y0 d0 d1 d2 d3 d4 d5 d6 d7 d8 d9 z0 g0 g1 g2 g3 g4 g5 g6 g7 g8 g9 fz1 fy1
  refine (H.out W2 lo s hf (FS.below hw2 (Nat.le_refl _) HF.out)).mono ?_
  rintro e w3 ⟨s2, rfl, hs2, hns2, hb3⟩
  obtain ⟨sa, sn, sc, rfl⟩ := hs2.slice
  have HS2 := Lib.hid hs2
  have HN2 := Lib.hid hns2
  obtain ⟨y0, d0, d1, d2, d3, d4, d5, d6, d7, d8, d9⟩ := c10_on hy2 hb3
  obtain ⟨z0, g0, g1, g2, g3, g4, g5, g6, g7, g8, g9⟩ := c10_on hz2 hb3
  have fz3 : ∀ o, w3.frozen? ⟨w.heap.size + 1, o, none⟩ = false := fz7_on hz2.1 fz2 hb3
  have fy3 : ∀ o, w3.frozen? ⟨w.heap.size + 1 + 1, o, none⟩ = false := fz7_on hy2.1 fy2 hb3
  have hw3 := below_on hw2 hb3
  have hs5 : w.heap.size + 3 ≤ W2.heap.size := by have := hy2.1; omega
  clear hs2 hns2 hb3
  go_wp2
  refine bodyPost_ret (v := .agg #[.int .i64 h.k, .int .i64 h.ak, .int .i64 h.am, .int .i64 h.a, .int .i64 h.b, .int .i64 h.c, .int .i64 h.d, .int .i64 h.n, .int .i64 h.v, .slice sa sn sc]) (by simp [results, Try.results22, go_sem, g0, g1, g2, g3, g4, g5, g6, g7, g8, g9]) rfl ⟨_, rfl, ?_, ?_, ?_⟩
  · refine FS.mono (lo := W2.heap.size) (by omega) (FS.kept (by simp [World.setCell]) (fun k hk _ => ?_) HS2.out)
    repeat rw [Below.heap_setCell _ _ _ _ (by dsimp only; omega)]
  · refine NS.mono (by omega) (by simp [World.setCell]) (NS.same (fun k hk _ => ?_) HN2.out)
    repeat rw [Below.heap_setCell _ _ _ _ (by dsimp only; omega)]
  · go_grown

theorem tS_any2 (f : Fo) : TS2 f := by
  have key : ∀ N (f : Fo), f.size ≤ N → TS2 f := by
    intro N
    induction N with
    | zero => intro f hf; exact tS_of2 fun h s hs => absurd hs (by omega)
    | succ N ih => intro f hf; exact tS_of2 fun h s hs => tF_of2 (ih s (by omega))
  exact key f.size f (Nat.le_refl _)
theorem tF_any2 (h : FH) (f : Fo) : TF2 h f := tF_of2 (tS_any2 f)

end Go.Proofs.Ytahilpccnabbgaa
