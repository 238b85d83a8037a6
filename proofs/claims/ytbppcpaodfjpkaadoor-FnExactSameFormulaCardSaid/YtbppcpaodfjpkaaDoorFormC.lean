/- Contracts of toFormulaS, toFormula: a copy in new memory. -/
import Derived.Test.YtbppcpaodfjpkaaDoorFormB
import Derived.Test.YtbppcpaodfjpkaaDoorDr1
import Derived.Laws.OwnMore
namespace Go.Proofs.YtbppcpaodfjpkaaDoor
open Go.RowKit

def Fo.app : Fo → Fo → Fo
  | .nil, g => g
  | .cons h s r, g => .cons h s (r.app g)
theorem Fo.app_nil (f : Fo) : f.app .nil = f := by
  induction f with
  | nil => rfl
  | cons h s r _ ih => simp only [Fo.app, ih]
theorem Fo.app_assoc (f g k : Fo) : (f.app g).app k = f.app (g.app k) := by
  induction f with
  | nil => rfl
  | cons h s r _ ih => simp only [Fo.app, ih]
theorem Fo.app_len (f g : Fo) : (f.app g).len = f.len + g.len := by
  induction f with
  | nil => simp [Fo.app, Fo.len]
  | cons h s r _ ih => simp only [Fo.app, Fo.len, ih]; omega
theorem FEl.app {w : World} {lo b : Nat} : ∀ (f g : Fo) (o : Nat), FEl w lo f b o → FEl w lo g b (o + f.len * 10) → FEl w lo (f.app g) b o := by
  intro f
  induction f with
  | nil => intro g o _ h; simpa [Fo.app, Fo.len] using h
  | cons h s r _ ih =>
    intro g o hf hg
    refine ⟨hf.1, ih g (o + 10) hf.2 ?_⟩
    have e : o + (Fo.cons h s r).len * 10 = o + 10 + r.len * 10 := by simp only [Fo.len]; omega
    rwa [e] at hg

/-- A store into block B0 behind the rows of f leaves these and what lies in later blocks. -/
theorem FEl.stored {w w' : World} {B0 : Nat} (hs : w.heap.size ≤ w'.heap.size) (hk : ∀ k, k ≠ B0 → k < w.heap.size → w'.heap[k]? = w.heap[k]?) :
    ∀ (f : Fo) (o n : Nat), (∀ j, j < n → w'.cell? ⟨B0, j, none⟩ = w.cell? ⟨B0, j, none⟩) → o + f.len * 10 ≤ n → FEl w (B0 + 1) f B0 o → FEl w' (B0 + 1) f B0 o := by
  intro f
  induction f with
  | nil => intro _ _ _ _ _; trivial
  | cons h s r _ ih =>
    intro o n hc hn hf
    obtain ⟨⟨sl, hr, hsl⟩, hrest⟩ := hf
    simp only [Fo.len] at hn
    refine ⟨⟨sl, ?_, ?_⟩, ih (o + 10) n hc (by omega) hrest⟩
    · obtain ⟨r0, r1, r2, r3, r4, r5, r6, r7, r8, r9⟩ := hr
      exact ⟨(hc _ (by omega)).trans r0, (hc _ (by omega)).trans r1, (hc _ (by omega)).trans r2, (hc _ (by omega)).trans r3, (hc _ (by omega)).trans r4, (hc _ (by omega)).trans r5, (hc _ (by omega)).trans r6, (hc _ (by omega)).trans r7, (hc _ (by omega)).trans r8, (hc _ (by omega)).trans r9⟩
    · rcases hsl with h0 | ⟨h0, b', o', cap, e, h1, h2, h3, h4, h5⟩
      · exact .inl h0
      · exact .inr ⟨h0, b', o', cap, e, h1, h2, h3, Nat.lt_of_lt_of_le h4 hs, FEl.kept hs (fun k hk1 hk2 => hk k (by omega) hk2) s b' o' h3 h4 h5⟩

theorem cell_set (w : World) (b o : Nat) (u : Value) (o' : Nat) (h : o' ≠ o) : (w.setCell ⟨b, o, none⟩ u).cell? ⟨b, o', none⟩ = w.cell? ⟨b, o', none⟩ :=
  World.cell?_setCell_other w ⟨b, o, none⟩ ⟨b, o', none⟩ u (fun e => h (by simpa using (congrArg Addr.off e).symm))

theorem put10 {w : World} {base E B0 n cap k : Nat} {xs : List Value} (v0 v1 v2 v3 v4 v5 v6 v7 v8 v9 : Value) (own : w.ownsRow base E 10 (.slice (some ⟨B0, 0, none⟩) n cap) n xs) (hk : k < n) {W : World}
    (hW : ((((((((((w.setCell ⟨B0, k * 10, none⟩ v0).setCell ⟨B0, k * 10 + 1, none⟩ v1).setCell ⟨B0, k * 10 + 2, none⟩ v2).setCell ⟨B0, k * 10 + 3, none⟩ v3).setCell ⟨B0, k * 10 + 4, none⟩ v4).setCell ⟨B0, k * 10 + 5, none⟩ v5).setCell ⟨B0, k * 10 + 6, none⟩ v6).setCell ⟨B0, k * 10 + 7, none⟩ v7).setCell ⟨B0, k * 10 + 8, none⟩ v8).setCell ⟨B0, k * 10 + 9, none⟩ v9) = W) :
    (∃ xs', W.ownsRow base E 10 (.slice (some ⟨B0, 0, none⟩) n cap) n xs') ∧ (∀ B, B ≤ B0 → Below B w W) ∧ w.heap.size ≤ W.heap.size ∧ (∀ b, b ≠ B0 → b < w.heap.size → W.heap[b]? = w.heap[b]?) ∧ (∀ j, j < k * 10 → W.cell? ⟨B0, j, none⟩ = w.cell? ⟨B0, j, none⟩) ∧
      W.cell? ⟨B0, k * 10, none⟩ = some v0 ∧ W.cell? ⟨B0, k * 10 + 1, none⟩ = some v1 ∧ W.cell? ⟨B0, k * 10 + 2, none⟩ = some v2 ∧ W.cell? ⟨B0, k * 10 + 3, none⟩ = some v3 ∧ W.cell? ⟨B0, k * 10 + 4, none⟩ = some v4 ∧
      W.cell? ⟨B0, k * 10 + 5, none⟩ = some v5 ∧ W.cell? ⟨B0, k * 10 + 6, none⟩ = some v6 ∧ W.cell? ⟨B0, k * 10 + 7, none⟩ = some v7 ∧ W.cell? ⟨B0, k * 10 + 8, none⟩ = some v8 ∧ W.cell? ⟨B0, k * 10 + 9, none⟩ = some v9 := by
  have o1 := own.stored (k * 10) v0
  have o2 := o1.1.stored (k * 10 + 1) v1
  have o3 := o2.1.stored (k * 10 + 2) v2
  have o4 := o3.1.stored (k * 10 + 3) v3
  have o5 := o4.1.stored (k * 10 + 4) v4
  have o6 := o5.1.stored (k * 10 + 5) v5
  have o7 := o6.1.stored (k * 10 + 6) v6
  have o8 := o7.1.stored (k * 10 + 7) v7
  have o9 := o8.1.stored (k * 10 + 8) v8
  have o10 := o9.1.stored (k * 10 + 9) v9
  rw [hW] at o10
  have hl := own.1
  have g : ∀ j, j < n * 10 → W.cell? ⟨B0, j, none⟩ = _ := fun j hj => o10.1.cellAt j hj
  refine ⟨⟨_, o10.1⟩, ?_, ?_, ?_, ?_, ?_⟩
  · intro B hB
    subst hW
    exact (((((((((((Below.refl B w).setCell hB v0).setCell hB v1).setCell hB v2).setCell hB v3).setCell hB v4).setCell hB v5).setCell hB v6).setCell hB v7).setCell hB v8).setCell hB v9)
  · subst hW; simp [World.setCell]
  · intro b hb _
    subst hW
    iterate 9 rw [Below.heap_setCell _ _ _ _ hb]
    rw [Below.heap_setCell _ _ _ _ hb]
  · intro j hj
    subst hW
    repeat rw [cell_set _ _ _ _ _ (by omega)]
  · refine ⟨?_, ?_, ?_, ?_, ?_, ?_, ?_, ?_, ?_, ?_⟩ <;> rw [g _ (by omega)] <;> simp [hl, List.getElem?_set] <;> omega

theorem Tryd.infoForm : (Tryd.prog.info? 36).map (fun i => (i.zero, i.size, i.bytes)) = some (some (.agg #[.int .i64 0, .int .i64 0, .int .i64 0, .int .i64 0, .int .i64 0, .int .i64 0, .int .i64 0, .int .i64 0, .int .i64 0, .slice none 0 0]), 10, 96) := by kernel_rfl

theorem FS.kept {w w' : World} {lo : Nat} {f : Fo} {s : Value} (hs : w.heap.size ≤ w'.heap.size) (hk : ∀ k, lo ≤ k → k < w.heap.size → w'.heap[k]? = w.heap[k]?) (h : FS w lo f s) : FS w' lo f s := by
  rcases h with h0 | ⟨h0, b', o', cap, e, h1, h2, h3, h4, h5⟩
  · exact .inl h0
  · exact .inr ⟨h0, b', o', cap, e, h1, h2, h3, Nat.lt_of_lt_of_le h4 hs, FEl.kept hs hk f b' o' h3 h4 h5⟩

theorem FS.slice {w : World} {lo : Nat} {f : Fo} {s : Value} (h : FS w lo f s) : ∃ a l c, s = .slice a l c := by
  rcases h with ⟨_, x, cap, e, _⟩ | ⟨_, b, o, cap, e, _⟩
  · exact ⟨_, _, _, e⟩
  · exact ⟨_, _, _, e⟩

def TsPost (f : Fo) (w : World) (e : Ending) (w' : World) : Prop := ∃ s', e = .returned s' ∧ FS w' w.heap.size f s' ∧ Below w.heap.size w w'
def TfPost (h : FH) (f : Fo) (w : World) (e : Ending) (w' : World) : Prop := ∃ s', e = .returned (.agg #[.int .i64 h.k, .int .i64 h.ak, .int .i64 h.am, .int .i64 h.a, .int .i64 h.b, .int .i64 h.c, .int .i64 h.d, .int .i64 h.n, .int .i64 h.v, s']) ∧ FS w' w.heap.size f s' ∧ Below w.heap.size w w'

def TS (f : Fo) : Prop := ∀ (w : World) (lo : Nat) (s : Value), f.size ≤ 1048576 → FS w lo f s → Calls Tryd.prog 25 #[s] w (TsPost f w)
def TF (h : FH) (f : Fo) : Prop := ∀ (w : World) (lo : Nat) (s : Value), f.size ≤ 1048576 → FS w lo f s → Calls Tryd.prog 8 #[.agg #[.int .i64 h.k, .int .i64 h.ak, .int .i64 h.am, .int .i64 h.a, .int .i64 h.b, .int .i64 h.c, .int .i64 h.d, .int .i64 h.n, .int .i64 h.v, s]] w (TfPost h f w)

def TsR (f : Fo) (b o lo : Nat) (w : World) (i : Value) (wr : World) : Prop :=
  ∃ (k : Nat) (pre r : Fo) (xs : List Value), i = .int .i64 k ∧ pre.len = k ∧ k + r.len = f.len ∧ r.size ≤ f.size ∧ pre.app r = f ∧ FEl w lo r b (o + k * 10) ∧ FEl wr (w.heap.size + 1) pre w.heap.size 0 ∧
    wr.ownsRow w.heap.size 36 10 (.slice (some ⟨w.heap.size, 0, none⟩) f.len f.len) f.len xs ∧ Below w.heap.size w wr

set_option maxHeartbeats 1000000 in
theorem tS_of {f : Fo} (HF : ∀ h s, s.size < f.size → TF h s) : TS f := by
  intro w lo s hf hs
  have H := Lib.hid HF
  clear HF
  obtain ⟨i0, hi, hz0, hz1, hz2⟩ := info_parts Tryd.infoForm
  rcases hs with ⟨h0, x, cap, rfl, _, _⟩ | ⟨h0, b, o, cap, rfl, hc1, hc2, hlo, hb, hel⟩
  · obtain rfl : f = .nil := Fo.len_zero h0
    clear h0
    obtain ⟨w1, hr, _, hg⟩ := run_make_full (P := Tryd.prog) w w.heap.size 34 36 i0 _ 10 Tryd.underlying34 hi hz0 hz1 .i64 .i64 0 (by simp) (by simp [maxLen]) (Nat.le_refl _)
    have HG := Lib.hid hg
    simp only [Int.cast_ofNat_Int] at hr
    clear hg
    go_enter Tryd.func25, Tryd.ntmps25
    go_wp2
    refine wp_loop_rounds 1 ?_
    rw [rounds_succ]
    go_wp2
    go_ret
    exact ⟨_, rfl, .inl ⟨rfl, _, _, rfl, Nat.le_refl _, Nat.zero_le _⟩, (Below.refl _ _).grown HG.out (Nat.le_refl _) (by simp)⟩
  · have hlen := Fo.len_le f
    obtain ⟨w1, hr, hown, hg⟩ := run_make_full (P := Tryd.prog) w w.heap.size 34 36 i0 _ 10 Tryd.underlying34 hi hz0 hz1 .i64 .i64 f.len (by rw [hz2]; omega) (by unfold maxLen; omega) (Nat.le_refl _)
    have hbw1 : Below w.heap.size w w1 := (Below.refl _ _).grown hg (Nat.le_refl _) (by simp)
    have HST := Lib.hid (show TsR f b o lo w (.int .i64 0) w1 from ⟨0, .nil, f, _, rfl, rfl, by omega, Nat.le_refl _, rfl, by simpa using hel, trivial, hown, hbw1⟩)
    unfold maxLen at hc2
    clear hel hown hg hbw1 hi hz0 hz1 hz2
    go_enter Tryd.func25, Tryd.ntmps25
    go_wp2
    go_loopw [4] (fun i wr => TsR f b o lo w i wr) (fun i _ => f.len - (intOf i).toNat)
    case atStart => exact HST.out
    case round =>
      obtain ⟨k, pre, r, xs, rfl, hpl, hk, hdr, hap, hr, hpre, hown, hbw⟩ := hrel
      clear HST
      have HAP := Lib.hid hap
      have HPL := Lib.hid hpl
      clear hap hpl
      cases r with
      | nil =>
        simp only [Fo.len] at hk
        have hkl : ¬ k < f.len := by omega
        have HO := Lib.hid hown
        have HP := Lib.hid hpre
        clear hown hpre
        go_wp2
        go_ret
        have e := HAP.out
        rw [Fo.app_nil] at e
        rw [e] at HP
        refine ⟨_, rfl, .inr ⟨h0, _, _, _, rfl, Nat.le_refl _, by unfold maxLen; omega, Nat.le_refl _, (HO.out.lt w.heap.size rfl).2, FEl.mono (by omega) _ _ _ HP.out⟩, hbw⟩
      | cons h' s' r' =>
        simp only [Fo.len] at hk
        simp only [Fo.size] at hdr
        have hkl : k < f.len := by omega
        have HR := Lib.hid hr.2
        obtain ⟨⟨sl, hrow, hsl⟩, _⟩ := FEl.below hbw (Nat.le_refl _) hlo hb hr
        clear hr
        have HC := Lib.hid (H.out h' s' (by omega) wr lo sl (by omega) hsl)
        have HB := Lib.hid hbw
        have HO := Lib.hid hown
        have HP := Lib.hid hpre
        have hB0 : w.heap.size < wr.heap.size := (hown.lt w.heap.size rfl).2
        obtain ⟨c0, c1, c2, c3, c4, c5, c6, c7, c8, c9⟩ := hrow
        clear hsl hbw hown hpre
        go_wp2_with fail
        refine HC.out.mono ?_
        rintro e w2 ⟨s2, rfl, hs2, hb2⟩
        obtain ⟨sa, sn, sc, rfl⟩ := hs2.slice
        have HS2 := Lib.hid hs2
        have hown2 := own_below (show wr.ownsRow w.heap.size 36 10 _ f.len xs from HO.out) hb2
        have HO2 := Lib.hid hown2
        have hl2 := hown2.1
        obtain ⟨x0, hx0⟩ : ∃ x, w2.cell? ⟨w.heap.size, k * 10, none⟩ = some x := ⟨_, (hown2.cellAt (k * 10) (by omega)).trans (List.getElem?_eq_getElem (by omega))⟩
        obtain ⟨x1, hx1⟩ : ∃ x, w2.cell? ⟨w.heap.size, k * 10 + 1, none⟩ = some x := ⟨_, (hown2.cellAt (k * 10 + 1) (by omega)).trans (List.getElem?_eq_getElem (by omega))⟩
        obtain ⟨x2, hx2⟩ : ∃ x, w2.cell? ⟨w.heap.size, k * 10 + 2, none⟩ = some x := ⟨_, (hown2.cellAt (k * 10 + 2) (by omega)).trans (List.getElem?_eq_getElem (by omega))⟩
        obtain ⟨x3, hx3⟩ : ∃ x, w2.cell? ⟨w.heap.size, k * 10 + 3, none⟩ = some x := ⟨_, (hown2.cellAt (k * 10 + 3) (by omega)).trans (List.getElem?_eq_getElem (by omega))⟩
        obtain ⟨x4, hx4⟩ : ∃ x, w2.cell? ⟨w.heap.size, k * 10 + 4, none⟩ = some x := ⟨_, (hown2.cellAt (k * 10 + 4) (by omega)).trans (List.getElem?_eq_getElem (by omega))⟩
        obtain ⟨x5, hx5⟩ : ∃ x, w2.cell? ⟨w.heap.size, k * 10 + 5, none⟩ = some x := ⟨_, (hown2.cellAt (k * 10 + 5) (by omega)).trans (List.getElem?_eq_getElem (by omega))⟩
        obtain ⟨x6, hx6⟩ : ∃ x, w2.cell? ⟨w.heap.size, k * 10 + 6, none⟩ = some x := ⟨_, (hown2.cellAt (k * 10 + 6) (by omega)).trans (List.getElem?_eq_getElem (by omega))⟩
        obtain ⟨x7, hx7⟩ : ∃ x, w2.cell? ⟨w.heap.size, k * 10 + 7, none⟩ = some x := ⟨_, (hown2.cellAt (k * 10 + 7) (by omega)).trans (List.getElem?_eq_getElem (by omega))⟩
        obtain ⟨x8, hx8⟩ : ∃ x, w2.cell? ⟨w.heap.size, k * 10 + 8, none⟩ = some x := ⟨_, (hown2.cellAt (k * 10 + 8) (by omega)).trans (List.getElem?_eq_getElem (by omega))⟩
        obtain ⟨x9, hx9⟩ : ∃ x, w2.cell? ⟨w.heap.size, k * 10 + 9, none⟩ = some x := ⟨_, (hown2.cellAt (k * 10 + 9) (by omega)).trans (List.getElem?_eq_getElem (by omega))⟩
        have hfz := fun o => hown2.frozenAt o
        have HP2 := Lib.hid (FEl.stored hb2.size (fun j _ hj => hb2.block j hj) pre 0 (pre.len * 10) (fun j _ => (bcell hb2).1 _ _ hB0) (by omega) HP.out)
        have HB2 := Lib.hid (below_on HB.out hb2)
        have hsz2 := hb2.size
        clear c0 c1 c2 c3 c4 c5 c6 c7 c8 c9 hs2 hown2 hb2 hl2
        go_wp2_with fail
        generalize hW2 : World.setCell _ _ _ = W2
        obtain ⟨⟨ys, ho⟩, hbl, hsz, hoth, hpr, g0, g1, g2, g3, g4, g5, g6, g7, g8, g9⟩ := put10 _ _ _ _ _ _ _ _ _ _ HO2.out hkl hW2
        have HO3 := Lib.hid ho
        have HB3 := Lib.hid (HB2.out.trans (hbl w.heap.size (Nat.le_refl _)))
        have HP3 := Lib.hid (FEl.stored hsz hoth pre 0 (k * 10) hpr (by rw [HPL.out]; omega) HP2.out)
        have HS3 := Lib.hid (show FS W2 (w.heap.size + 1) s' (.slice sa sn sc) from
          FS.mono (by omega) (FS.kept hsz (fun j hj1 hj2 => hoth j (by omega) hj2) HS2.out))
        clear hW2 ho hbl hsz hoth hpr hx0 hx1 hx2 hx3 hx4 hx5 hx6 hx7 hx8 hx9 hfz
        have HG := Lib.hid (show FRow W2 w.heap.size (k * 10) h' (.slice sa sn sc) from ⟨g0, g1, g2, g3, g4, g5, g6, g7, g8, g9⟩)
        clear g0 g1 g2 g3 g4 g5 g6 g7 g8 g9
        go_wp2
        go_roundw
        case rel => exact ⟨k + 1, pre.app (.cons h' s' .nil), r', _, by go_num, by rw [Fo.app_len, HPL.out]; rfl, by omega, by omega, by rw [Fo.app_assoc]; exact HAP.out, by rw [show o + (k + 1) * 10 = o + k * 10 + 10 by omega]; exact HR.out, FEl.app _ _ _ HP3.out (by rw [HPL.out]; exact ⟨⟨_, by rw [Nat.zero_add]; exact HG.out, HS3.out⟩, trivial⟩), HO3.out, HB3.out⟩
        case measure => simp [intOf]; omega

set_option maxHeartbeats 1000000 in
theorem tF_of {h : FH} {f : Fo} (HS : TS f) : TF h f := by
  intro w lo s hf hs
  have H := Lib.hid HS
  have HF := Lib.hid hs
  clear HS hs
  go_enter Tryd.func8, Tryd.ntmps8
  go_wp2_with fail
  generalize hW : World.alloc _ _ = W
  have hx : C10 W w.heap.size h s := by subst hW; exact (by refine ⟨?_, ?_, ?_, ?_, ?_, ?_, ?_, ?_, ?_, ?_, ?_⟩ <;> first | (simp [go_sem]; done) | (simp; omega))
  have hz : C10 W (w.heap.size + 1) ⟨0, 0, 0, 0, 0, 0, 0, 0, 0⟩ (.slice none 0 0) := by subst hW; exact (by refine ⟨?_, ?_, ?_, ?_, ?_, ?_, ?_, ?_, ?_, ?_, ?_⟩ <;> first | (simp [go_sem]; done) | (simp; omega))
  have hy : C10 W (w.heap.size + 1 + 1) ⟨h.k, 0, 0, 0, 0, 0, 0, 0, 0⟩ (.slice none 0 0) := by subst hW; exact (by refine ⟨?_, ?_, ?_, ?_, ?_, ?_, ?_, ?_, ?_, ?_, ?_⟩ <;> first | (simp [go_sem]; done) | (simp; omega))
  have fz : Hid (∀ o, W.frozen? ⟨w.heap.size + 1, o, none⟩ = false) := by intro o; subst hW; simp [go_sem]
  have fy : Hid (∀ o, W.frozen? ⟨w.heap.size + 1 + 1, o, none⟩ = false) := by intro o; subst hW; simp [go_sem]
  have hw : Below w.heap.size w W := by subst hW; go_grown
  have hs3 : w.heap.size + 3 ≤ W.heap.size := by subst hW; simp
  clear hW
  refine (toAtom_any _ _ _ _ _ _ _ _).mono ?_
  rintro e w1 ⟨rfl, hb1⟩
  obtain ⟨x0, c0, c1, c2, c3, c4, c5, c6, c7, c8, c9⟩ := c10_on hx hb1
  obtain ⟨y0, d0, d1, d2, d3, d4, d5, d6, d7, d8, d9⟩ := c10_on hy hb1
  obtain ⟨z0, g0, g1, g2, g3, g4, g5, g6, g7, g8, g9⟩ := c10_on hz hb1
  have fz1 := fz7_on hz.1 fz hb1
  have fy1 := fz7_on hy.1 fy hb1
  have hw1 := below_on hw hb1
  have hs4 : w.heap.size + 3 ≤ w1.heap.size := Nat.le_trans hs3 hb1.size
  go_wp2_with fail
  generalize hW2 : World.setCell _ _ _ = W2
  have hy2 : C10 W2 (w.heap.size + 1 + 1) h (.slice none 0 0) := by subst hW2; refine ⟨?_, ?_, ?_, ?_, ?_, ?_, ?_, ?_, ?_, ?_, ?_⟩ <;> first | (simp [go_sem, *]; done) | (simp [World.setCell]; omega)
  have hz2 : C10 W2 (w.heap.size + 1) ⟨0, 0, 0, 0, 0, 0, 0, 0, 0⟩ (.slice none 0 0) := by subst hW2; refine ⟨?_, ?_, ?_, ?_, ?_, ?_, ?_, ?_, ?_, ?_, ?_⟩ <;> first | (simp [go_sem, *]; done) | (simp [World.setCell]; omega)
  have fy2 : Hid (∀ o, W2.frozen? ⟨w.heap.size + 1 + 1, o, none⟩ = false) := by intro o; subst hW2; simp [go_sem, fy1]
  have fz2 : Hid (∀ o, W2.frozen? ⟨w.heap.size + 1, o, none⟩ = false) := by intro o; subst hW2; simp [go_sem, fz1]
  have hw2 : Below w.heap.size w W2 := by subst hW2; go_grown
  clear hW2 x0 c0 c1 c2 c3 c4 c5 c6 c7 c8 c9 y0 d0 d1 d2 d3 d4 d5 d6 d7 d8 d9 z0 g0 g1 g2 g3 g4 g5 g6 g7 g8 g9 fz1 fy1
  refine (H.out W2 lo s hf (FS.below hw2 (Nat.le_refl _) HF.out)).mono ?_
  rintro e w3 ⟨s2, rfl, hs2, hb3⟩
  obtain ⟨sa, sn, sc, rfl⟩ := hs2.slice
  have HS2 := Lib.hid hs2
  obtain ⟨y0, d0, d1, d2, d3, d4, d5, d6, d7, d8, d9⟩ := c10_on hy2 hb3
  obtain ⟨z0, g0, g1, g2, g3, g4, g5, g6, g7, g8, g9⟩ := c10_on hz2 hb3
  have fz3 : ∀ o, w3.frozen? ⟨w.heap.size + 1, o, none⟩ = false := fz7_on hz2.1 fz2 hb3
  have fy3 : ∀ o, w3.frozen? ⟨w.heap.size + 1 + 1, o, none⟩ = false := fz7_on hy2.1 fy2 hb3
  have hw3 := below_on hw2 hb3
  have hs5 : w.heap.size + 3 ≤ W2.heap.size := by have := hy2.1; omega
  clear hs2 hb3
  go_wp2
  refine bodyPost_ret (v := .agg #[.int .i64 h.k, .int .i64 h.ak, .int .i64 h.am, .int .i64 h.a, .int .i64 h.b, .int .i64 h.c, .int .i64 h.d, .int .i64 h.n, .int .i64 h.v, .slice sa sn sc]) (by simp [results, Tryd.results8, go_sem, g0, g1, g2, g3, g4, g5, g6, g7, g8, g9]) rfl ⟨_, rfl, ?_, ?_⟩
  · refine FS.mono (lo := W2.heap.size) (by omega) (FS.kept (by simp [World.setCell]) (fun k hk _ => ?_) HS2.out)
    repeat rw [Below.heap_setCell _ _ _ _ (by dsimp only; omega)]
  · go_grown

theorem tS_any (f : Fo) : TS f := by
  have key : ∀ N (f : Fo), f.size ≤ N → TS f := by
    intro N
    induction N with
    | zero => intro f hf; exact tS_of fun h s hs => absurd hs (by omega)
    | succ N ih => intro f hf; exact tS_of fun h s hs => tF_of (ih s (by omega))
  exact key f.size f (Nat.le_refl _)
theorem tF_any (h : FH) (f : Fo) : TF h f := tF_of (tS_any f)

end Go.Proofs.YtbppcpaodfjpkaaDoor
