/- Several texts in one: NfY NfZ. -/
import Derived.Test.YtcgolbkpfncgpaaNfW
import Derived.Test.YtcgolbkpfncgpaaNfX
import Derived.Test.YtcgolbkpfncgpaaNv
import Derived.Deep.RegionHeld3
import Derived.Deep.DeepCutAuto

/- The contracts of the model's l4Subst and SubstFormula. -/
namespace Go.Proofs.Ytcgolbkpfncgpaa
open Go.RowKit

theorem lb_any (σ : SbD) (hσ : σ.ok) : ∀ (N : Nat) (h : FH) (f : Fo), f.size ≤ N → LbF σ h f := by
  have one : ∀ (h : FH) (f : Fo), (∀ h s, s.size < f.size → LbF σ h s) → LbF σ h f := by
    intro h f HF
    cases hf : fr1 h σ.v (f.fr σ.v) with
    | false => exact lb_not σ h f hf
    | true =>
      by_cases h2 : h.k = 2
      · exact lb_atom σ hσ h f h2 hf
      · cases hq : qB h.k with
        | false => exact lb_loop0 σ h f HF h2 hf hq
        | true =>
          by_cases hc : sel σ.a σ.b σ.c σ.d h.v 0 = 0
          · exact lb_loop1 σ h f HF h2 hf hq hc
          · exact lb_caught σ h f h2 hf hq hc
  intro N
  induction N with
  | zero => intro h f hf; exact one h f (fun _ _ h9 => absurd h9 (by omega))
  | succ N ih => intro h f hf; exact one h f (fun h' s' h9 => ih h' s' (by omega))

theorem specTermValid_b (σ : SbD) (t : Bool) (w : World) (ht : tvB σ.a σ.b σ.c σ.d σ.n = t) : Calls Try.prog 59 #[.agg #[.int .i64 σ.a, .int .i64 σ.b, .int .i64 σ.c, .int .i64 σ.d, .int .i64 σ.n]] w (BoolT t w) :=
  (specTermValid_is σ.a σ.b σ.c σ.d σ.n t w ht).mono fun _ _ hp => ⟨hp.1, by rw [← hp.2]; go_grown⟩

set_option maxRecDepth 10000 in
set_option maxHeartbeats 2000000 in
theorem rawSubst_novalid (σ : SbD) (h : FH) (f : Fo) (w : World) (lo : Nat) (s : Value) (hz : f.size ≤ 1048576) (hs : FS w lo f s) (hv : vfB h f = false) : Calls Try.prog 71 #[.agg #[.int .i64 h.k, .int .i64 h.ak, .int .i64 h.am, .int .i64 h.a, .int .i64 h.b, .int .i64 h.c, .int .i64 h.d, .int .i64 h.n, .int .i64 h.v, s], .int .i64 σ.v, .agg #[.int .i64 σ.a, .int .i64 σ.b, .int .i64 σ.c, .int .i64 σ.d, .int .i64 σ.n]] w (VnT w) := by
  have HO := Lib.hid (fun W hW => olF_any h f W lo s hz (FS.below (w := w) hW (Nat.le_refl _) hs))
  have HV := Lib.hid (fun W l t hs => specFormulaValid_any h f W l t hs)
  rw [hv] at HV
  obtain ⟨sa0, sn0, sc0, rfl⟩ := hs.slice
  clear hs hz hv
  go_enter Try.func71, Try.ntmps71
  go_wp2_with fail
  generalize hW : World.alloc _ _ = W
  have hw : Below w.heap.size w W := by subst hW; go_grown
  have hy : C10 W w.heap.size h (.slice sa0 sn0 sc0) := by subst hW; exact (by refine ⟨?_, ?_, ?_, ?_, ?_, ?_, ?_, ?_, ?_, ?_, ?_⟩ <;> first | (simp [go_sem]; done) | (simp; omega))
  have fy : ∀ o, W.frozen? ⟨w.heap.size, o, none⟩ = false := fun o => by subst hW; simp [go_sem]
  have hv : C5 W (w.heap.size + 1) σ.a σ.b σ.c σ.d σ.n := by subst hW; exact (by refine ⟨?_, ?_, ?_, ?_, ?_, ?_⟩ <;> first | (simp [go_sem]; done) | (simp; omega))
  have hx : C10 W (w.heap.size + 1 + 1) ⟨0, 0, 0, 0, 0, 0, 0, 0, 0⟩ (.slice none 0 0) := by subst hW; exact (by refine ⟨?_, ?_, ?_, ?_, ?_, ?_, ?_, ?_, ?_, ?_, ?_⟩ <;> first | (simp [go_sem]; done) | (simp; omega))
  have hf : ∀ o, W.frozen? ⟨w.heap.size + 1 + 1, o, none⟩ = false := fun o => by subst hW; simp [go_sem]
  have hws : w.heap.size + 1 + 1 < W.heap.size := hx.1
  clear hW
  refine (HO.out W hw).mono ?_
  rintro e w1 ⟨s1, rfl, hs1, hb1⟩
  obtain ⟨ra, rn, rc, rfl⟩ := hs1.slice
  have HS1 := Lib.hid (SF.fs (Nat.le_refl _) hs1)
  have hy1 := c10_on hy hb1
  have hx1 := c10_on hx hb1
  have hv1 := c5_on hv hb1
  have fy1 : ∀ o, w1.frozen? ⟨w.heap.size, o, none⟩ = false := fun o => ((bcell hb1).2 _ o hy.1).trans (fy o)
  have fx1 : ∀ o, w1.frozen? ⟨w.heap.size + 1 + 1, o, none⟩ = false := fun o => ((bcell hb1).2 _ o hx.1).trans (hf o)
  have hw1 := below_on hw hb1
  have hsw1 : W.heap.size ≤ w1.heap.size := hb1.size
  obtain ⟨x0, c0, c1, c2, c3, c4, c5, c6, c7, c8, c9⟩ := id hy1
  clear hs1 hb1 hx hy fy hf hw hv
  go_upto_region 2 with fail
  generalize hW2 : World.setCell _ _ _ = W2
  obtain ⟨hy2, hblk2, hsz2, hfz2⟩ := ten_set (g := h) hy1 hW2
  have hx2 := c10_block (Nat.le_of_eq hsz2.symm) (hblk2 (w.heap.size + 1 + 1) (by omega)) hx1
  have fx2 : ∀ o, W2.frozen? ⟨w.heap.size + 1 + 1, o, none⟩ = false := fun o => (hfz2 _ o).trans (fx1 o)
  have hv2 := c5_putb hv1 (by omega) hblk2 hsz2
  have hw2 := hw1.trans ((put10b (g := h) hy1 hW2).2 w.heap.size (Nat.le_refl _))
  have HS2 := Lib.hid (FS.kept (w' := W2) (Nat.le_of_eq hsz2.symm) (fun k hk _ => hblk2 k (by omega)) HS1.out)
  obtain ⟨y0, d0, d1, d2, d3, d4, d5, d6, d7, d8, d9⟩ := id hy2
  have hsw2 : W.heap.size ≤ W2.heap.size := by omega
  clear hW2 x0 c0 c1 c2 c3 c4 c5 c6 c7 c8 c9 hblk2 hx1 fx1 fy1 hw1 hy1 hsz2 hfz2 HS1 hv1
  go_wp2_with fail
  refine (HV.out W2 _ _ HS2.out).mono ?_
  rintro e w3 ⟨rfl, hb3⟩
  have hx3 := c10_on hx2 hb3
  have fx3 : ∀ o, w3.frozen? ⟨w.heap.size + 1 + 1, o, none⟩ = false := fun o => ((bcell hb3).2 _ o hx2.1).trans (fx2 o)
  have hv3 := c5_on hv2 hb3
  have hy3 := c10_on hy2 hb3
  have hw3 := below_on hw2 hb3
  have hsw3 : W.heap.size ≤ w3.heap.size := Nat.le_trans hsw2 hb3.size
  have HS3 := Lib.hid (FS.below hb3 (Nat.le_refl _) HS2.out)
  clear hx2 fx2 hw2 hb3 hy2 hv2 y0 d0 d1 d2 d3 d4 d5 d6 d7 d8 d9
  have hz4 := hx3
  have hw4 := hw3
  have fz4 := fx3
  obtain ⟨z0, e0, e1, e2, e3, e4, e5, e6, e7, e8, e9⟩ := id hz4
  go_upto_region 30 with fail
  generalize hW7 : World.setCell _ _ _ = W7
  obtain ⟨hz7, hk7, hs7, hf7⟩ := ten_set (g := ⟨0, 0, 0, 0, 0, 0, 0, 0, 0⟩) hz4 hW7
  have hw7 : Below w.heap.size w W7 := hw4.trans ((put10b (g := ⟨0, 0, 0, 0, 0, 0, 0, 0, 0⟩) hz4 hW7).2 w.heap.size (by omega))
  obtain ⟨y0, y1, y2, y3, y4, y5, y6, y7, y8, y9, y10⟩ := hz7
  clear hW7 hk7 hs7 hf7 z0 e0 e1 e2 e3 e4 e5 e6 e7 e8 e9
  go_wp2
  refine bodyPost_ret (v := .tuple #[.agg #[.int .i64 0, .int .i64 0, .int .i64 0, .int .i64 0, .int .i64 0, .int .i64 0, .int .i64 0, .int .i64 0, .int .i64 0, .slice none 0 0], .bool false]) (by simp [results, Try.results71, go_sem, y1, y2, y3, y4, y5, y6, y7, y8, y9, y10]) rfl ⟨rfl, hw7⟩

set_option maxRecDepth 10000 in
set_option maxHeartbeats 2000000 in
theorem rawSubst_noterm (σ : SbD) (h : FH) (f : Fo) (w : World) (lo : Nat) (s : Value) (hz : f.size ≤ 1048576) (hs : FS w lo f s) (hv : vfB h f = true) (ht : tvB σ.a σ.b σ.c σ.d σ.n = false) : Calls Try.prog 71 #[.agg #[.int .i64 h.k, .int .i64 h.ak, .int .i64 h.am, .int .i64 h.a, .int .i64 h.b, .int .i64 h.c, .int .i64 h.d, .int .i64 h.n, .int .i64 h.v, s], .int .i64 σ.v, .agg #[.int .i64 σ.a, .int .i64 σ.b, .int .i64 σ.c, .int .i64 σ.d, .int .i64 σ.n]] w (VnT w) := by
  have HO := Lib.hid (fun W hW => olF_any h f W lo s hz (FS.below (w := w) hW (Nat.le_refl _) hs))
  have HV := Lib.hid (fun W l t hs => specFormulaValid_any h f W l t hs)
  rw [hv] at HV
  have HT := Lib.hid (fun W => specTermValid_b σ false W ht)
  obtain ⟨sa0, sn0, sc0, rfl⟩ := hs.slice
  clear hs hz hv ht
  go_enter Try.func71, Try.ntmps71
  go_wp2_with fail
  generalize hW : World.alloc _ _ = W
  have hw : Below w.heap.size w W := by subst hW; go_grown
  have hy : C10 W w.heap.size h (.slice sa0 sn0 sc0) := by subst hW; exact (by refine ⟨?_, ?_, ?_, ?_, ?_, ?_, ?_, ?_, ?_, ?_, ?_⟩ <;> first | (simp [go_sem]; done) | (simp; omega))
  have fy : ∀ o, W.frozen? ⟨w.heap.size, o, none⟩ = false := fun o => by subst hW; simp [go_sem]
  have hv : C5 W (w.heap.size + 1) σ.a σ.b σ.c σ.d σ.n := by subst hW; exact (by refine ⟨?_, ?_, ?_, ?_, ?_, ?_⟩ <;> first | (simp [go_sem]; done) | (simp; omega))
  have hx : C10 W (w.heap.size + 1 + 1) ⟨0, 0, 0, 0, 0, 0, 0, 0, 0⟩ (.slice none 0 0) := by subst hW; exact (by refine ⟨?_, ?_, ?_, ?_, ?_, ?_, ?_, ?_, ?_, ?_, ?_⟩ <;> first | (simp [go_sem]; done) | (simp; omega))
  have hf : ∀ o, W.frozen? ⟨w.heap.size + 1 + 1, o, none⟩ = false := fun o => by subst hW; simp [go_sem]
  have hws : w.heap.size + 1 + 1 < W.heap.size := hx.1
  clear hW
  refine (HO.out W hw).mono ?_
  rintro e w1 ⟨s1, rfl, hs1, hb1⟩
  obtain ⟨ra, rn, rc, rfl⟩ := hs1.slice
  have HS1 := Lib.hid (SF.fs (Nat.le_refl _) hs1)
  have hy1 := c10_on hy hb1
  have hx1 := c10_on hx hb1
  have hv1 := c5_on hv hb1
  have fy1 : ∀ o, w1.frozen? ⟨w.heap.size, o, none⟩ = false := fun o => ((bcell hb1).2 _ o hy.1).trans (fy o)
  have fx1 : ∀ o, w1.frozen? ⟨w.heap.size + 1 + 1, o, none⟩ = false := fun o => ((bcell hb1).2 _ o hx.1).trans (hf o)
  have hw1 := below_on hw hb1
  have hsw1 : W.heap.size ≤ w1.heap.size := hb1.size
  obtain ⟨x0, c0, c1, c2, c3, c4, c5, c6, c7, c8, c9⟩ := id hy1
  clear hs1 hb1 hx hy fy hf hw hv
  go_upto_region 2 with fail
  generalize hW2 : World.setCell _ _ _ = W2
  obtain ⟨hy2, hblk2, hsz2, hfz2⟩ := ten_set (g := h) hy1 hW2
  have hx2 := c10_block (Nat.le_of_eq hsz2.symm) (hblk2 (w.heap.size + 1 + 1) (by omega)) hx1
  have fx2 : ∀ o, W2.frozen? ⟨w.heap.size + 1 + 1, o, none⟩ = false := fun o => (hfz2 _ o).trans (fx1 o)
  have hv2 := c5_putb hv1 (by omega) hblk2 hsz2
  have hw2 := hw1.trans ((put10b (g := h) hy1 hW2).2 w.heap.size (Nat.le_refl _))
  have HS2 := Lib.hid (FS.kept (w' := W2) (Nat.le_of_eq hsz2.symm) (fun k hk _ => hblk2 k (by omega)) HS1.out)
  obtain ⟨y0, d0, d1, d2, d3, d4, d5, d6, d7, d8, d9⟩ := id hy2
  have hsw2 : W.heap.size ≤ W2.heap.size := by omega
  clear hW2 x0 c0 c1 c2 c3 c4 c5 c6 c7 c8 c9 hblk2 hx1 fx1 fy1 hw1 hy1 hsz2 hfz2 HS1 hv1
  go_wp2_with fail
  refine (HV.out W2 _ _ HS2.out).mono ?_
  rintro e w3 ⟨rfl, hb3⟩
  have hx3 := c10_on hx2 hb3
  have fx3 : ∀ o, w3.frozen? ⟨w.heap.size + 1 + 1, o, none⟩ = false := fun o => ((bcell hb3).2 _ o hx2.1).trans (fx2 o)
  have hv3 := c5_on hv2 hb3
  have hy3 := c10_on hy2 hb3
  have hw3 := below_on hw2 hb3
  have hsw3 : W.heap.size ≤ w3.heap.size := Nat.le_trans hsw2 hb3.size
  have HS3 := Lib.hid (FS.below hb3 (Nat.le_refl _) HS2.out)
  clear hx2 fx2 hw2 hb3 hy2 hv2 y0 d0 d1 d2 d3 d4 d5 d6 d7 d8 d9
  obtain ⟨j0, j1, j2, j3, j4, j5⟩ := id hv3
  go_wp2_with fail
  refine (HT.out w3).mono ?_
  rintro e w5 ⟨rfl, hb5⟩
  have hx5 := c10_on hx3 hb5
  have fx5 : ∀ o, w5.frozen? ⟨w.heap.size + 1 + 1, o, none⟩ = false := fun o => ((bcell hb5).2 _ o hx3.1).trans (fx3 o)
  have hv5 := c5_on hv3 hb5
  have hy5 := c10_on hy3 hb5
  have hw5 := below_on hw3 hb5
  have hsw5 : W.heap.size ≤ w5.heap.size := Nat.le_trans hsw3 hb5.size
  have HS5 := Lib.hid (FS.below hb5 (Nat.le_refl _) HS3.out)
  clear hx3 fx3 hw3 hb5 hy3 hv3 j0 j1 j2 j3 j4 j5
  have hz4 := hx5
  have hw4 := hw5
  have fz4 := fx5
  obtain ⟨z0, e0, e1, e2, e3, e4, e5, e6, e7, e8, e9⟩ := id hz4
  go_upto_region 30 with fail
  generalize hW7 : World.setCell _ _ _ = W7
  obtain ⟨hz7, hk7, hs7, hf7⟩ := ten_set (g := ⟨0, 0, 0, 0, 0, 0, 0, 0, 0⟩) hz4 hW7
  have hw7 : Below w.heap.size w W7 := hw4.trans ((put10b (g := ⟨0, 0, 0, 0, 0, 0, 0, 0, 0⟩) hz4 hW7).2 w.heap.size (by omega))
  obtain ⟨y0, y1, y2, y3, y4, y5, y6, y7, y8, y9, y10⟩ := hz7
  clear hW7 hk7 hs7 hf7 z0 e0 e1 e2 e3 e4 e5 e6 e7 e8 e9
  go_wp2
  refine bodyPost_ret (v := .tuple #[.agg #[.int .i64 0, .int .i64 0, .int .i64 0, .int .i64 0, .int .i64 0, .int .i64 0, .int .i64 0, .int .i64 0, .int .i64 0, .slice none 0 0], .bool false]) (by simp [results, Try.results71, go_sem, y1, y2, y3, y4, y5, y6, y7, y8, y9, y10]) rfl ⟨rfl, hw7⟩

set_option maxRecDepth 10000 in
set_option maxHeartbeats 2000000 in
theorem rawSubst_novar (σ : SbD) (h : FH) (f : Fo) (w : World) (lo : Nat) (s : Value) (hz : f.size ≤ 1048576) (hs : FS w lo f s) (hv : vfB h f = true) (ht : tvB σ.a σ.b σ.c σ.d σ.n = true) (hvv : varB σ.v = false) : Calls Try.prog 71 #[.agg #[.int .i64 h.k, .int .i64 h.ak, .int .i64 h.am, .int .i64 h.a, .int .i64 h.b, .int .i64 h.c, .int .i64 h.d, .int .i64 h.n, .int .i64 h.v, s], .int .i64 σ.v, .agg #[.int .i64 σ.a, .int .i64 σ.b, .int .i64 σ.c, .int .i64 σ.d, .int .i64 σ.n]] w (VnT w) := by
  have HO := Lib.hid (fun W hW => olF_any h f W lo s hz (FS.below (w := w) hW (Nat.le_refl _) hs))
  have HV := Lib.hid (fun W l t hs => specFormulaValid_any h f W l t hs)
  rw [hv] at HV
  have HT := Lib.hid (fun W => specTermValid_b σ true W ht)
  have HI := Lib.hid (fun W => l1Var_is σ.v false W hvv)
  obtain ⟨sa0, sn0, sc0, rfl⟩ := hs.slice
  clear hs hz hv ht hvv
  go_enter Try.func71, Try.ntmps71
  go_wp2_with fail
  generalize hW : World.alloc _ _ = W
  have hw : Below w.heap.size w W := by subst hW; go_grown
  have hy : C10 W w.heap.size h (.slice sa0 sn0 sc0) := by subst hW; exact (by refine ⟨?_, ?_, ?_, ?_, ?_, ?_, ?_, ?_, ?_, ?_, ?_⟩ <;> first | (simp [go_sem]; done) | (simp; omega))
  have fy : ∀ o, W.frozen? ⟨w.heap.size, o, none⟩ = false := fun o => by subst hW; simp [go_sem]
  have hv : C5 W (w.heap.size + 1) σ.a σ.b σ.c σ.d σ.n := by subst hW; exact (by refine ⟨?_, ?_, ?_, ?_, ?_, ?_⟩ <;> first | (simp [go_sem]; done) | (simp; omega))
  have hx : C10 W (w.heap.size + 1 + 1) ⟨0, 0, 0, 0, 0, 0, 0, 0, 0⟩ (.slice none 0 0) := by subst hW; exact (by refine ⟨?_, ?_, ?_, ?_, ?_, ?_, ?_, ?_, ?_, ?_, ?_⟩ <;> first | (simp [go_sem]; done) | (simp; omega))
  have hf : ∀ o, W.frozen? ⟨w.heap.size + 1 + 1, o, none⟩ = false := fun o => by subst hW; simp [go_sem]
  have hws : w.heap.size + 1 + 1 < W.heap.size := hx.1
  clear hW
  refine (HO.out W hw).mono ?_
  rintro e w1 ⟨s1, rfl, hs1, hb1⟩
  obtain ⟨ra, rn, rc, rfl⟩ := hs1.slice
  have HS1 := Lib.hid (SF.fs (Nat.le_refl _) hs1)
  have hy1 := c10_on hy hb1
  have hx1 := c10_on hx hb1
  have hv1 := c5_on hv hb1
  have fy1 : ∀ o, w1.frozen? ⟨w.heap.size, o, none⟩ = false := fun o => ((bcell hb1).2 _ o hy.1).trans (fy o)
  have fx1 : ∀ o, w1.frozen? ⟨w.heap.size + 1 + 1, o, none⟩ = false := fun o => ((bcell hb1).2 _ o hx.1).trans (hf o)
  have hw1 := below_on hw hb1
  have hsw1 : W.heap.size ≤ w1.heap.size := hb1.size
  obtain ⟨x0, c0, c1, c2, c3, c4, c5, c6, c7, c8, c9⟩ := id hy1
  clear hs1 hb1 hx hy fy hf hw hv
  go_upto_region 2 with fail
  generalize hW2 : World.setCell _ _ _ = W2
  obtain ⟨hy2, hblk2, hsz2, hfz2⟩ := ten_set (g := h) hy1 hW2
  have hx2 := c10_block (Nat.le_of_eq hsz2.symm) (hblk2 (w.heap.size + 1 + 1) (by omega)) hx1
  have fx2 : ∀ o, W2.frozen? ⟨w.heap.size + 1 + 1, o, none⟩ = false := fun o => (hfz2 _ o).trans (fx1 o)
  have hv2 := c5_putb hv1 (by omega) hblk2 hsz2
  have hw2 := hw1.trans ((put10b (g := h) hy1 hW2).2 w.heap.size (Nat.le_refl _))
  have HS2 := Lib.hid (FS.kept (w' := W2) (Nat.le_of_eq hsz2.symm) (fun k hk _ => hblk2 k (by omega)) HS1.out)
  obtain ⟨y0, d0, d1, d2, d3, d4, d5, d6, d7, d8, d9⟩ := id hy2
  have hsw2 : W.heap.size ≤ W2.heap.size := by omega
  clear hW2 x0 c0 c1 c2 c3 c4 c5 c6 c7 c8 c9 hblk2 hx1 fx1 fy1 hw1 hy1 hsz2 hfz2 HS1 hv1
  go_wp2_with fail
  refine (HV.out W2 _ _ HS2.out).mono ?_
  rintro e w3 ⟨rfl, hb3⟩
  have hx3 := c10_on hx2 hb3
  have fx3 : ∀ o, w3.frozen? ⟨w.heap.size + 1 + 1, o, none⟩ = false := fun o => ((bcell hb3).2 _ o hx2.1).trans (fx2 o)
  have hv3 := c5_on hv2 hb3
  have hy3 := c10_on hy2 hb3
  have hw3 := below_on hw2 hb3
  have hsw3 : W.heap.size ≤ w3.heap.size := Nat.le_trans hsw2 hb3.size
  have HS3 := Lib.hid (FS.below hb3 (Nat.le_refl _) HS2.out)
  clear hx2 fx2 hw2 hb3 hy2 hv2 y0 d0 d1 d2 d3 d4 d5 d6 d7 d8 d9
  obtain ⟨j0, j1, j2, j3, j4, j5⟩ := id hv3
  go_wp2_with fail
  refine (HT.out w3).mono ?_
  rintro e w5 ⟨rfl, hb5⟩
  have hx5 := c10_on hx3 hb5
  have fx5 : ∀ o, w5.frozen? ⟨w.heap.size + 1 + 1, o, none⟩ = false := fun o => ((bcell hb5).2 _ o hx3.1).trans (fx3 o)
  have hv5 := c5_on hv3 hb5
  have hy5 := c10_on hy3 hb5
  have hw5 := below_on hw3 hb5
  have hsw5 : W.heap.size ≤ w5.heap.size := Nat.le_trans hsw3 hb5.size
  have HS5 := Lib.hid (FS.below hb5 (Nat.le_refl _) HS3.out)
  clear hx3 fx3 hw3 hb5 hy3 hv3 j0 j1 j2 j3 j4 j5
  go_wp2_with fail
  refine (HI.out w5).mono ?_
  rintro e w' ⟨rfl, rfl⟩
  have hz4 := hx5
  have hw4 := hw5
  have fz4 := fx5
  obtain ⟨z0, e0, e1, e2, e3, e4, e5, e6, e7, e8, e9⟩ := id hz4
  go_upto_region 30 with fail
  generalize hW7 : World.setCell _ _ _ = W7
  obtain ⟨hz7, hk7, hs7, hf7⟩ := ten_set (g := ⟨0, 0, 0, 0, 0, 0, 0, 0, 0⟩) hz4 hW7
  have hw7 : Below w.heap.size w W7 := hw4.trans ((put10b (g := ⟨0, 0, 0, 0, 0, 0, 0, 0, 0⟩) hz4 hW7).2 w.heap.size (by omega))
  obtain ⟨y0, y1, y2, y3, y4, y5, y6, y7, y8, y9, y10⟩ := hz7
  clear hW7 hk7 hs7 hf7 z0 e0 e1 e2 e3 e4 e5 e6 e7 e8 e9
  go_wp2
  refine bodyPost_ret (v := .tuple #[.agg #[.int .i64 0, .int .i64 0, .int .i64 0, .int .i64 0, .int .i64 0, .int .i64 0, .int .i64 0, .int .i64 0, .int .i64 0, .slice none 0 0], .bool false]) (by simp [results, Try.results71, go_sem, y1, y2, y3, y4, y5, y6, y7, y8, y9, y10]) rfl ⟨rfl, hw7⟩

set_option maxRecDepth 10000 in
set_option maxHeartbeats 2000000 in
theorem rawSubst_good (σ : SbD) (h : FH) (f : Fo) (w : World) (lo : Nat) (s : Value) (hz : f.size ≤ 1048576) (hs : FS w lo f s) (hv : vfB h f = true) (hb : svB σ = true) : Calls Try.prog 71 #[.agg #[.int .i64 h.k, .int .i64 h.ak, .int .i64 h.am, .int .i64 h.a, .int .i64 h.b, .int .i64 h.c, .int .i64 h.d, .int .i64 h.n, .int .i64 h.v, s], .int .i64 σ.v, .agg #[.int .i64 σ.a, .int .i64 σ.b, .int .i64 σ.c, .int .i64 σ.d, .int .i64 σ.n]] w (RqT (okQ (vfB (sbF σ h f).1 (sbF σ h f).2) (sbF σ h f).1 (sbF σ h f).2) (vfB (sbF σ h f).1 (sbF σ h f).2) w.heap.size w) := by
  have hσ := sv_ok hb
  have hvt : varB σ.v = true ∧ tvB σ.a σ.b σ.c σ.d σ.n = true := by unfold svB at hb; simpa using hb
  have hvp := vf_parts hv
  have HO := Lib.hid (fun W hW => olF_any h f W lo s hz (FS.below (w := w) hW (Nat.le_refl _) hs))
  have HV := Lib.hid (fun W l t hs => specFormulaValid_any h f W l t hs)
  rw [hv] at HV
  have HT := Lib.hid (fun W => specTermValid_b σ true W hvt.2)
  have HI := Lib.hid (fun W => l1Var_is σ.v true W hvt.1)
  have HL := Lib.hid (fun W l t (hs : FS W l f t) => lb_any σ hσ f.size h f (Nat.le_refl _) hvp.1 hvp.2.1 W _ t (FSP.of hs))
  have hkk : ∀ q : FH × Fo, (sbK σ h f = true → q = sbF σ h f) → (sbK σ h f && vfB q.1 q.2) = vfB (sbF σ h f).1 (sbF σ h f).2 ∧ okQ (vfB (sbF σ h f).1 (sbF σ h f).2) q.1 q.2 = okQ (vfB (sbF σ h f).1 (sbF σ h f).2) (sbF σ h f).1 (sbF σ h f).2 := by
    intro q hq
    cases hk : sbK σ h f with
    | true => rw [hq hk, Bool.true_and]; exact ⟨rfl, rfl⟩
    | false =>
      have e : vfB (sbF σ h f).1 (sbF σ h f).2 = false := by
        unfold vfB
        have h9 : (ownB (sbF σ h f).1 (sbF σ h f).2.len && (sbF σ h f).2.okB) = false := hk
        rw [h9]; rfl
      rw [e]
      exact ⟨rfl, rfl⟩
  have HKK := Lib.hid hkk
  obtain ⟨p, hp⟩ : ∃ p, okQ (vfB (sbF σ h f).1 (sbF σ h f).2) (sbF σ h f).1 (sbF σ h f).2 = p := ⟨_, rfl⟩
  obtain ⟨ok, hok⟩ : ∃ ok, vfB (sbF σ h f).1 (sbF σ h f).2 = ok := ⟨_, rfl⟩
  rw [hp, hok] at HKK
  rw [hp, hok]
  obtain ⟨sk, hsk⟩ : ∃ sk, sbK σ h f = sk := ⟨_, rfl⟩
  have HSK := Lib.hid hsk
  obtain ⟨sa0, sn0, sc0, rfl⟩ := hs.slice
  clear hs hz hv hb hσ hvt hvp hkk hp hok hsk
  go_enter Try.func71, Try.ntmps71
  go_wp2_with fail
  generalize hW : World.alloc _ _ = W
  have hw : Below w.heap.size w W := by subst hW; go_grown
  have hy : C10 W w.heap.size h (.slice sa0 sn0 sc0) := by subst hW; exact (by refine ⟨?_, ?_, ?_, ?_, ?_, ?_, ?_, ?_, ?_, ?_, ?_⟩ <;> first | (simp [go_sem]; done) | (simp; omega))
  have fy : ∀ o, W.frozen? ⟨w.heap.size, o, none⟩ = false := fun o => by subst hW; simp [go_sem]
  have hv : C5 W (w.heap.size + 1) σ.a σ.b σ.c σ.d σ.n := by subst hW; exact (by refine ⟨?_, ?_, ?_, ?_, ?_, ?_⟩ <;> first | (simp [go_sem]; done) | (simp; omega))
  have hx : C10 W (w.heap.size + 1 + 1) ⟨0, 0, 0, 0, 0, 0, 0, 0, 0⟩ (.slice none 0 0) := by subst hW; exact (by refine ⟨?_, ?_, ?_, ?_, ?_, ?_, ?_, ?_, ?_, ?_, ?_⟩ <;> first | (simp [go_sem]; done) | (simp; omega))
  have hf : ∀ o, W.frozen? ⟨w.heap.size + 1 + 1, o, none⟩ = false := fun o => by subst hW; simp [go_sem]
  have hws : w.heap.size + 1 + 1 < W.heap.size := hx.1
  clear hW
  refine (HO.out W hw).mono ?_
  rintro e w1 ⟨s1, rfl, hs1, hb1⟩
  obtain ⟨ra, rn, rc, rfl⟩ := hs1.slice
  have HS1 := Lib.hid (SF.fs (Nat.le_refl _) hs1)
  have hy1 := c10_on hy hb1
  have hx1 := c10_on hx hb1
  have hv1 := c5_on hv hb1
  have fy1 : ∀ o, w1.frozen? ⟨w.heap.size, o, none⟩ = false := fun o => ((bcell hb1).2 _ o hy.1).trans (fy o)
  have fx1 : ∀ o, w1.frozen? ⟨w.heap.size + 1 + 1, o, none⟩ = false := fun o => ((bcell hb1).2 _ o hx.1).trans (hf o)
  have hw1 := below_on hw hb1
  have hsw1 : W.heap.size ≤ w1.heap.size := hb1.size
  obtain ⟨x0, c0, c1, c2, c3, c4, c5, c6, c7, c8, c9⟩ := id hy1
  clear hs1 hb1 hx hy fy hf hw hv
  go_upto_region 2 with fail
  generalize hW2 : World.setCell _ _ _ = W2
  obtain ⟨hy2, hblk2, hsz2, hfz2⟩ := ten_set (g := h) hy1 hW2
  have hx2 := c10_block (Nat.le_of_eq hsz2.symm) (hblk2 (w.heap.size + 1 + 1) (by omega)) hx1
  have fx2 : ∀ o, W2.frozen? ⟨w.heap.size + 1 + 1, o, none⟩ = false := fun o => (hfz2 _ o).trans (fx1 o)
  have hv2 := c5_putb hv1 (by omega) hblk2 hsz2
  have hw2 := hw1.trans ((put10b (g := h) hy1 hW2).2 w.heap.size (Nat.le_refl _))
  have HS2 := Lib.hid (FS.kept (w' := W2) (Nat.le_of_eq hsz2.symm) (fun k hk _ => hblk2 k (by omega)) HS1.out)
  obtain ⟨y0, d0, d1, d2, d3, d4, d5, d6, d7, d8, d9⟩ := id hy2
  have hsw2 : W.heap.size ≤ W2.heap.size := by omega
  clear hW2 x0 c0 c1 c2 c3 c4 c5 c6 c7 c8 c9 hblk2 hx1 fx1 fy1 hw1 hy1 hsz2 hfz2 HS1 hv1
  go_wp2_with fail
  refine (HV.out W2 _ _ HS2.out).mono ?_
  rintro e w3 ⟨rfl, hb3⟩
  have hx3 := c10_on hx2 hb3
  have fx3 : ∀ o, w3.frozen? ⟨w.heap.size + 1 + 1, o, none⟩ = false := fun o => ((bcell hb3).2 _ o hx2.1).trans (fx2 o)
  have hv3 := c5_on hv2 hb3
  have hy3 := c10_on hy2 hb3
  have hw3 := below_on hw2 hb3
  have hsw3 : W.heap.size ≤ w3.heap.size := Nat.le_trans hsw2 hb3.size
  have HS3 := Lib.hid (FS.below hb3 (Nat.le_refl _) HS2.out)
  clear hx2 fx2 hw2 hb3 hy2 hv2 y0 d0 d1 d2 d3 d4 d5 d6 d7 d8 d9
  obtain ⟨j0, j1, j2, j3, j4, j5⟩ := id hv3
  go_wp2_with fail
  refine (HT.out w3).mono ?_
  rintro e w5 ⟨rfl, hb5⟩
  have hx5 := c10_on hx3 hb5
  have fx5 : ∀ o, w5.frozen? ⟨w.heap.size + 1 + 1, o, none⟩ = false := fun o => ((bcell hb5).2 _ o hx3.1).trans (fx3 o)
  have hv5 := c5_on hv3 hb5
  have hy5 := c10_on hy3 hb5
  have hw5 := below_on hw3 hb5
  have hsw5 : W.heap.size ≤ w5.heap.size := Nat.le_trans hsw3 hb5.size
  have HS5 := Lib.hid (FS.below hb5 (Nat.le_refl _) HS3.out)
  clear hx3 fx3 hw3 hb5 hy3 hv3 j0 j1 j2 j3 j4 j5
  go_wp2_with fail
  refine (HI.out w5).mono ?_
  rintro e w' ⟨rfl, rfl⟩
  obtain ⟨j0, j1, j2, j3, j4, j5⟩ := id hv5
  obtain ⟨y0, d0, d1, d2, d3, d4, d5, d6, d7, d8, d9⟩ := id hy5
  go_wp2_with fail
  refine (HL.out w5 _ _ HS5.out).mono ?_
  rintro e w6 ⟨q, s6, rfl, hq, hs6, hb6⟩
  obtain ⟨ta, tn, tc, rfl⟩ := hs6.slice
  have HS6 := Lib.hid (FSP.to (lo := W.heap.size) (fun k hk => by rcases hk.1 with h9 | h9 <;> first | exact h9.1 | omega) hs6)
  have hkq := HKK.out q hq
  have HU := Lib.hid (fun W l t hs => l3Valid_u q.1 q.2 W l t (sbK σ h f) ok hs hkq.1)
  rw [hkq.2] at HU
  rw [HSK.out] at HU ⊢
  clear hs6 hq hkq
  go_wp2_with fail
  generalize hW7 : World.alloc _ _ = W7
  have hb67 : Below w6.heap.size w6 W7 := by subst hW7; go_grown
  have hb57 := below_on hb6 hb67
  have HU7 := Lib.hid (HU.out W7 W.heap.size _ (FS.below hb67 (Nat.le_refl _) HS6.out))
  clear hW7 hb6 hb67 j0 j1 j2 j3 j4 j5 y0 d0 d1 d2 d3 d4 d5 d6 d7 d8 d9
  refine HU7.out.mono ?_
  rintro e w8 ⟨s8, rfl, hs8, hb8⟩
  obtain ⟨ua, un, uc, rfl⟩ := hs8.slice
  have HS8 := Lib.hid hs8
  have hb58 := below_on hb57 hb8
  have hz4 := c10_on hx5 hb58
  have fz4 : ∀ o, w8.frozen? ⟨w.heap.size + 1 + 1, o, none⟩ = false := fun o => ((bcell hb58).2 _ o hx5.1).trans (fx5 o)
  have hw4 := below_on hw5 hb58
  clear hs8 hb8 hb57 hb58 hx5 fx5 hw5 hy5 hv5 HU7 HU
  obtain ⟨z0, e0, e1, e2, e3, e4, e5, e6, e7, e8, e9⟩ := id hz4
  go_upto_region 30 with fail
  generalize hW9 : World.setCell _ _ _ = W9
  obtain ⟨hz9, hk9, hs9, hf9⟩ := ten_set (g := p.1) hz4 hW9
  have hw9 : Below w.heap.size w W9 := hw4.trans ((put10b (g := p.1) hz4 hW9).2 w.heap.size (by omega))
  have HS9 := Lib.hid (FS.mono (lo' := w.heap.size) (by omega) (FS.kept (w' := W9) (Nat.le_of_eq hs9.symm) (fun k hk _ => hk9 k (by omega)) HS8.out))
  obtain ⟨y0, y1, y2, y3, y4, y5, y6, y7, y8, y9, y10⟩ := hz9
  clear hW9 hk9 hs9 hf9 z0 e0 e1 e2 e3 e4 e5 e6 e7 e8 e9
  go_wp2
  refine bodyPost_ret (v := .tuple #[.agg #[.int .i64 p.1.k, .int .i64 p.1.ak, .int .i64 p.1.am, .int .i64 p.1.a, .int .i64 p.1.b, .int .i64 p.1.c, .int .i64 p.1.d, .int .i64 p.1.n, .int .i64 p.1.v, .slice ua un uc], .bool ok]) (by simp [results, Try.results71, go_sem, y1, y2, y3, y4, y5, y6, y7, y8, y9, y10]) rfl ⟨_, rfl, HS9.out, hw9⟩

theorem rawSubst_any (σ : SbD) (h : FH) (f : Fo) (w : World) (lo : Nat) (s : Value) (hz : f.size ≤ 1048576) (hs : FS w lo f s) : Calls Try.prog 71 #[.agg #[.int .i64 h.k, .int .i64 h.ak, .int .i64 h.am, .int .i64 h.a, .int .i64 h.b, .int .i64 h.c, .int .i64 h.d, .int .i64 h.n, .int .i64 h.v, s], .int .i64 σ.v, .agg #[.int .i64 σ.a, .int .i64 σ.b, .int .i64 σ.c, .int .i64 σ.d, .int .i64 σ.n]] w (RqT (okQ (ssB σ h f) (sbF σ h f).1 (sbF σ h f).2) (ssB σ h f) w.heap.size w) := by
  have no : ∀ {e w'}, VnT w e w' → RqT (okQ false (sbF σ h f).1 (sbF σ h f).2) false w.heap.size w e w' := fun hp => ⟨.slice none 0 0, hp.1, fs_none _ _, hp.2⟩
  cases hv : vfB h f with
  | false =>
    rw [show ssB σ h f = false by unfold ssB; rw [hv]; simp]
    exact (rawSubst_novalid σ h f w lo s hz hs hv).mono fun _ _ hp => no hp
  | true =>
    cases ht : tvB σ.a σ.b σ.c σ.d σ.n with
    | false =>
      rw [show ssB σ h f = false by unfold ssB svB; rw [ht]; simp]
      exact (rawSubst_noterm σ h f w lo s hz hs hv ht).mono fun _ _ hp => no hp
    | true =>
      cases hvv : varB σ.v with
      | false =>
        rw [show ssB σ h f = false by unfold ssB svB; rw [hvv]; simp]
        exact (rawSubst_novar σ h f w lo s hz hs hv ht hvv).mono fun _ _ hp => no hp
      | true =>
        have hb : svB σ = true := by unfold svB; rw [hvv, ht]; rfl
        rw [show ssB σ h f = vfB (sbF σ h f).1 (sbF σ h f).2 by unfold ssB; rw [hb, hv]; simp]
        exact rawSubst_good σ h f w lo s hz hs hv hb

set_option maxRecDepth 10000 in
set_option maxHeartbeats 2000000 in
theorem specSubstFormula_any (σ : SbD) (h : FH) (f : Fo) (w : World) (lo : Nat) (s : Value) (hz : f.size ≤ 1048576) (hs : FS w lo f s) : Calls Try.prog 25 #[.agg #[.int .i64 h.k, .int .i64 h.ak, .int .i64 h.am, .int .i64 h.a, .int .i64 h.b, .int .i64 h.c, .int .i64 h.d, .int .i64 h.n, .int .i64 h.v, s], .int .i64 σ.v, .agg #[.int .i64 σ.a, .int .i64 σ.b, .int .i64 σ.c, .int .i64 σ.d, .int .i64 σ.n]] w (FrT (okQ (ssB σ h f) (sbF σ h f).1 (sbF σ h f).2) (ssB σ h f) w) := by
  have HR := Lib.hid (fun W hW => rawSubst_any σ h f W lo s hz (FS.below (w := w) hW (Nat.le_refl _) hs))
  have hqz := okQ_size (ssB σ h f) (sbF σ h f).1 (sbF σ h f).2 (fun e => by simp only [Bool.and_eq_true, ssB] at e; exact e.2.2)
  obtain ⟨q, hq⟩ : ∃ q, okQ (ssB σ h f) (sbF σ h f).1 (sbF σ h f).2 = q := ⟨_, rfl⟩
  obtain ⟨ok, hok⟩ : ∃ ok, ssB σ h f = ok := ⟨_, rfl⟩
  rw [hq] at HR hqz ⊢
  rw [hok] at HR ⊢
  have HO := Lib.hid (fun W l t hs => olF_any q.1 q.2 W l t (by omega) hs)
  obtain ⟨sa0, sn0, sc0, rfl⟩ := hs.slice
  clear hs hq hok hqz
  go_enter Try.func25, Try.ntmps25
  go_wp2_with fail
  generalize hW : World.alloc _ _ = W
  have hw : Below w.heap.size w W := by subst hW; go_grown
  have hx : C10 W (w.heap.size + 1 + 1) ⟨0, 0, 0, 0, 0, 0, 0, 0, 0⟩ (.slice none 0 0) := by subst hW; exact (by refine ⟨?_, ?_, ?_, ?_, ?_, ?_, ?_, ?_, ?_, ?_, ?_⟩ <;> first | (simp [go_sem]; done) | (simp; omega))
  have hf : ∀ o, W.frozen? ⟨w.heap.size + 1 + 1, o, none⟩ = false := fun o => by subst hW; simp [go_sem]
  clear hW
  refine (HR.out W hw).mono ?_
  rintro e w1 ⟨s1, rfl, hs1, hb1⟩
  obtain ⟨ra, rn, rc, rfl⟩ := hs1.slice
  have HS1 := Lib.hid hs1
  clear hs1
  go_wp2_with fail
  generalize hW2 : World.alloc _ _ = W2
  have hb12 : Below w1.heap.size w1 W2 := by subst hW2; go_grown
  have HO2 := Lib.hid (HO.out W2 _ _ (FS.below hb12 (Nat.le_refl _) HS1.out))
  have hbW2 := below_on hb1 hb12
  clear hW2 hb1 hb12
  refine HO2.out.mono ?_
  rintro e w3 ⟨s3, rfl, hs3, hb23⟩
  obtain ⟨sa, sn, sc, rfl⟩ := hs3.slice
  have HS3 := Lib.hid hs3
  have hsW2 := hbW2.size
  have hb3 := below_on hbW2 hb23
  clear hbW2 hb23 hs3 HO2
  have hx3 := c10_on hx hb3
  have hf3 : ∀ o, w3.frozen? ⟨w.heap.size + 1 + 1, o, none⟩ = false := fun o => ((bcell hb3).2 _ o hx.1).trans (hf o)
  have hw3 := below_on hw hb3
  have hws : w.heap.size + 1 + 1 < W.heap.size := hx.1
  obtain ⟨x0, c0, c1, c2, c3, c4, c5, c6, c7, c8, c9⟩ := id hx3
  clear hb3 hx hf hw
  go_upto_region 20 with fail
  generalize hW7 : World.setCell _ _ _ = W7
  have hblk7 : ∀ x, x ≠ w.heap.size + 1 + 1 → W7.heap[x]? = w3.heap[x]? := fun x hx => by subst hW7; repeat rw [Below.heap_setCell _ _ _ _ (by dsimp only; omega)]
  have hsz7 : W7.heap.size = w3.heap.size := by subst hW7; simp [World.setCell]
  obtain ⟨hx7, hb7⟩ := put10b (g := q.1) hx3 hW7
  have hww7 := hw3.trans (hb7 w.heap.size (by omega))
  have HS7 : Hid (SF W7 w.heap.size W7.heap.size q.2 (.slice sa sn sc)) := by
    have h0 := SF.same (w' := W7) (fun x h1 _ => hblk7 x (by have h2 : W2.heap.size ≤ x := h1; omega)) HS3.out
    exact SF.mono (by omega) (by omega) h0
  obtain ⟨z0, k1, k2, k3, k4, k5, k6, k7, k8, k9, k10⟩ := hx7
  clear hW7 x0 c0 c1 c2 c3 c4 c5 c6 c7 c8 c9 hblk7 hsz7
  go_wp2
  refine bodyPost_ret (v := .tuple #[.agg #[.int .i64 q.1.k, .int .i64 q.1.ak, .int .i64 q.1.am, .int .i64 q.1.a, .int .i64 q.1.b, .int .i64 q.1.c, .int .i64 q.1.d, .int .i64 q.1.n, .int .i64 q.1.v, .slice sa sn sc], .bool ok]) (by simp [results, Try.results25, go_sem, k1, k2, k3, k4, k5, k6, k7, k8, k9, k10]) rfl ⟨_, rfl, HS7.out, hww7⟩

end Go.Proofs.Ytcgolbkpfncgpaa

/- The walk of the law that says that SubstFormula answers as its model does. -/
namespace Go.Proofs.Ytcgolbkpfncgpaa
open Go.RowKit

theorem keep20SubstFormula {W w' : World} {x y : Nat} {h : FH} {s s' : Value} (hx : C10 W x h s) (hy : C10 W y h s') (hB : Below W.heap.size W w') :
    Below W.heap.size W w' ∧ (w'.cell? ⟨x, 0, none⟩ = some (.int .i64 h.k) ∧ w'.cell? ⟨x, 1, none⟩ = some (.int .i64 h.ak) ∧ w'.cell? ⟨x, 2, none⟩ = some (.int .i64 h.am) ∧ w'.cell? ⟨x, 3, none⟩ = some (.int .i64 h.a) ∧ w'.cell? ⟨x, 4, none⟩ = some (.int .i64 h.b) ∧ w'.cell? ⟨x, 5, none⟩ = some (.int .i64 h.c) ∧ w'.cell? ⟨x, 6, none⟩ = some (.int .i64 h.d) ∧ w'.cell? ⟨x, 7, none⟩ = some (.int .i64 h.n) ∧ w'.cell? ⟨x, 8, none⟩ = some (.int .i64 h.v) ∧ w'.cell? ⟨x, 9, none⟩ = some (s)) ∧ (w'.cell? ⟨y, 0, none⟩ = some (.int .i64 h.k) ∧ w'.cell? ⟨y, 1, none⟩ = some (.int .i64 h.ak) ∧ w'.cell? ⟨y, 2, none⟩ = some (.int .i64 h.am) ∧ w'.cell? ⟨y, 3, none⟩ = some (.int .i64 h.a) ∧ w'.cell? ⟨y, 4, none⟩ = some (.int .i64 h.b) ∧ w'.cell? ⟨y, 5, none⟩ = some (.int .i64 h.c) ∧ w'.cell? ⟨y, 6, none⟩ = some (.int .i64 h.d) ∧ w'.cell? ⟨y, 7, none⟩ = some (.int .i64 h.n) ∧ w'.cell? ⟨y, 8, none⟩ = some (.int .i64 h.v) ∧ w'.cell? ⟨y, 9, none⟩ = some (s')) :=
  ⟨hB, (c10_on hx hB).2, (c10_on hy hB).2⟩
theorem keep15 {W w' : World} {x y : Nat} {h : FH} {s : Value} {a b c d n : Int} (hx : C10 W x h s) (hy : C5 W y a b c d n) (hB : Below W.heap.size W w') :
    Below W.heap.size W w' ∧ (w'.cell? ⟨x, 0, none⟩ = some (.int .i64 h.k) ∧ w'.cell? ⟨x, 1, none⟩ = some (.int .i64 h.ak) ∧ w'.cell? ⟨x, 2, none⟩ = some (.int .i64 h.am) ∧ w'.cell? ⟨x, 3, none⟩ = some (.int .i64 h.a) ∧ w'.cell? ⟨x, 4, none⟩ = some (.int .i64 h.b) ∧ w'.cell? ⟨x, 5, none⟩ = some (.int .i64 h.c) ∧ w'.cell? ⟨x, 6, none⟩ = some (.int .i64 h.d) ∧ w'.cell? ⟨x, 7, none⟩ = some (.int .i64 h.n) ∧ w'.cell? ⟨x, 8, none⟩ = some (.int .i64 h.v) ∧ w'.cell? ⟨x, 9, none⟩ = some (s)) ∧ w'.cell? ⟨y, 0, none⟩ = some (.int .i64 a) ∧ w'.cell? ⟨y, 1, none⟩ = some (.int .i64 b) ∧ w'.cell? ⟨y, 2, none⟩ = some (.int .i64 c) ∧ w'.cell? ⟨y, 3, none⟩ = some (.int .i64 d) ∧ w'.cell? ⟨y, 4, none⟩ = some (.int .i64 n) :=
  ⟨hB, (c10_on hx hB).2, (c5_on hy hB).2⟩
theorem c5_keeps {w w' : World} {lo hi x : Nat} {a b c d n : Int} (hx : C5 w x a b c d n) (hk : Keeps lo hi w w') (hl : hi ≤ x ∨ x < lo) : C5 w' x a b c d n := by
  have g : ∀ o, w'.cell? ⟨x, o, none⟩ = w.cell? ⟨x, o, none⟩ := fun o => World.cell?_of_block (hk.block x hx.1 (by omega))
  obtain ⟨g0, g1, g2, g3, g4, g5⟩ := hx
  exact ⟨Nat.lt_of_lt_of_le g0 hk.size, (g 0).trans g1, (g 1).trans g2, (g 2).trans g3, (g 3).trans g4, (g 4).trans g5⟩
/-- A result in its box: where the box and the formula's lists lie. -/
def SbRes (w2 : World) (q : FH × Fo) (ok : Bool) (p b : Value) (W : World) : Prop := ∃ (bx lo hi : Nat) (s : Value), p = .pointer (some ⟨bx, 0, none⟩) ∧ b = .bool ok ∧ C10 W bx q.1 s ∧ SF W lo hi q.2 s ∧ Below w2.heap.size w2 W ∧ w2.heap.size ≤ bx ∧ w2.heap.size ≤ lo ∧ hi ≤ W.heap.size ∧ (bx < lo ∨ hi ≤ bx) ∧ lo ≤ hi
theorem toTerm_b (σ : SbD) (w : World) : Calls Try.prog 18 #[.agg #[.int .i64 σ.a, .int .i64 σ.b, .int .i64 σ.c, .int .i64 σ.d, .int .i64 σ.n]] w fun e w' => e = .returned (.agg #[.int .i64 σ.a, .int .i64 σ.b, .int .i64 σ.c, .int .i64 σ.d, .int .i64 σ.n]) ∧ Below w.heap.size w w' :=
  (toTerm_to σ.a σ.b σ.c σ.d σ.n w).mono fun _ _ hp => ⟨hp.1, by rw [← hp.2]; go_grown⟩

set_option maxRecDepth 100000 in
set_option maxHeartbeats 8000000 in
theorem exactSubstFormula_walk (h : FH) (f : Fo) (σ : SbD) (w : World) (lo : Nat) (s : Value) (hs : FS w lo f s) :
    Calls Try.prog 6 #[.agg #[.int .i64 h.k, .int .i64 h.ak, .int .i64 h.am, .int .i64 h.a, .int .i64 h.b, .int .i64 h.c, .int .i64 h.d, .int .i64 h.n, .int .i64 h.v, s], .int .i64 σ.v, .agg #[.int .i64 σ.a, .int .i64 σ.b, .int .i64 σ.c, .int .i64 σ.d, .int .i64 σ.n]] w fun e w' => e = .returned (.bool true) ∧ Below w.heap.size w w' := by
  have HS := Lib.hid hs
  obtain ⟨sa, sn, sc, rfl⟩ := hs.slice
  clear hs
  by_cases hsz : f.size ≤ 1048576
  · have HZ : Hid (szI f.size 1048576 = ((1048576 - f.size : Nat) : Int)) := szI_pos hsz
    obtain ⟨l, hl⟩ : ∃ l : Nat, 1048576 - f.size = l := ⟨_, rfl⟩
    rw [hl] at HZ
    have hl0 : ¬ (l : Int) < 0 := by omega
    have HSZ := Lib.hid hsz
    have hq6 := okQ_size (ssB σ h f) (sbF σ h f).1 (sbF σ h f).2 (fun e => by simp only [Bool.and_eq_true, ssB] at e; exact e.2.2)
    have HSP := Lib.hid (fun V lo s hs => specSubstFormula_any σ h f V lo s hsz hs)
    have HIM := Lib.hid (fun V lo s hs => SubstFormula_any σ h f V lo s hs)
    have HTT := Lib.hid (fun V => toTerm_b σ V)
    obtain ⟨q, hq⟩ : ∃ q, okQ (ssB σ h f) (sbF σ h f).1 (sbF σ h f).2 = q := ⟨_, rfl⟩
    obtain ⟨tt, htt⟩ : ∃ tt, ssB σ h f = tt := ⟨_, rfl⟩
    rw [hq] at hq6 HSP HIM
    rw [htt] at HSP HIM
    clear hl hq htt
    go_enter Try.func6, Try.ntmps6
    go_wp2_with fail
    generalize hW : World.alloc _ _ = w1
    have hb1 : Below w.heap.size w w1 := by subst hW; go_grown
    have xX1 : C10 w1 w.heap.size h (.slice sa sn sc) := by subst hW; exact (by refine ⟨?_, ?_, ?_, ?_, ?_, ?_, ?_, ?_, ?_, ?_, ?_⟩ <;> first | (simp [go_sem]; done) | (simp; omega))
    have vT1 : C5 w1 (w.heap.size + 1) σ.a σ.b σ.c σ.d σ.n := by subst hW; exact (by refine ⟨?_, ?_, ?_, ?_, ?_, ?_⟩ <;> first | (simp [go_sem]; done) | (simp; omega))
    clear hW
    have HB1 := Lib.hid hb1
    have hs1 := hb1.size
    have hX := xX1.1
    have hT := vT1.1
    clear hb1
    refine (szF_any h f w1 lo _ 1048576 (Nat.le_refl _) (FS.below HB1.out (Nat.le_refl _) HS.out)).mono ?_
    rintro e w2 ⟨rfl, hb2⟩
    rw [HZ.out]
    have hsw2 := (hb2).size
    have xXw2 := c10_on xX1 hb2
    have vTw2 := c5_on vT1 hb2
    have HBw2 := Lib.hid (below_on HB1.out hb2)
    clear xX1 vT1 HB1
    clear hb2
    have HTF := Lib.hid (fun V hV => tF_any h f V lo _ HSZ.out (FS.below (w := w2) hV (Nat.le_refl _) (FS.below HBw2.out (Nat.le_refl _) HS.out)))
    go_upto_region 5 with fail
    go_cut [8, 9] (fun p b V => SbRes w2 q tt p b V)
    case first =>
      refine wp_region_held_drew (S := (fun w' => Below w2.heap.size w2 w' ∧ (w'.cell? ⟨w.heap.size, 0, none⟩ = some (.int .i64 h.k) ∧ w'.cell? ⟨w.heap.size, 1, none⟩ = some (.int .i64 h.ak) ∧ w'.cell? ⟨w.heap.size, 2, none⟩ = some (.int .i64 h.am) ∧ w'.cell? ⟨w.heap.size, 3, none⟩ = some (.int .i64 h.a) ∧ w'.cell? ⟨w.heap.size, 4, none⟩ = some (.int .i64 h.b) ∧ w'.cell? ⟨w.heap.size, 5, none⟩ = some (.int .i64 h.c) ∧ w'.cell? ⟨w.heap.size, 6, none⟩ = some (.int .i64 h.d) ∧ w'.cell? ⟨w.heap.size, 7, none⟩ = some (.int .i64 h.n) ∧ w'.cell? ⟨w.heap.size, 8, none⟩ = some (.int .i64 h.v) ∧ w'.cell? ⟨w.heap.size, 9, none⟩ = some (.slice sa sn sc)) ∧ w'.cell? ⟨w.heap.size + 1, 0, none⟩ = some (.int .i64 σ.a) ∧ w'.cell? ⟨w.heap.size + 1, 1, none⟩ = some (.int .i64 σ.b) ∧ w'.cell? ⟨w.heap.size + 1, 2, none⟩ = some (.int .i64 σ.c) ∧ w'.cell? ⟨w.heap.size + 1, 3, none⟩ = some (.int .i64 σ.d) ∧ w'.cell? ⟨w.heap.size + 1, 4, none⟩ = some (.int .i64 σ.n))) (by kernel_rfl) ?_ (fun hHeld => ?_)
      · try dsimp only
        exact keep15 xXw2 vTw2 (by go_grown)
      refine wpAnyH_take (i := 0) (oi := { dst := some 24, op := Go.Op.load 52 (Go.Operand.tmp 3), type := 52, pos := "exact.go:3721", after := #[], guard := none }) (v := ?_) rfl (by kernel_rfl) (by kernel_rfl) (by kernel_rfl) (fun _ _ _ h => h) (Or.inl ⟨by rfl, ?_⟩) (by assumption) ?_
      rotate_left
      · (intro w hSw; (try dsimp only at hSw); first | (go_simp; done) | (go_simp; with_reducible rfl))
      try simp only [Act.put, List.setIfInBounds_toArray, List.set_cons_zero, List.set_cons_succ]
      refine wpAnyH_take (i := 2) (oi := { dst := some 26, op := Go.Op.move (Go.Operand.tmp 1), type := 3, pos := "exact.go:3721", after := #[], guard := none }) (v := ?_) rfl (by kernel_rfl) (by kernel_rfl) (by kernel_rfl) (fun _ _ _ h => h) (Or.inl ⟨by rfl, ?_⟩) (by assumption) ?_
      rotate_left
      · (intro w hSw; (try dsimp only at hSw); first | (go_simp; done) | (go_simp; with_reducible rfl))
      try simp only [Act.put, List.setIfInBounds_toArray, List.set_cons_zero, List.set_cons_succ]
      refine wpAnyH_take (i := 3) (oi := { dst := some 27, op := Go.Op.load 37 (Go.Operand.tmp 5), type := 37, pos := "exact.go:3721", after := #[], guard := none }) (v := ?_) rfl (by kernel_rfl) (by kernel_rfl) (by kernel_rfl) (fun _ _ _ h => h) (Or.inl ⟨by rfl, ?_⟩) (by assumption) ?_
      rotate_left
      · (intro w hSw; (try dsimp only at hSw); first | (go_simp; done) | (go_simp; with_reducible rfl))
      try simp only [Act.put, List.setIfInBounds_toArray, List.set_cons_zero, List.set_cons_succ]
      refine wpAnyH_ready (rs := [1, 9]) (by kernel_rfl) (by simp) ?_
      refine AllReadyH.cons (o := { dst := some 25, op := Go.Op.call { callee := Go.Callee.value (Go.Operand.func 26), args := #[Go.Operand.tmp 24], argTypes := #[52] }, type := 56, pos := "exact.go:3721", after := #[{ on := 0, ground := Go.Ground.data }], guard := none }) rfl (fun K hK => ?_) (AllReadyH.cons (o := { dst := some 8, op := Go.Op.alloc 56, type := 0, pos := "exact.go:3721", after := #[], guard := none }) rfl (fun K hK => ?_) AllReadyH.nil)
      ·
        go_simp
        (go_at_call 26; refine (HTF.out _ (by go_grown)).mono ?_; rintro e v1 ⟨s3, rfl, hs3, hbv1⟩; obtain ⟨a3, n3, c3, rfl⟩ := hs3.slice; have hbbv1 := below_on (w := w2) (by go_grown) hbv1; have hsbv1 : w2.heap.size ≤ v1.heap.size := hbbv1.size)
        (try go_wp2_with fail)
        refine hK.out _ _ ?_ (fun hHeld => ?_)
        · try dsimp only
          exact keep15 xXw2 vTw2 (by go_grown)
        clear hK K
        try simp only [Act.put, List.setIfInBounds_toArray, List.set_cons_zero, List.set_cons_succ]
        refine wpAnyH_ready (rs := [4, 9]) (by kernel_rfl) (by simp) ?_
        refine AllReadyH.cons (o := { dst := some 28, op := Go.Op.call { callee := Go.Callee.value (Go.Operand.func 18), args := #[Go.Operand.tmp 27], argTypes := #[37] }, type := 24, pos := "exact.go:3721", after := #[{ on := 3, ground := Go.Ground.data }, { on := 1, ground := Go.Ground.chain }], guard := none }) rfl (fun K hK => ?_) (AllReadyH.cons (o := { dst := some 8, op := Go.Op.alloc 56, type := 0, pos := "exact.go:3721", after := #[], guard := none }) rfl (fun K hK => ?_) AllReadyH.nil)
        ·
          go_simp
          (go_at_call 18; refine (HTT.out _).mono ?_; rintro e v2 ⟨rfl, hbv2⟩; have hbbv2 := below_on (w := w2) (by go_grown) hbv2; have hsbv2 : w2.heap.size ≤ v2.heap.size := hbbv2.size; have hbpv2 : Below v1.heap.size v1 v2 := below_on (w := v1) (by go_grown) hbv2; have hspv2 := hbpv2.size)
          (try go_wp2_with fail)
          refine hK.out _ _ ?_ (fun hHeld => ?_)
          · try dsimp only
            exact keep15 xXw2 vTw2 (by go_grown)
          clear hK K
          try simp only [Act.put, List.setIfInBounds_toArray, List.set_cons_zero, List.set_cons_succ]
          refine wpAnyH_ready (rs := [5, 9]) (by kernel_rfl) (by simp) ?_
          refine AllReadyH.cons (o := { dst := some 29, op := Go.Op.call { callee := Go.Callee.value (Go.Operand.func 25), args := #[Go.Operand.tmp 25, Go.Operand.tmp 26, Go.Operand.tmp 28], argTypes := #[56, 3, 24] }, type := 57, pos := "exact.go:3721", after := #[{ on := 1, ground := Go.Ground.data }, { on := 2, ground := Go.Ground.data }, { on := 4, ground := Go.Ground.data }, { on := 4, ground := Go.Ground.chain }], guard := none }) rfl (fun K hK => ?_) (AllReadyH.cons (o := { dst := some 8, op := Go.Op.alloc 56, type := 0, pos := "exact.go:3721", after := #[], guard := none }) rfl (fun K hK => ?_) AllReadyH.nil)
          ·
            go_simp
            (go_at_call 25; refine (HSP.out _ _ _ (FS.below (w := v1) (B := v1.heap.size) (by go_grown) (Nat.le_refl _) hs3)).mono ?_; rintro e v3 ⟨s5, rfl, hs5, hbv3⟩; obtain ⟨ga, gn, gc, rfl⟩ := hs5.slice; have HS5 := Lib.hid hs5; have hbbv3 := below_on (w := w2) (by go_grown) hbv3; have hsbv3 : w2.heap.size ≤ v3.heap.size := hbbv3.size; have hbpv3 : Below v2.heap.size v2 v3 := below_on (w := v2) (by go_grown) hbv3; have hspv3 := hbpv3.size)
            (try go_wp2_with fail)
            refine hK.out _ _ ?_ (fun hHeld => ?_)
            · try dsimp only
              exact keep15 xXw2 vTw2 (by go_grown)
            clear hK K
            try simp only [Act.put, List.setIfInBounds_toArray, List.set_cons_zero, List.set_cons_succ]
            refine wpAnyH_take (i := 6) (oi := { dst := some 23, op := Go.Op.move (Go.Operand.tmp 29), type := 57, pos := "exact.go:3721", after := #[{ on := 5, ground := Go.Ground.data }], guard := none }) (v := ?_) rfl (by kernel_rfl) (by kernel_rfl) (by kernel_rfl) (fun _ _ _ h => h) (Or.inl ⟨by rfl, ?_⟩) (by assumption) ?_
            rotate_left
            · (intro w hSw; (try dsimp only at hSw); first | (go_simp; done) | (go_simp; with_reducible rfl))
            try simp only [Act.put, List.setIfInBounds_toArray, List.set_cons_zero, List.set_cons_succ]
            refine wpAnyH_take (i := 7) (oi := { dst := some 30, op := Go.Op.extract (Go.Operand.tmp 23) 0, type := 56, pos := "exact.go:3721", after := #[{ on := 6, ground := Go.Ground.data }], guard := none }) (v := ?_) rfl (by kernel_rfl) (by kernel_rfl) (by kernel_rfl) (fun _ _ _ h => h) (Or.inl ⟨by rfl, ?_⟩) (by assumption) ?_
            rotate_left
            · (intro w hSw; (try dsimp only at hSw); first | (go_simp; done) | (go_simp; with_reducible rfl))
            try simp only [Act.put, List.setIfInBounds_toArray, List.set_cons_zero, List.set_cons_succ]
            refine wpAnyH_take (i := 8) (oi := { dst := some 31, op := Go.Op.extract (Go.Operand.tmp 23) 1, type := 4, pos := "exact.go:3721", after := #[{ on := 6, ground := Go.Ground.data }, { on := 10, ground := Go.Ground.gcOnly Go.Departure.lateStores }], guard := none }) (v := ?_) rfl (by kernel_rfl) (by kernel_rfl) (by kernel_rfl) (fun _ _ _ h => h) (Or.inl ⟨by rfl, ?_⟩) (by assumption) ?_
            rotate_left
            · (intro w hSw; (try dsimp only at hSw); first | (go_simp; done) | (go_simp; with_reducible rfl))
            try simp only [Act.put, List.setIfInBounds_toArray, List.set_cons_zero, List.set_cons_succ]
            refine wpAnyH_ready (rs := [9]) (by kernel_rfl) (by simp) ?_
            refine AllReadyH.cons (o := { dst := some 8, op := Go.Op.alloc 56, type := 0, pos := "exact.go:3721", after := #[], guard := none }) rfl (fun K hK => ?_) AllReadyH.nil
            go_simp
            refine hK.out _ _ ?_ (fun hHeld => ?_)
            · try dsimp only
              exact keep15 xXw2 vTw2 (by go_grown)
            clear hK K
            try simp only [Act.put, List.setIfInBounds_toArray, List.set_cons_zero, List.set_cons_succ]
            refine wpAnyH_ready (rs := [10]) (by kernel_rfl) (by simp) ?_
            refine AllReadyH.cons (o := { dst := none, op := Go.Op.store 56 (Go.Operand.tmp 8) (Go.Operand.tmp 30), type := 0, pos := "exact.go:3721", after := #[{ on := 9, ground := Go.Ground.data }, { on := 7, ground := Go.Ground.data }, { on := 5, ground := Go.Ground.chain }, { on := 0, ground := Go.Ground.phase }, { on := 1, ground := Go.Ground.phase }, { on := 2, ground := Go.Ground.phase }, { on := 3, ground := Go.Ground.phase }, { on := 4, ground := Go.Ground.phase }, { on := 5, ground := Go.Ground.phase }, { on := 6, ground := Go.Ground.phase }, { on := 7, ground := Go.Ground.phase }, { on := 8, ground := Go.Ground.textOnly Go.Departure.lateStores }, { on := 9, ground := Go.Ground.phase }], guard := none }) rfl (fun K hK => ?_) AllReadyH.nil
            go_simp
            refine hK.out _ _ ?_ (fun hHeld => ?_)
            · try dsimp only
              exact keep15 xXw2 vTw2 (by go_grown)
            clear hK K
            try simp only [Act.put, List.setIfInBounds_toArray, List.set_cons_zero, List.set_cons_succ]
            refine wpAnyH_take (i := 11) (oi := { dst := some 9, op := Go.Op.assign (Go.Operand.tmp 31), type := 4, pos := "exact.go:3721", after := #[{ on := 8, ground := Go.Ground.data }, { on := 10, ground := Go.Ground.chain }, { on := 0, ground := Go.Ground.phase }, { on := 1, ground := Go.Ground.phase }, { on := 2, ground := Go.Ground.phase }, { on := 3, ground := Go.Ground.phase }, { on := 4, ground := Go.Ground.phase }, { on := 5, ground := Go.Ground.phase }, { on := 6, ground := Go.Ground.phase }, { on := 7, ground := Go.Ground.phase }, { on := 8, ground := Go.Ground.phase }, { on := 9, ground := Go.Ground.phase }, { on := 10, ground := Go.Ground.phase }], guard := none }) (v := ?_) rfl (by kernel_rfl) (by kernel_rfl) (by kernel_rfl) (fun _ _ _ h => h) (Or.inl ⟨by rfl, ?_⟩) (by assumption) ?_
            rotate_left
            · (intro w hSw; (try dsimp only at hSw); first | (go_simp; done) | (go_simp; with_reducible rfl))
            try simp only [Act.put, List.setIfInBounds_toArray, List.set_cons_zero, List.set_cons_succ]
            refine wpAnyH_done (by kernel_rfl) ?_ _
            (go_wp2_with fail; go_meet; exact ⟨v3.heap.size, v2.heap.size, v3.heap.size, .slice ga gn gc, rfl, rfl, (by refine ⟨?_, ?_, ?_, ?_, ?_, ?_, ?_, ?_, ?_, ?_, ?_⟩ <;> first | (simp [go_sem]; done) | (simp; omega)), SF.below (B := v3.heap.size) (by go_grown) (Nat.le_refl _) HS5.out, below_on hbbv3 (by go_grown), hsbv3, by omega, by simp, .inr (Nat.le_refl _), by omega⟩)
            skip
          ·
            go_simp
            refine hK.out _ _ ?_ (fun hHeld => ?_)
            · try dsimp only
              exact keep15 xXw2 vTw2 (by go_grown)
            clear hK K
            try simp only [Act.put, List.setIfInBounds_toArray, List.set_cons_zero, List.set_cons_succ]
            refine wpAnyH_ready (rs := [5]) (by kernel_rfl) (by simp) ?_
            refine AllReadyH.cons (o := { dst := some 29, op := Go.Op.call { callee := Go.Callee.value (Go.Operand.func 25), args := #[Go.Operand.tmp 25, Go.Operand.tmp 26, Go.Operand.tmp 28], argTypes := #[56, 3, 24] }, type := 57, pos := "exact.go:3721", after := #[{ on := 1, ground := Go.Ground.data }, { on := 2, ground := Go.Ground.data }, { on := 4, ground := Go.Ground.data }, { on := 4, ground := Go.Ground.chain }], guard := none }) rfl (fun K hK => ?_) AllReadyH.nil
            go_simp
            (go_at_call 25; refine (HSP.out _ _ _ (FS.below (w := v1) (B := v1.heap.size) (by go_grown) (Nat.le_refl _) hs3)).mono ?_; rintro e v3 ⟨s5, rfl, hs5, hbv3⟩; obtain ⟨ga, gn, gc, rfl⟩ := hs5.slice; have HS5 := Lib.hid hs5; have hbbv3 := below_on (w := w2) (by go_grown) hbv3; have hsbv3 : w2.heap.size ≤ v3.heap.size := hbbv3.size; have hbpv3 : Below v2.heap.size v2 v3 := below_on (w := v2) (by go_grown) hbv3; have hspv3 := hbpv3.size; have hbzn : C10 v3 (v2.heap.size) ⟨0, 0, 0, 0, 0, 0, 0, 0, 0⟩ (.slice none 0 0) := (c10_on (h := ⟨0, 0, 0, 0, 0, 0, 0, 0, 0⟩) (s := .slice none 0 0) (by refine ⟨?_, ?_, ?_, ?_, ?_, ?_, ?_, ?_, ?_, ?_, ?_⟩ <;> first | (simp [go_sem]; done) | (simp; omega)) hbv3); have fbzn : ∀ o, v3.frozen? ⟨v2.heap.size, o, none⟩ = false := (fun o => ((bcell hbv3).2 _ o (by simp)).trans (by simp [go_sem])); have hlz : v2.heap.size + 1 ≤ v3.heap.size := hbzn.1; have hbz := hbzn; have fbz := fbzn; clear hbzn fbzn; obtain ⟨b0, b1, b2, b3, b4, b5, b6, b7, b8, b9, b10⟩ := id hbz)
            (try go_wp2_with fail)
            refine hK.out _ _ ?_ (fun hHeld => ?_)
            · try dsimp only
              exact keep15 xXw2 vTw2 (by go_grown)
            clear hK K
            try simp only [Act.put, List.setIfInBounds_toArray, List.set_cons_zero, List.set_cons_succ]
            refine wpAnyH_take (i := 6) (oi := { dst := some 23, op := Go.Op.move (Go.Operand.tmp 29), type := 57, pos := "exact.go:3721", after := #[{ on := 5, ground := Go.Ground.data }], guard := none }) (v := ?_) rfl (by kernel_rfl) (by kernel_rfl) (by kernel_rfl) (fun _ _ _ h => h) (Or.inl ⟨by rfl, ?_⟩) (by assumption) ?_
            rotate_left
            · (intro w hSw; (try dsimp only at hSw); first | (go_simp; done) | (go_simp; with_reducible rfl))
            try simp only [Act.put, List.setIfInBounds_toArray, List.set_cons_zero, List.set_cons_succ]
            refine wpAnyH_take (i := 7) (oi := { dst := some 30, op := Go.Op.extract (Go.Operand.tmp 23) 0, type := 56, pos := "exact.go:3721", after := #[{ on := 6, ground := Go.Ground.data }], guard := none }) (v := ?_) rfl (by kernel_rfl) (by kernel_rfl) (by kernel_rfl) (fun _ _ _ h => h) (Or.inl ⟨by rfl, ?_⟩) (by assumption) ?_
            rotate_left
            · (intro w hSw; (try dsimp only at hSw); first | (go_simp; done) | (go_simp; with_reducible rfl))
            try simp only [Act.put, List.setIfInBounds_toArray, List.set_cons_zero, List.set_cons_succ]
            refine wpAnyH_take (i := 8) (oi := { dst := some 31, op := Go.Op.extract (Go.Operand.tmp 23) 1, type := 4, pos := "exact.go:3721", after := #[{ on := 6, ground := Go.Ground.data }, { on := 10, ground := Go.Ground.gcOnly Go.Departure.lateStores }], guard := none }) (v := ?_) rfl (by kernel_rfl) (by kernel_rfl) (by kernel_rfl) (fun _ _ _ h => h) (Or.inl ⟨by rfl, ?_⟩) (by assumption) ?_
            rotate_left
            · (intro w hSw; (try dsimp only at hSw); first | (go_simp; done) | (go_simp; with_reducible rfl))
            try simp only [Act.put, List.setIfInBounds_toArray, List.set_cons_zero, List.set_cons_succ]
            refine wpAnyH_ready (rs := [10]) (by kernel_rfl) (by simp) ?_
            refine AllReadyH.cons (o := { dst := none, op := Go.Op.store 56 (Go.Operand.tmp 8) (Go.Operand.tmp 30), type := 0, pos := "exact.go:3721", after := #[{ on := 9, ground := Go.Ground.data }, { on := 7, ground := Go.Ground.data }, { on := 5, ground := Go.Ground.chain }, { on := 0, ground := Go.Ground.phase }, { on := 1, ground := Go.Ground.phase }, { on := 2, ground := Go.Ground.phase }, { on := 3, ground := Go.Ground.phase }, { on := 4, ground := Go.Ground.phase }, { on := 5, ground := Go.Ground.phase }, { on := 6, ground := Go.Ground.phase }, { on := 7, ground := Go.Ground.phase }, { on := 8, ground := Go.Ground.textOnly Go.Departure.lateStores }, { on := 9, ground := Go.Ground.phase }], guard := none }) rfl (fun K hK => ?_) AllReadyH.nil
            go_simp
            refine hK.out _ _ ?_ (fun hHeld => ?_)
            · try dsimp only
              exact keep15 xXw2 vTw2 (by go_grown)
            clear hK K
            try simp only [Act.put, List.setIfInBounds_toArray, List.set_cons_zero, List.set_cons_succ]
            refine wpAnyH_take (i := 11) (oi := { dst := some 9, op := Go.Op.assign (Go.Operand.tmp 31), type := 4, pos := "exact.go:3721", after := #[{ on := 8, ground := Go.Ground.data }, { on := 10, ground := Go.Ground.chain }, { on := 0, ground := Go.Ground.phase }, { on := 1, ground := Go.Ground.phase }, { on := 2, ground := Go.Ground.phase }, { on := 3, ground := Go.Ground.phase }, { on := 4, ground := Go.Ground.phase }, { on := 5, ground := Go.Ground.phase }, { on := 6, ground := Go.Ground.phase }, { on := 7, ground := Go.Ground.phase }, { on := 8, ground := Go.Ground.phase }, { on := 9, ground := Go.Ground.phase }, { on := 10, ground := Go.Ground.phase }], guard := none }) (v := ?_) rfl (by kernel_rfl) (by kernel_rfl) (by kernel_rfl) (fun _ _ _ h => h) (Or.inl ⟨by rfl, ?_⟩) (by assumption) ?_
            rotate_left
            · (intro w hSw; (try dsimp only at hSw); first | (go_simp; done) | (go_simp; with_reducible rfl))
            try simp only [Act.put, List.setIfInBounds_toArray, List.set_cons_zero, List.set_cons_succ]
            refine wpAnyH_done (by kernel_rfl) ?_ _
            (generalize hX : World.setCell _ _ _ = wX; obtain ⟨hbx, hkX, hsX, hfX⟩ := ten_set (g := q.1) hbz hX; have hbX : Below w2.heap.size w2 wX := hbbv3.trans ((put10b (g := q.1) hbz hX).2 w2.heap.size (by omega)); have HSX := Lib.hid (SF.same (w' := wX) (fun x h1 h2 => hkX x (by first | omega | (simp at h1; omega))) HS5.out); clear hX hkX hfX hbz fbz b0 b1 b2 b3 b4 b5 b6 b7 b8 b9 b10; go_wp2_with fail; go_meet; exact ⟨v2.heap.size, _, _, .slice ga gn gc, rfl, rfl, hbx, HSX.out, hbX, by omega, by first | omega | (simp; done) | (simp; omega), by omega, .inl (by first | omega | (simp; done) | (simp; omega)), by first | omega | exact hbv3.size⟩)
            skip
        ·
          go_simp
          refine hK.out _ _ ?_ (fun hHeld => ?_)
          · try dsimp only
            exact keep15 xXw2 vTw2 (by go_grown)
          clear hK K
          try simp only [Act.put, List.setIfInBounds_toArray, List.set_cons_zero, List.set_cons_succ]
          refine wpAnyH_ready (rs := [4]) (by kernel_rfl) (by simp) ?_
          refine AllReadyH.cons (o := { dst := some 28, op := Go.Op.call { callee := Go.Callee.value (Go.Operand.func 18), args := #[Go.Operand.tmp 27], argTypes := #[37] }, type := 24, pos := "exact.go:3721", after := #[{ on := 3, ground := Go.Ground.data }, { on := 1, ground := Go.Ground.chain }], guard := none }) rfl (fun K hK => ?_) AllReadyH.nil
          go_simp
          (go_at_call 18; refine (HTT.out _).mono ?_; rintro e v2 ⟨rfl, hbv2⟩; have hbbv2 := below_on (w := w2) (by go_grown) hbv2; have hsbv2 : w2.heap.size ≤ v2.heap.size := hbbv2.size; have hbpv2 : Below v1.heap.size v1 v2 := below_on (w := v1) (by go_grown) hbv2; have hspv2 := hbpv2.size; have hbzn : C10 v2 (v1.heap.size) ⟨0, 0, 0, 0, 0, 0, 0, 0, 0⟩ (.slice none 0 0) := (c10_on (h := ⟨0, 0, 0, 0, 0, 0, 0, 0, 0⟩) (s := .slice none 0 0) (by refine ⟨?_, ?_, ?_, ?_, ?_, ?_, ?_, ?_, ?_, ?_, ?_⟩ <;> first | (simp [go_sem]; done) | (simp; omega)) hbv2); have fbzn : ∀ o, v2.frozen? ⟨v1.heap.size, o, none⟩ = false := (fun o => ((bcell hbv2).2 _ o (by simp)).trans (by simp [go_sem])); have hlz : v1.heap.size + 1 ≤ v2.heap.size := hbzn.1; have hbz := hbzn; have fbz := fbzn; clear hbzn fbzn)
          (try go_wp2_with fail)
          refine hK.out _ _ ?_ (fun hHeld => ?_)
          · try dsimp only
            exact keep15 xXw2 vTw2 (by go_grown)
          clear hK K
          try simp only [Act.put, List.setIfInBounds_toArray, List.set_cons_zero, List.set_cons_succ]
          refine wpAnyH_ready (rs := [5]) (by kernel_rfl) (by simp) ?_
          refine AllReadyH.cons (o := { dst := some 29, op := Go.Op.call { callee := Go.Callee.value (Go.Operand.func 25), args := #[Go.Operand.tmp 25, Go.Operand.tmp 26, Go.Operand.tmp 28], argTypes := #[56, 3, 24] }, type := 57, pos := "exact.go:3721", after := #[{ on := 1, ground := Go.Ground.data }, { on := 2, ground := Go.Ground.data }, { on := 4, ground := Go.Ground.data }, { on := 4, ground := Go.Ground.chain }], guard := none }) rfl (fun K hK => ?_) AllReadyH.nil
          go_simp
          (go_at_call 25; refine (HSP.out _ _ _ (FS.below (w := v1) (B := v1.heap.size) (by go_grown) (Nat.le_refl _) hs3)).mono ?_; rintro e v3 ⟨s5, rfl, hs5, hbv3⟩; obtain ⟨ga, gn, gc, rfl⟩ := hs5.slice; have HS5 := Lib.hid hs5; have hbbv3 := below_on (w := w2) (by go_grown) hbv3; have hsbv3 : w2.heap.size ≤ v3.heap.size := hbbv3.size; have hbpv3 : Below v2.heap.size v2 v3 := below_on (w := v2) (by go_grown) hbv3; have hspv3 := hbpv3.size; have hbzn : C10 v3 (v1.heap.size) ⟨0, 0, 0, 0, 0, 0, 0, 0, 0⟩ (.slice none 0 0) := (c10_on (h := ⟨0, 0, 0, 0, 0, 0, 0, 0, 0⟩) (s := .slice none 0 0) hbz hbv3); have fbzn : ∀ o, v3.frozen? ⟨v1.heap.size, o, none⟩ = false := (fun o => ((bcell hbv3).2 _ o hbz.1).trans (fbz o)); clear hbz fbz; have hlz : v1.heap.size + 1 ≤ v3.heap.size := hbzn.1; have hbz := hbzn; have fbz := fbzn; clear hbzn fbzn; obtain ⟨b0, b1, b2, b3, b4, b5, b6, b7, b8, b9, b10⟩ := id hbz)
          (try go_wp2_with fail)
          refine hK.out _ _ ?_ (fun hHeld => ?_)
          · try dsimp only
            exact keep15 xXw2 vTw2 (by go_grown)
          clear hK K
          try simp only [Act.put, List.setIfInBounds_toArray, List.set_cons_zero, List.set_cons_succ]
          refine wpAnyH_take (i := 6) (oi := { dst := some 23, op := Go.Op.move (Go.Operand.tmp 29), type := 57, pos := "exact.go:3721", after := #[{ on := 5, ground := Go.Ground.data }], guard := none }) (v := ?_) rfl (by kernel_rfl) (by kernel_rfl) (by kernel_rfl) (fun _ _ _ h => h) (Or.inl ⟨by rfl, ?_⟩) (by assumption) ?_
          rotate_left
          · (intro w hSw; (try dsimp only at hSw); first | (go_simp; done) | (go_simp; with_reducible rfl))
          try simp only [Act.put, List.setIfInBounds_toArray, List.set_cons_zero, List.set_cons_succ]
          refine wpAnyH_take (i := 7) (oi := { dst := some 30, op := Go.Op.extract (Go.Operand.tmp 23) 0, type := 56, pos := "exact.go:3721", after := #[{ on := 6, ground := Go.Ground.data }], guard := none }) (v := ?_) rfl (by kernel_rfl) (by kernel_rfl) (by kernel_rfl) (fun _ _ _ h => h) (Or.inl ⟨by rfl, ?_⟩) (by assumption) ?_
          rotate_left
          · (intro w hSw; (try dsimp only at hSw); first | (go_simp; done) | (go_simp; with_reducible rfl))
          try simp only [Act.put, List.setIfInBounds_toArray, List.set_cons_zero, List.set_cons_succ]
          refine wpAnyH_take (i := 8) (oi := { dst := some 31, op := Go.Op.extract (Go.Operand.tmp 23) 1, type := 4, pos := "exact.go:3721", after := #[{ on := 6, ground := Go.Ground.data }, { on := 10, ground := Go.Ground.gcOnly Go.Departure.lateStores }], guard := none }) (v := ?_) rfl (by kernel_rfl) (by kernel_rfl) (by kernel_rfl) (fun _ _ _ h => h) (Or.inl ⟨by rfl, ?_⟩) (by assumption) ?_
          rotate_left
          · (intro w hSw; (try dsimp only at hSw); first | (go_simp; done) | (go_simp; with_reducible rfl))
          try simp only [Act.put, List.setIfInBounds_toArray, List.set_cons_zero, List.set_cons_succ]
          refine wpAnyH_ready (rs := [10]) (by kernel_rfl) (by simp) ?_
          refine AllReadyH.cons (o := { dst := none, op := Go.Op.store 56 (Go.Operand.tmp 8) (Go.Operand.tmp 30), type := 0, pos := "exact.go:3721", after := #[{ on := 9, ground := Go.Ground.data }, { on := 7, ground := Go.Ground.data }, { on := 5, ground := Go.Ground.chain }, { on := 0, ground := Go.Ground.phase }, { on := 1, ground := Go.Ground.phase }, { on := 2, ground := Go.Ground.phase }, { on := 3, ground := Go.Ground.phase }, { on := 4, ground := Go.Ground.phase }, { on := 5, ground := Go.Ground.phase }, { on := 6, ground := Go.Ground.phase }, { on := 7, ground := Go.Ground.phase }, { on := 8, ground := Go.Ground.textOnly Go.Departure.lateStores }, { on := 9, ground := Go.Ground.phase }], guard := none }) rfl (fun K hK => ?_) AllReadyH.nil
          go_simp
          refine hK.out _ _ ?_ (fun hHeld => ?_)
          · try dsimp only
            exact keep15 xXw2 vTw2 (by go_grown)
          clear hK K
          try simp only [Act.put, List.setIfInBounds_toArray, List.set_cons_zero, List.set_cons_succ]
          refine wpAnyH_take (i := 11) (oi := { dst := some 9, op := Go.Op.assign (Go.Operand.tmp 31), type := 4, pos := "exact.go:3721", after := #[{ on := 8, ground := Go.Ground.data }, { on := 10, ground := Go.Ground.chain }, { on := 0, ground := Go.Ground.phase }, { on := 1, ground := Go.Ground.phase }, { on := 2, ground := Go.Ground.phase }, { on := 3, ground := Go.Ground.phase }, { on := 4, ground := Go.Ground.phase }, { on := 5, ground := Go.Ground.phase }, { on := 6, ground := Go.Ground.phase }, { on := 7, ground := Go.Ground.phase }, { on := 8, ground := Go.Ground.phase }, { on := 9, ground := Go.Ground.phase }, { on := 10, ground := Go.Ground.phase }], guard := none }) (v := ?_) rfl (by kernel_rfl) (by kernel_rfl) (by kernel_rfl) (fun _ _ _ h => h) (Or.inl ⟨by rfl, ?_⟩) (by assumption) ?_
          rotate_left
          · (intro w hSw; (try dsimp only at hSw); first | (go_simp; done) | (go_simp; with_reducible rfl))
          try simp only [Act.put, List.setIfInBounds_toArray, List.set_cons_zero, List.set_cons_succ]
          refine wpAnyH_done (by kernel_rfl) ?_ _
          (generalize hX : World.setCell _ _ _ = wX; obtain ⟨hbx, hkX, hsX, hfX⟩ := ten_set (g := q.1) hbz hX; have hbX : Below w2.heap.size w2 wX := hbbv3.trans ((put10b (g := q.1) hbz hX).2 w2.heap.size (by omega)); have HSX := Lib.hid (SF.same (w' := wX) (fun x h1 h2 => hkX x (by first | omega | (simp at h1; omega))) HS5.out); clear hX hkX hfX hbz fbz b0 b1 b2 b3 b4 b5 b6 b7 b8 b9 b10; go_wp2_with fail; go_meet; exact ⟨v1.heap.size, _, _, .slice ga gn gc, rfl, rfl, hbx, HSX.out, hbX, by omega, by first | omega | (simp; done) | (simp; omega), by omega, .inl (by first | omega | (simp; done) | (simp; omega)), by first | omega | exact hbv3.size⟩)
          skip
      ·
        go_simp
        refine hK.out _ _ ?_ (fun hHeld => ?_)
        · try dsimp only
          exact keep15 xXw2 vTw2 (by go_grown)
        clear hK K
        try simp only [Act.put, List.setIfInBounds_toArray, List.set_cons_zero, List.set_cons_succ]
        refine wpAnyH_ready (rs := [1]) (by kernel_rfl) (by simp) ?_
        refine AllReadyH.cons (o := { dst := some 25, op := Go.Op.call { callee := Go.Callee.value (Go.Operand.func 26), args := #[Go.Operand.tmp 24], argTypes := #[52] }, type := 56, pos := "exact.go:3721", after := #[{ on := 0, ground := Go.Ground.data }], guard := none }) rfl (fun K hK => ?_) AllReadyH.nil
        go_simp
        (go_at_call 26; refine (HTF.out _ (by go_grown)).mono ?_; rintro e v1 ⟨s3, rfl, hs3, hbv1⟩; obtain ⟨a3, n3, c3, rfl⟩ := hs3.slice; have hbbv1 := below_on (w := w2) (by go_grown) hbv1; have hsbv1 : w2.heap.size ≤ v1.heap.size := hbbv1.size; have hbzn : C10 v1 (w2.heap.size) ⟨0, 0, 0, 0, 0, 0, 0, 0, 0⟩ (.slice none 0 0) := (c10_on (h := ⟨0, 0, 0, 0, 0, 0, 0, 0, 0⟩) (s := .slice none 0 0) (by refine ⟨?_, ?_, ?_, ?_, ?_, ?_, ?_, ?_, ?_, ?_, ?_⟩ <;> first | (simp [go_sem]; done) | (simp; omega)) hbv1); have fbzn : ∀ o, v1.frozen? ⟨w2.heap.size, o, none⟩ = false := (fun o => ((bcell hbv1).2 _ o (by simp)).trans (by simp [go_sem])); have hlz : w2.heap.size + 1 ≤ v1.heap.size := hbzn.1; have hbz := hbzn; have fbz := fbzn; clear hbzn fbzn)
        (try go_wp2_with fail)
        refine hK.out _ _ ?_ (fun hHeld => ?_)
        · try dsimp only
          exact keep15 xXw2 vTw2 (by go_grown)
        clear hK K
        try simp only [Act.put, List.setIfInBounds_toArray, List.set_cons_zero, List.set_cons_succ]
        refine wpAnyH_ready (rs := [4]) (by kernel_rfl) (by simp) ?_
        refine AllReadyH.cons (o := { dst := some 28, op := Go.Op.call { callee := Go.Callee.value (Go.Operand.func 18), args := #[Go.Operand.tmp 27], argTypes := #[37] }, type := 24, pos := "exact.go:3721", after := #[{ on := 3, ground := Go.Ground.data }, { on := 1, ground := Go.Ground.chain }], guard := none }) rfl (fun K hK => ?_) AllReadyH.nil
        go_simp
        (go_at_call 18; refine (HTT.out _).mono ?_; rintro e v2 ⟨rfl, hbv2⟩; have hbbv2 := below_on (w := w2) (by go_grown) hbv2; have hsbv2 : w2.heap.size ≤ v2.heap.size := hbbv2.size; have hbpv2 : Below v1.heap.size v1 v2 := below_on (w := v1) (by go_grown) hbv2; have hspv2 := hbpv2.size; have hbzn : C10 v2 (w2.heap.size) ⟨0, 0, 0, 0, 0, 0, 0, 0, 0⟩ (.slice none 0 0) := (c10_on (h := ⟨0, 0, 0, 0, 0, 0, 0, 0, 0⟩) (s := .slice none 0 0) hbz hbv2); have fbzn : ∀ o, v2.frozen? ⟨w2.heap.size, o, none⟩ = false := (fun o => ((bcell hbv2).2 _ o hbz.1).trans (fbz o)); clear hbz fbz; have hlz : w2.heap.size + 1 ≤ v2.heap.size := hbzn.1; have hbz := hbzn; have fbz := fbzn; clear hbzn fbzn)
        (try go_wp2_with fail)
        refine hK.out _ _ ?_ (fun hHeld => ?_)
        · try dsimp only
          exact keep15 xXw2 vTw2 (by go_grown)
        clear hK K
        try simp only [Act.put, List.setIfInBounds_toArray, List.set_cons_zero, List.set_cons_succ]
        refine wpAnyH_ready (rs := [5]) (by kernel_rfl) (by simp) ?_
        refine AllReadyH.cons (o := { dst := some 29, op := Go.Op.call { callee := Go.Callee.value (Go.Operand.func 25), args := #[Go.Operand.tmp 25, Go.Operand.tmp 26, Go.Operand.tmp 28], argTypes := #[56, 3, 24] }, type := 57, pos := "exact.go:3721", after := #[{ on := 1, ground := Go.Ground.data }, { on := 2, ground := Go.Ground.data }, { on := 4, ground := Go.Ground.data }, { on := 4, ground := Go.Ground.chain }], guard := none }) rfl (fun K hK => ?_) AllReadyH.nil
        go_simp
        (go_at_call 25; refine (HSP.out _ _ _ (FS.below (w := v1) (B := v1.heap.size) (by go_grown) (Nat.le_refl _) hs3)).mono ?_; rintro e v3 ⟨s5, rfl, hs5, hbv3⟩; obtain ⟨ga, gn, gc, rfl⟩ := hs5.slice; have HS5 := Lib.hid hs5; have hbbv3 := below_on (w := w2) (by go_grown) hbv3; have hsbv3 : w2.heap.size ≤ v3.heap.size := hbbv3.size; have hbpv3 : Below v2.heap.size v2 v3 := below_on (w := v2) (by go_grown) hbv3; have hspv3 := hbpv3.size; have hbzn : C10 v3 (w2.heap.size) ⟨0, 0, 0, 0, 0, 0, 0, 0, 0⟩ (.slice none 0 0) := (c10_on (h := ⟨0, 0, 0, 0, 0, 0, 0, 0, 0⟩) (s := .slice none 0 0) hbz hbv3); have fbzn : ∀ o, v3.frozen? ⟨w2.heap.size, o, none⟩ = false := (fun o => ((bcell hbv3).2 _ o hbz.1).trans (fbz o)); clear hbz fbz; have hlz : w2.heap.size + 1 ≤ v3.heap.size := hbzn.1; have hbz := hbzn; have fbz := fbzn; clear hbzn fbzn; obtain ⟨b0, b1, b2, b3, b4, b5, b6, b7, b8, b9, b10⟩ := id hbz)
        (try go_wp2_with fail)
        refine hK.out _ _ ?_ (fun hHeld => ?_)
        · try dsimp only
          exact keep15 xXw2 vTw2 (by go_grown)
        clear hK K
        try simp only [Act.put, List.setIfInBounds_toArray, List.set_cons_zero, List.set_cons_succ]
        refine wpAnyH_take (i := 6) (oi := { dst := some 23, op := Go.Op.move (Go.Operand.tmp 29), type := 57, pos := "exact.go:3721", after := #[{ on := 5, ground := Go.Ground.data }], guard := none }) (v := ?_) rfl (by kernel_rfl) (by kernel_rfl) (by kernel_rfl) (fun _ _ _ h => h) (Or.inl ⟨by rfl, ?_⟩) (by assumption) ?_
        rotate_left
        · (intro w hSw; (try dsimp only at hSw); first | (go_simp; done) | (go_simp; with_reducible rfl))
        try simp only [Act.put, List.setIfInBounds_toArray, List.set_cons_zero, List.set_cons_succ]
        refine wpAnyH_take (i := 7) (oi := { dst := some 30, op := Go.Op.extract (Go.Operand.tmp 23) 0, type := 56, pos := "exact.go:3721", after := #[{ on := 6, ground := Go.Ground.data }], guard := none }) (v := ?_) rfl (by kernel_rfl) (by kernel_rfl) (by kernel_rfl) (fun _ _ _ h => h) (Or.inl ⟨by rfl, ?_⟩) (by assumption) ?_
        rotate_left
        · (intro w hSw; (try dsimp only at hSw); first | (go_simp; done) | (go_simp; with_reducible rfl))
        try simp only [Act.put, List.setIfInBounds_toArray, List.set_cons_zero, List.set_cons_succ]
        refine wpAnyH_take (i := 8) (oi := { dst := some 31, op := Go.Op.extract (Go.Operand.tmp 23) 1, type := 4, pos := "exact.go:3721", after := #[{ on := 6, ground := Go.Ground.data }, { on := 10, ground := Go.Ground.gcOnly Go.Departure.lateStores }], guard := none }) (v := ?_) rfl (by kernel_rfl) (by kernel_rfl) (by kernel_rfl) (fun _ _ _ h => h) (Or.inl ⟨by rfl, ?_⟩) (by assumption) ?_
        rotate_left
        · (intro w hSw; (try dsimp only at hSw); first | (go_simp; done) | (go_simp; with_reducible rfl))
        try simp only [Act.put, List.setIfInBounds_toArray, List.set_cons_zero, List.set_cons_succ]
        refine wpAnyH_ready (rs := [10]) (by kernel_rfl) (by simp) ?_
        refine AllReadyH.cons (o := { dst := none, op := Go.Op.store 56 (Go.Operand.tmp 8) (Go.Operand.tmp 30), type := 0, pos := "exact.go:3721", after := #[{ on := 9, ground := Go.Ground.data }, { on := 7, ground := Go.Ground.data }, { on := 5, ground := Go.Ground.chain }, { on := 0, ground := Go.Ground.phase }, { on := 1, ground := Go.Ground.phase }, { on := 2, ground := Go.Ground.phase }, { on := 3, ground := Go.Ground.phase }, { on := 4, ground := Go.Ground.phase }, { on := 5, ground := Go.Ground.phase }, { on := 6, ground := Go.Ground.phase }, { on := 7, ground := Go.Ground.phase }, { on := 8, ground := Go.Ground.textOnly Go.Departure.lateStores }, { on := 9, ground := Go.Ground.phase }], guard := none }) rfl (fun K hK => ?_) AllReadyH.nil
        go_simp
        refine hK.out _ _ ?_ (fun hHeld => ?_)
        · try dsimp only
          exact keep15 xXw2 vTw2 (by go_grown)
        clear hK K
        try simp only [Act.put, List.setIfInBounds_toArray, List.set_cons_zero, List.set_cons_succ]
        refine wpAnyH_take (i := 11) (oi := { dst := some 9, op := Go.Op.assign (Go.Operand.tmp 31), type := 4, pos := "exact.go:3721", after := #[{ on := 8, ground := Go.Ground.data }, { on := 10, ground := Go.Ground.chain }, { on := 0, ground := Go.Ground.phase }, { on := 1, ground := Go.Ground.phase }, { on := 2, ground := Go.Ground.phase }, { on := 3, ground := Go.Ground.phase }, { on := 4, ground := Go.Ground.phase }, { on := 5, ground := Go.Ground.phase }, { on := 6, ground := Go.Ground.phase }, { on := 7, ground := Go.Ground.phase }, { on := 8, ground := Go.Ground.phase }, { on := 9, ground := Go.Ground.phase }, { on := 10, ground := Go.Ground.phase }], guard := none }) (v := ?_) rfl (by kernel_rfl) (by kernel_rfl) (by kernel_rfl) (fun _ _ _ h => h) (Or.inl ⟨by rfl, ?_⟩) (by assumption) ?_
        rotate_left
        · (intro w hSw; (try dsimp only at hSw); first | (go_simp; done) | (go_simp; with_reducible rfl))
        try simp only [Act.put, List.setIfInBounds_toArray, List.set_cons_zero, List.set_cons_succ]
        refine wpAnyH_done (by kernel_rfl) ?_ _
        (generalize hX : World.setCell _ _ _ = wX; obtain ⟨hbx, hkX, hsX, hfX⟩ := ten_set (g := q.1) hbz hX; have hbX : Below w2.heap.size w2 wX := hbbv3.trans ((put10b (g := q.1) hbz hX).2 w2.heap.size (by omega)); have HSX := Lib.hid (SF.same (w' := wX) (fun x h1 h2 => hkX x (by first | omega | (simp at h1; omega))) HS5.out); clear hX hkX hfX hbz fbz b0 b1 b2 b3 b4 b5 b6 b7 b8 b9 b10; go_wp2_with fail; go_meet; exact ⟨w2.heap.size, _, _, .slice ga gn gc, rfl, rfl, hbx, HSX.out, hbX, by omega, by first | omega | (simp; done) | (simp; omega), by omega, .inl (by first | omega | (simp; done) | (simp; omega)), by first | omega | exact hbv3.size⟩)
        skip
    case rest =>
      rename World => w3
      obtain ⟨bA, lA, mA, sA, rfl, rfl, xAw3, hSA, hbw3, h1A, h2A, h3A, h4A, h6A⟩ := hcut
      obtain ⟨aA, nA, cA, rfl⟩ := hSA.slice
      have SAw3 := Lib.hid hSA
      have h5A := xAw3.1
      clear hSA HTF
      have hsw3 := (hbw3).size
      have xXw3 := c10_on xXw2 hbw3
      have vTw3 := c5_on vTw2 hbw3
      have HBw3 := Lib.hid (below_on HBw2.out hbw3)
      clear xXw2 vTw2 HBw2
      clear hbw3
      obtain ⟨Xc0, Xc1, Xc2, Xc3, Xc4, Xc5, Xc6, Xc7, Xc8, Xc9, Xc10⟩ := id xXw3
      go_wp2_with fail
      refine (tF_any2 h f w3 lo _ HSZ.out (FS.below HBw3.out (Nat.le_refl _) HS.out)).mono ?_
      rintro e w4 ⟨s4, rfl, hs4, hn4, hb4⟩
      obtain ⟨a4, n4, c4, rfl⟩ := hs4.slice
      have hsw4 := (hb4).size
      have xXw4 := c10_on xXw3 hb4
      have xAw4 := c10_on xAw3 hb4
      have vTw4 := c5_on vTw3 hb4
      have SAw4 := Lib.hid (SF.below hb4 (by omega) SAw3.out)
      have HBw4 := Lib.hid (below_on HBw3.out hb4)
      clear Xc0 Xc1 Xc2 Xc3 Xc4 Xc5 Xc6 Xc7 Xc8 Xc9 Xc10 xXw3 xAw3 vTw3 SAw3 HBw3
      have FY4 := Lib.hid hs4
      have NY4 := Lib.hid hn4
      clear hs4 hn4 hb4
      go_upto_region 7 with fail
      generalize hW : World.alloc _ _ = w5
      have hb5 : Below w4.heap.size w4 w5 := by subst hW; go_grown
      have xY5 : C10 w5 w4.heap.size h (.slice a4 n4 c4) := by subst hW; exact (by refine ⟨?_, ?_, ?_, ?_, ?_, ?_, ?_, ?_, ?_, ?_, ?_⟩ <;> first | (simp [go_sem]; done) | (simp; omega))
      clear hW
      have hsw5 := (hb5).size
      have xXw5 := c10_on xXw4 hb5
      have xAw5 := c10_on xAw4 hb5
      have vTw5 := c5_on vTw4 hb5
      have SAw5 := Lib.hid (SF.below hb5 (by omega) SAw4.out)
      have NYw5 := Lib.hid (NS.same (fun x _ hx => (hb5).block x (by omega)) NY4.out)
      have FYw5 := Lib.hid (FS.below hb5 (Nat.le_refl _) FY4.out)
      have HBw5 := Lib.hid (below_on HBw4.out hb5)
      clear xXw4 xAw4 vTw4 SAw4 NY4 FY4 HBw4
      have hY := xY5.1
      clear hb5
      have HYF := FYw5
      have HTF := Lib.hid (fun V hV => tF_any h f V lo _ HSZ.out (FS.below (w := w5) hV (Nat.le_refl _) (FS.below HBw5.out (Nat.le_refl _) HS.out)))
      go_upto_region 7 with fail
      go_cut [11, 12] (fun p b V => SbRes w5 q tt p b V)
      case first =>
        refine wp_region_held_drew (S := (fun w' => Below w5.heap.size w5 w' ∧ (w'.cell? ⟨w4.heap.size, 0, none⟩ = some (.int .i64 h.k) ∧ w'.cell? ⟨w4.heap.size, 1, none⟩ = some (.int .i64 h.ak) ∧ w'.cell? ⟨w4.heap.size, 2, none⟩ = some (.int .i64 h.am) ∧ w'.cell? ⟨w4.heap.size, 3, none⟩ = some (.int .i64 h.a) ∧ w'.cell? ⟨w4.heap.size, 4, none⟩ = some (.int .i64 h.b) ∧ w'.cell? ⟨w4.heap.size, 5, none⟩ = some (.int .i64 h.c) ∧ w'.cell? ⟨w4.heap.size, 6, none⟩ = some (.int .i64 h.d) ∧ w'.cell? ⟨w4.heap.size, 7, none⟩ = some (.int .i64 h.n) ∧ w'.cell? ⟨w4.heap.size, 8, none⟩ = some (.int .i64 h.v) ∧ w'.cell? ⟨w4.heap.size, 9, none⟩ = some (.slice a4 n4 c4)) ∧ w'.cell? ⟨w.heap.size + 1, 0, none⟩ = some (.int .i64 σ.a) ∧ w'.cell? ⟨w.heap.size + 1, 1, none⟩ = some (.int .i64 σ.b) ∧ w'.cell? ⟨w.heap.size + 1, 2, none⟩ = some (.int .i64 σ.c) ∧ w'.cell? ⟨w.heap.size + 1, 3, none⟩ = some (.int .i64 σ.d) ∧ w'.cell? ⟨w.heap.size + 1, 4, none⟩ = some (.int .i64 σ.n))) (by kernel_rfl) ?_ (fun hHeld => ?_)
        · try dsimp only
          exact keep15 xY5 vTw5 (by go_grown)
        refine wpAnyH_take (i := 0) (oi := { dst := some 35, op := Go.Op.load 56 (Go.Operand.tmp 10), type := 56, pos := "exact.go:3723", after := #[], guard := none }) (v := ?_) rfl (by kernel_rfl) (by kernel_rfl) (by kernel_rfl) (fun _ _ _ h => h) (Or.inl ⟨by rfl, ?_⟩) (by assumption) ?_
        rotate_left
        · (intro w hSw; (try dsimp only at hSw); first | (go_simp; done) | (go_simp; with_reducible rfl))
        try simp only [Act.put, List.setIfInBounds_toArray, List.set_cons_zero, List.set_cons_succ]
        refine wpAnyH_take (i := 1) (oi := { dst := some 36, op := Go.Op.move (Go.Operand.tmp 1), type := 3, pos := "exact.go:3723", after := #[], guard := none }) (v := ?_) rfl (by kernel_rfl) (by kernel_rfl) (by kernel_rfl) (fun _ _ _ h => h) (Or.inl ⟨by rfl, ?_⟩) (by assumption) ?_
        rotate_left
        · (intro w hSw; (try dsimp only at hSw); first | (go_simp; done) | (go_simp; with_reducible rfl))
        try simp only [Act.put, List.setIfInBounds_toArray, List.set_cons_zero, List.set_cons_succ]
        refine wpAnyH_take (i := 2) (oi := { dst := some 37, op := Go.Op.load 37 (Go.Operand.tmp 5), type := 37, pos := "exact.go:3723", after := #[], guard := none }) (v := ?_) rfl (by kernel_rfl) (by kernel_rfl) (by kernel_rfl) (fun _ _ _ h => h) (Or.inl ⟨by rfl, ?_⟩) (by assumption) ?_
        rotate_left
        · (intro w hSw; (try dsimp only at hSw); first | (go_simp; done) | (go_simp; with_reducible rfl))
        try simp only [Act.put, List.setIfInBounds_toArray, List.set_cons_zero, List.set_cons_succ]
        refine wpAnyH_ready (rs := [3, 8]) (by kernel_rfl) (by simp) ?_
        refine AllReadyH.cons (o := { dst := some 38, op := Go.Op.call { callee := Go.Callee.value (Go.Operand.func 18), args := #[Go.Operand.tmp 37], argTypes := #[37] }, type := 24, pos := "exact.go:3723", after := #[{ on := 2, ground := Go.Ground.data }], guard := none }) rfl (fun K hK => ?_) (AllReadyH.cons (o := { dst := some 11, op := Go.Op.alloc 56, type := 0, pos := "exact.go:3723", after := #[], guard := none }) rfl (fun K hK => ?_) AllReadyH.nil)
        ·
          go_simp
          (go_at_call 18; refine (HTT.out _).mono ?_; rintro e v1 ⟨rfl, hbv1⟩; have hbbv1 := below_on (w := w5) (by go_grown) hbv1; have hsbv1 : w5.heap.size ≤ v1.heap.size := hbbv1.size)
          (try go_wp2_with fail)
          refine hK.out _ _ ?_ (fun hHeld => ?_)
          · try dsimp only
            exact keep15 xY5 vTw5 (by go_grown)
          clear hK K
          try simp only [Act.put, List.setIfInBounds_toArray, List.set_cons_zero, List.set_cons_succ]
          refine wpAnyH_ready (rs := [4, 8]) (by kernel_rfl) (by simp) ?_
          refine AllReadyH.cons (o := { dst := some 39, op := Go.Op.call { callee := Go.Callee.value (Go.Operand.func 27), args := #[Go.Operand.tmp 35, Go.Operand.tmp 36, Go.Operand.tmp 38], argTypes := #[56, 3, 24] }, type := 57, pos := "exact.go:3723", after := #[{ on := 0, ground := Go.Ground.data }, { on := 1, ground := Go.Ground.data }, { on := 3, ground := Go.Ground.data }, { on := 3, ground := Go.Ground.chain }], guard := none }) rfl (fun K hK => ?_) (AllReadyH.cons (o := { dst := some 11, op := Go.Op.alloc 56, type := 0, pos := "exact.go:3723", after := #[], guard := none }) rfl (fun K hK => ?_) AllReadyH.nil)
          ·
            go_simp
            (go_at_call 27; refine (HIM.out _ _ _ (FS.below (w := w5) (B := w5.heap.size) (by go_grown) (Nat.le_refl _) HYF.out)).mono ?_; rintro e v2 ⟨s5, rfl, hs5, hbv2⟩; obtain ⟨ga, gn, gc, rfl⟩ := hs5.slice; have HS5 := Lib.hid hs5; have hbbv2 := below_on (w := w5) (by go_grown) hbv2; have hsbv2 : w5.heap.size ≤ v2.heap.size := hbbv2.size; have hbpv2 : Below v1.heap.size v1 v2 := below_on (w := v1) (by go_grown) hbv2; have hspv2 := hbpv2.size)
            (try go_wp2_with fail)
            refine hK.out _ _ ?_ (fun hHeld => ?_)
            · try dsimp only
              exact keep15 xY5 vTw5 (by go_grown)
            clear hK K
            try simp only [Act.put, List.setIfInBounds_toArray, List.set_cons_zero, List.set_cons_succ]
            refine wpAnyH_take (i := 5) (oi := { dst := some 34, op := Go.Op.move (Go.Operand.tmp 39), type := 57, pos := "exact.go:3723", after := #[{ on := 4, ground := Go.Ground.data }], guard := none }) (v := ?_) rfl (by kernel_rfl) (by kernel_rfl) (by kernel_rfl) (fun _ _ _ h => h) (Or.inl ⟨by rfl, ?_⟩) (by assumption) ?_
            rotate_left
            · (intro w hSw; (try dsimp only at hSw); first | (go_simp; done) | (go_simp; with_reducible rfl))
            try simp only [Act.put, List.setIfInBounds_toArray, List.set_cons_zero, List.set_cons_succ]
            refine wpAnyH_take (i := 6) (oi := { dst := some 40, op := Go.Op.extract (Go.Operand.tmp 34) 0, type := 56, pos := "exact.go:3723", after := #[{ on := 5, ground := Go.Ground.data }], guard := none }) (v := ?_) rfl (by kernel_rfl) (by kernel_rfl) (by kernel_rfl) (fun _ _ _ h => h) (Or.inl ⟨by rfl, ?_⟩) (by assumption) ?_
            rotate_left
            · (intro w hSw; (try dsimp only at hSw); first | (go_simp; done) | (go_simp; with_reducible rfl))
            try simp only [Act.put, List.setIfInBounds_toArray, List.set_cons_zero, List.set_cons_succ]
            refine wpAnyH_take (i := 7) (oi := { dst := some 41, op := Go.Op.extract (Go.Operand.tmp 34) 1, type := 4, pos := "exact.go:3723", after := #[{ on := 5, ground := Go.Ground.data }, { on := 9, ground := Go.Ground.gcOnly Go.Departure.lateStores }], guard := none }) (v := ?_) rfl (by kernel_rfl) (by kernel_rfl) (by kernel_rfl) (fun _ _ _ h => h) (Or.inl ⟨by rfl, ?_⟩) (by assumption) ?_
            rotate_left
            · (intro w hSw; (try dsimp only at hSw); first | (go_simp; done) | (go_simp; with_reducible rfl))
            try simp only [Act.put, List.setIfInBounds_toArray, List.set_cons_zero, List.set_cons_succ]
            refine wpAnyH_ready (rs := [8]) (by kernel_rfl) (by simp) ?_
            refine AllReadyH.cons (o := { dst := some 11, op := Go.Op.alloc 56, type := 0, pos := "exact.go:3723", after := #[], guard := none }) rfl (fun K hK => ?_) AllReadyH.nil
            go_simp
            refine hK.out _ _ ?_ (fun hHeld => ?_)
            · try dsimp only
              exact keep15 xY5 vTw5 (by go_grown)
            clear hK K
            try simp only [Act.put, List.setIfInBounds_toArray, List.set_cons_zero, List.set_cons_succ]
            refine wpAnyH_ready (rs := [9]) (by kernel_rfl) (by simp) ?_
            refine AllReadyH.cons (o := { dst := none, op := Go.Op.store 56 (Go.Operand.tmp 11) (Go.Operand.tmp 40), type := 0, pos := "exact.go:3723", after := #[{ on := 8, ground := Go.Ground.data }, { on := 6, ground := Go.Ground.data }, { on := 4, ground := Go.Ground.chain }, { on := 0, ground := Go.Ground.phase }, { on := 1, ground := Go.Ground.phase }, { on := 2, ground := Go.Ground.phase }, { on := 3, ground := Go.Ground.phase }, { on := 4, ground := Go.Ground.phase }, { on := 5, ground := Go.Ground.phase }, { on := 6, ground := Go.Ground.phase }, { on := 7, ground := Go.Ground.textOnly Go.Departure.lateStores }, { on := 8, ground := Go.Ground.phase }], guard := none }) rfl (fun K hK => ?_) AllReadyH.nil
            go_simp
            refine hK.out _ _ ?_ (fun hHeld => ?_)
            · try dsimp only
              exact keep15 xY5 vTw5 (by go_grown)
            clear hK K
            try simp only [Act.put, List.setIfInBounds_toArray, List.set_cons_zero, List.set_cons_succ]
            refine wpAnyH_take (i := 10) (oi := { dst := some 12, op := Go.Op.assign (Go.Operand.tmp 41), type := 4, pos := "exact.go:3723", after := #[{ on := 7, ground := Go.Ground.data }, { on := 9, ground := Go.Ground.chain }, { on := 0, ground := Go.Ground.phase }, { on := 1, ground := Go.Ground.phase }, { on := 2, ground := Go.Ground.phase }, { on := 3, ground := Go.Ground.phase }, { on := 4, ground := Go.Ground.phase }, { on := 5, ground := Go.Ground.phase }, { on := 6, ground := Go.Ground.phase }, { on := 7, ground := Go.Ground.phase }, { on := 8, ground := Go.Ground.phase }, { on := 9, ground := Go.Ground.phase }], guard := none }) (v := ?_) rfl (by kernel_rfl) (by kernel_rfl) (by kernel_rfl) (fun _ _ _ h => h) (Or.inl ⟨by rfl, ?_⟩) (by assumption) ?_
            rotate_left
            · (intro w hSw; (try dsimp only at hSw); first | (go_simp; done) | (go_simp; with_reducible rfl))
            try simp only [Act.put, List.setIfInBounds_toArray, List.set_cons_zero, List.set_cons_succ]
            refine wpAnyH_done (by kernel_rfl) ?_ _
            (go_wp2_with fail; go_meet; exact ⟨v2.heap.size, v1.heap.size, v2.heap.size, .slice ga gn gc, rfl, rfl, (by refine ⟨?_, ?_, ?_, ?_, ?_, ?_, ?_, ?_, ?_, ?_, ?_⟩ <;> first | (simp [go_sem]; done) | (simp; omega)), SF.below (B := v2.heap.size) (by go_grown) (Nat.le_refl _) HS5.out, below_on hbbv2 (by go_grown), hsbv2, by omega, by simp, .inr (Nat.le_refl _), by omega⟩)
            skip
          ·
            go_simp
            refine hK.out _ _ ?_ (fun hHeld => ?_)
            · try dsimp only
              exact keep15 xY5 vTw5 (by go_grown)
            clear hK K
            try simp only [Act.put, List.setIfInBounds_toArray, List.set_cons_zero, List.set_cons_succ]
            refine wpAnyH_ready (rs := [4]) (by kernel_rfl) (by simp) ?_
            refine AllReadyH.cons (o := { dst := some 39, op := Go.Op.call { callee := Go.Callee.value (Go.Operand.func 27), args := #[Go.Operand.tmp 35, Go.Operand.tmp 36, Go.Operand.tmp 38], argTypes := #[56, 3, 24] }, type := 57, pos := "exact.go:3723", after := #[{ on := 0, ground := Go.Ground.data }, { on := 1, ground := Go.Ground.data }, { on := 3, ground := Go.Ground.data }, { on := 3, ground := Go.Ground.chain }], guard := none }) rfl (fun K hK => ?_) AllReadyH.nil
            go_simp
            (go_at_call 27; refine (HIM.out _ _ _ (FS.below (w := w5) (B := w5.heap.size) (by go_grown) (Nat.le_refl _) HYF.out)).mono ?_; rintro e v2 ⟨s5, rfl, hs5, hbv2⟩; obtain ⟨ga, gn, gc, rfl⟩ := hs5.slice; have HS5 := Lib.hid hs5; have hbbv2 := below_on (w := w5) (by go_grown) hbv2; have hsbv2 : w5.heap.size ≤ v2.heap.size := hbbv2.size; have hbpv2 : Below v1.heap.size v1 v2 := below_on (w := v1) (by go_grown) hbv2; have hspv2 := hbpv2.size; have hbzn : C10 v2 (v1.heap.size) ⟨0, 0, 0, 0, 0, 0, 0, 0, 0⟩ (.slice none 0 0) := (c10_on (h := ⟨0, 0, 0, 0, 0, 0, 0, 0, 0⟩) (s := .slice none 0 0) (by refine ⟨?_, ?_, ?_, ?_, ?_, ?_, ?_, ?_, ?_, ?_, ?_⟩ <;> first | (simp [go_sem]; done) | (simp; omega)) hbv2); have fbzn : ∀ o, v2.frozen? ⟨v1.heap.size, o, none⟩ = false := (fun o => ((bcell hbv2).2 _ o (by simp)).trans (by simp [go_sem])); have hlz : v1.heap.size + 1 ≤ v2.heap.size := hbzn.1; have hbz := hbzn; have fbz := fbzn; clear hbzn fbzn; obtain ⟨b0, b1, b2, b3, b4, b5, b6, b7, b8, b9, b10⟩ := id hbz)
            (try go_wp2_with fail)
            refine hK.out _ _ ?_ (fun hHeld => ?_)
            · try dsimp only
              exact keep15 xY5 vTw5 (by go_grown)
            clear hK K
            try simp only [Act.put, List.setIfInBounds_toArray, List.set_cons_zero, List.set_cons_succ]
            refine wpAnyH_take (i := 5) (oi := { dst := some 34, op := Go.Op.move (Go.Operand.tmp 39), type := 57, pos := "exact.go:3723", after := #[{ on := 4, ground := Go.Ground.data }], guard := none }) (v := ?_) rfl (by kernel_rfl) (by kernel_rfl) (by kernel_rfl) (fun _ _ _ h => h) (Or.inl ⟨by rfl, ?_⟩) (by assumption) ?_
            rotate_left
            · (intro w hSw; (try dsimp only at hSw); first | (go_simp; done) | (go_simp; with_reducible rfl))
            try simp only [Act.put, List.setIfInBounds_toArray, List.set_cons_zero, List.set_cons_succ]
            refine wpAnyH_take (i := 6) (oi := { dst := some 40, op := Go.Op.extract (Go.Operand.tmp 34) 0, type := 56, pos := "exact.go:3723", after := #[{ on := 5, ground := Go.Ground.data }], guard := none }) (v := ?_) rfl (by kernel_rfl) (by kernel_rfl) (by kernel_rfl) (fun _ _ _ h => h) (Or.inl ⟨by rfl, ?_⟩) (by assumption) ?_
            rotate_left
            · (intro w hSw; (try dsimp only at hSw); first | (go_simp; done) | (go_simp; with_reducible rfl))
            try simp only [Act.put, List.setIfInBounds_toArray, List.set_cons_zero, List.set_cons_succ]
            refine wpAnyH_take (i := 7) (oi := { dst := some 41, op := Go.Op.extract (Go.Operand.tmp 34) 1, type := 4, pos := "exact.go:3723", after := #[{ on := 5, ground := Go.Ground.data }, { on := 9, ground := Go.Ground.gcOnly Go.Departure.lateStores }], guard := none }) (v := ?_) rfl (by kernel_rfl) (by kernel_rfl) (by kernel_rfl) (fun _ _ _ h => h) (Or.inl ⟨by rfl, ?_⟩) (by assumption) ?_
            rotate_left
            · (intro w hSw; (try dsimp only at hSw); first | (go_simp; done) | (go_simp; with_reducible rfl))
            try simp only [Act.put, List.setIfInBounds_toArray, List.set_cons_zero, List.set_cons_succ]
            refine wpAnyH_ready (rs := [9]) (by kernel_rfl) (by simp) ?_
            refine AllReadyH.cons (o := { dst := none, op := Go.Op.store 56 (Go.Operand.tmp 11) (Go.Operand.tmp 40), type := 0, pos := "exact.go:3723", after := #[{ on := 8, ground := Go.Ground.data }, { on := 6, ground := Go.Ground.data }, { on := 4, ground := Go.Ground.chain }, { on := 0, ground := Go.Ground.phase }, { on := 1, ground := Go.Ground.phase }, { on := 2, ground := Go.Ground.phase }, { on := 3, ground := Go.Ground.phase }, { on := 4, ground := Go.Ground.phase }, { on := 5, ground := Go.Ground.phase }, { on := 6, ground := Go.Ground.phase }, { on := 7, ground := Go.Ground.textOnly Go.Departure.lateStores }, { on := 8, ground := Go.Ground.phase }], guard := none }) rfl (fun K hK => ?_) AllReadyH.nil
            go_simp
            refine hK.out _ _ ?_ (fun hHeld => ?_)
            · try dsimp only
              exact keep15 xY5 vTw5 (by go_grown)
            clear hK K
            try simp only [Act.put, List.setIfInBounds_toArray, List.set_cons_zero, List.set_cons_succ]
            refine wpAnyH_take (i := 10) (oi := { dst := some 12, op := Go.Op.assign (Go.Operand.tmp 41), type := 4, pos := "exact.go:3723", after := #[{ on := 7, ground := Go.Ground.data }, { on := 9, ground := Go.Ground.chain }, { on := 0, ground := Go.Ground.phase }, { on := 1, ground := Go.Ground.phase }, { on := 2, ground := Go.Ground.phase }, { on := 3, ground := Go.Ground.phase }, { on := 4, ground := Go.Ground.phase }, { on := 5, ground := Go.Ground.phase }, { on := 6, ground := Go.Ground.phase }, { on := 7, ground := Go.Ground.phase }, { on := 8, ground := Go.Ground.phase }, { on := 9, ground := Go.Ground.phase }], guard := none }) (v := ?_) rfl (by kernel_rfl) (by kernel_rfl) (by kernel_rfl) (fun _ _ _ h => h) (Or.inl ⟨by rfl, ?_⟩) (by assumption) ?_
            rotate_left
            · (intro w hSw; (try dsimp only at hSw); first | (go_simp; done) | (go_simp; with_reducible rfl))
            try simp only [Act.put, List.setIfInBounds_toArray, List.set_cons_zero, List.set_cons_succ]
            refine wpAnyH_done (by kernel_rfl) ?_ _
            (generalize hX : World.setCell _ _ _ = wX; obtain ⟨hbx, hkX, hsX, hfX⟩ := ten_set (g := q.1) hbz hX; have hbX : Below w5.heap.size w5 wX := hbbv2.trans ((put10b (g := q.1) hbz hX).2 w5.heap.size (by omega)); have HSX := Lib.hid (SF.same (w' := wX) (fun x h1 h2 => hkX x (by first | omega | (simp at h1; omega))) HS5.out); clear hX hkX hfX hbz fbz b0 b1 b2 b3 b4 b5 b6 b7 b8 b9 b10; go_wp2_with fail; go_meet; exact ⟨v1.heap.size, _, _, .slice ga gn gc, rfl, rfl, hbx, HSX.out, hbX, by omega, by first | omega | (simp; done) | (simp; omega), by omega, .inl (by first | omega | (simp; done) | (simp; omega)), by first | omega | exact hbv2.size⟩)
            skip
        ·
          go_simp
          refine hK.out _ _ ?_ (fun hHeld => ?_)
          · try dsimp only
            exact keep15 xY5 vTw5 (by go_grown)
          clear hK K
          try simp only [Act.put, List.setIfInBounds_toArray, List.set_cons_zero, List.set_cons_succ]
          refine wpAnyH_ready (rs := [3]) (by kernel_rfl) (by simp) ?_
          refine AllReadyH.cons (o := { dst := some 38, op := Go.Op.call { callee := Go.Callee.value (Go.Operand.func 18), args := #[Go.Operand.tmp 37], argTypes := #[37] }, type := 24, pos := "exact.go:3723", after := #[{ on := 2, ground := Go.Ground.data }], guard := none }) rfl (fun K hK => ?_) AllReadyH.nil
          go_simp
          (go_at_call 18; refine (HTT.out _).mono ?_; rintro e v1 ⟨rfl, hbv1⟩; have hbbv1 := below_on (w := w5) (by go_grown) hbv1; have hsbv1 : w5.heap.size ≤ v1.heap.size := hbbv1.size; have hbzn : C10 v1 (w5.heap.size) ⟨0, 0, 0, 0, 0, 0, 0, 0, 0⟩ (.slice none 0 0) := (c10_on (h := ⟨0, 0, 0, 0, 0, 0, 0, 0, 0⟩) (s := .slice none 0 0) (by refine ⟨?_, ?_, ?_, ?_, ?_, ?_, ?_, ?_, ?_, ?_, ?_⟩ <;> first | (simp [go_sem]; done) | (simp; omega)) hbv1); have fbzn : ∀ o, v1.frozen? ⟨w5.heap.size, o, none⟩ = false := (fun o => ((bcell hbv1).2 _ o (by simp)).trans (by simp [go_sem])); have hlz : w5.heap.size + 1 ≤ v1.heap.size := hbzn.1; have hbz := hbzn; have fbz := fbzn; clear hbzn fbzn)
          (try go_wp2_with fail)
          refine hK.out _ _ ?_ (fun hHeld => ?_)
          · try dsimp only
            exact keep15 xY5 vTw5 (by go_grown)
          clear hK K
          try simp only [Act.put, List.setIfInBounds_toArray, List.set_cons_zero, List.set_cons_succ]
          refine wpAnyH_ready (rs := [4]) (by kernel_rfl) (by simp) ?_
          refine AllReadyH.cons (o := { dst := some 39, op := Go.Op.call { callee := Go.Callee.value (Go.Operand.func 27), args := #[Go.Operand.tmp 35, Go.Operand.tmp 36, Go.Operand.tmp 38], argTypes := #[56, 3, 24] }, type := 57, pos := "exact.go:3723", after := #[{ on := 0, ground := Go.Ground.data }, { on := 1, ground := Go.Ground.data }, { on := 3, ground := Go.Ground.data }, { on := 3, ground := Go.Ground.chain }], guard := none }) rfl (fun K hK => ?_) AllReadyH.nil
          go_simp
          (go_at_call 27; refine (HIM.out _ _ _ (FS.below (w := w5) (B := w5.heap.size) (by go_grown) (Nat.le_refl _) HYF.out)).mono ?_; rintro e v2 ⟨s5, rfl, hs5, hbv2⟩; obtain ⟨ga, gn, gc, rfl⟩ := hs5.slice; have HS5 := Lib.hid hs5; have hbbv2 := below_on (w := w5) (by go_grown) hbv2; have hsbv2 : w5.heap.size ≤ v2.heap.size := hbbv2.size; have hbpv2 : Below v1.heap.size v1 v2 := below_on (w := v1) (by go_grown) hbv2; have hspv2 := hbpv2.size; have hbzn : C10 v2 (w5.heap.size) ⟨0, 0, 0, 0, 0, 0, 0, 0, 0⟩ (.slice none 0 0) := (c10_on (h := ⟨0, 0, 0, 0, 0, 0, 0, 0, 0⟩) (s := .slice none 0 0) hbz hbv2); have fbzn : ∀ o, v2.frozen? ⟨w5.heap.size, o, none⟩ = false := (fun o => ((bcell hbv2).2 _ o hbz.1).trans (fbz o)); clear hbz fbz; have hlz : w5.heap.size + 1 ≤ v2.heap.size := hbzn.1; have hbz := hbzn; have fbz := fbzn; clear hbzn fbzn; obtain ⟨b0, b1, b2, b3, b4, b5, b6, b7, b8, b9, b10⟩ := id hbz)
          (try go_wp2_with fail)
          refine hK.out _ _ ?_ (fun hHeld => ?_)
          · try dsimp only
            exact keep15 xY5 vTw5 (by go_grown)
          clear hK K
          try simp only [Act.put, List.setIfInBounds_toArray, List.set_cons_zero, List.set_cons_succ]
          refine wpAnyH_take (i := 5) (oi := { dst := some 34, op := Go.Op.move (Go.Operand.tmp 39), type := 57, pos := "exact.go:3723", after := #[{ on := 4, ground := Go.Ground.data }], guard := none }) (v := ?_) rfl (by kernel_rfl) (by kernel_rfl) (by kernel_rfl) (fun _ _ _ h => h) (Or.inl ⟨by rfl, ?_⟩) (by assumption) ?_
          rotate_left
          · (intro w hSw; (try dsimp only at hSw); first | (go_simp; done) | (go_simp; with_reducible rfl))
          try simp only [Act.put, List.setIfInBounds_toArray, List.set_cons_zero, List.set_cons_succ]
          refine wpAnyH_take (i := 6) (oi := { dst := some 40, op := Go.Op.extract (Go.Operand.tmp 34) 0, type := 56, pos := "exact.go:3723", after := #[{ on := 5, ground := Go.Ground.data }], guard := none }) (v := ?_) rfl (by kernel_rfl) (by kernel_rfl) (by kernel_rfl) (fun _ _ _ h => h) (Or.inl ⟨by rfl, ?_⟩) (by assumption) ?_
          rotate_left
          · (intro w hSw; (try dsimp only at hSw); first | (go_simp; done) | (go_simp; with_reducible rfl))
          try simp only [Act.put, List.setIfInBounds_toArray, List.set_cons_zero, List.set_cons_succ]
          refine wpAnyH_take (i := 7) (oi := { dst := some 41, op := Go.Op.extract (Go.Operand.tmp 34) 1, type := 4, pos := "exact.go:3723", after := #[{ on := 5, ground := Go.Ground.data }, { on := 9, ground := Go.Ground.gcOnly Go.Departure.lateStores }], guard := none }) (v := ?_) rfl (by kernel_rfl) (by kernel_rfl) (by kernel_rfl) (fun _ _ _ h => h) (Or.inl ⟨by rfl, ?_⟩) (by assumption) ?_
          rotate_left
          · (intro w hSw; (try dsimp only at hSw); first | (go_simp; done) | (go_simp; with_reducible rfl))
          try simp only [Act.put, List.setIfInBounds_toArray, List.set_cons_zero, List.set_cons_succ]
          refine wpAnyH_ready (rs := [9]) (by kernel_rfl) (by simp) ?_
          refine AllReadyH.cons (o := { dst := none, op := Go.Op.store 56 (Go.Operand.tmp 11) (Go.Operand.tmp 40), type := 0, pos := "exact.go:3723", after := #[{ on := 8, ground := Go.Ground.data }, { on := 6, ground := Go.Ground.data }, { on := 4, ground := Go.Ground.chain }, { on := 0, ground := Go.Ground.phase }, { on := 1, ground := Go.Ground.phase }, { on := 2, ground := Go.Ground.phase }, { on := 3, ground := Go.Ground.phase }, { on := 4, ground := Go.Ground.phase }, { on := 5, ground := Go.Ground.phase }, { on := 6, ground := Go.Ground.phase }, { on := 7, ground := Go.Ground.textOnly Go.Departure.lateStores }, { on := 8, ground := Go.Ground.phase }], guard := none }) rfl (fun K hK => ?_) AllReadyH.nil
          go_simp
          refine hK.out _ _ ?_ (fun hHeld => ?_)
          · try dsimp only
            exact keep15 xY5 vTw5 (by go_grown)
          clear hK K
          try simp only [Act.put, List.setIfInBounds_toArray, List.set_cons_zero, List.set_cons_succ]
          refine wpAnyH_take (i := 10) (oi := { dst := some 12, op := Go.Op.assign (Go.Operand.tmp 41), type := 4, pos := "exact.go:3723", after := #[{ on := 7, ground := Go.Ground.data }, { on := 9, ground := Go.Ground.chain }, { on := 0, ground := Go.Ground.phase }, { on := 1, ground := Go.Ground.phase }, { on := 2, ground := Go.Ground.phase }, { on := 3, ground := Go.Ground.phase }, { on := 4, ground := Go.Ground.phase }, { on := 5, ground := Go.Ground.phase }, { on := 6, ground := Go.Ground.phase }, { on := 7, ground := Go.Ground.phase }, { on := 8, ground := Go.Ground.phase }, { on := 9, ground := Go.Ground.phase }], guard := none }) (v := ?_) rfl (by kernel_rfl) (by kernel_rfl) (by kernel_rfl) (fun _ _ _ h => h) (Or.inl ⟨by rfl, ?_⟩) (by assumption) ?_
          rotate_left
          · (intro w hSw; (try dsimp only at hSw); first | (go_simp; done) | (go_simp; with_reducible rfl))
          try simp only [Act.put, List.setIfInBounds_toArray, List.set_cons_zero, List.set_cons_succ]
          refine wpAnyH_done (by kernel_rfl) ?_ _
          (generalize hX : World.setCell _ _ _ = wX; obtain ⟨hbx, hkX, hsX, hfX⟩ := ten_set (g := q.1) hbz hX; have hbX : Below w5.heap.size w5 wX := hbbv2.trans ((put10b (g := q.1) hbz hX).2 w5.heap.size (by omega)); have HSX := Lib.hid (SF.same (w' := wX) (fun x h1 h2 => hkX x (by first | omega | (simp at h1; omega))) HS5.out); clear hX hkX hfX hbz fbz b0 b1 b2 b3 b4 b5 b6 b7 b8 b9 b10; go_wp2_with fail; go_meet; exact ⟨w5.heap.size, _, _, .slice ga gn gc, rfl, rfl, hbx, HSX.out, hbX, by omega, by first | omega | (simp; done) | (simp; omega), by omega, .inl (by first | omega | (simp; done) | (simp; omega)), by first | omega | exact hbv2.size⟩)
          skip
      case rest =>
        rename World => w6
        obtain ⟨bG, lG, mG, sG, rfl, rfl, xGw6, hSG, hbw6, h1G, h2G, h3G, h4G, h6G⟩ := hcut
        obtain ⟨aG, nG, cG, rfl⟩ := hSG.slice
        have SGw6 := Lib.hid hSG
        have h5G := xGw6.1
        clear hSG HTF
        have hsw6 := (hbw6).size
        have xXw6 := c10_on xXw5 hbw6
        have xAw6 := c10_on xAw5 hbw6
        have xYw6 := c10_on xY5 hbw6
        have vTw6 := c5_on vTw5 hbw6
        have SAw6 := Lib.hid (SF.below hbw6 (by omega) SAw5.out)
        have NYw6 := Lib.hid (NS.same (fun x _ hx => (hbw6).block x (by omega)) NYw5.out)
        have FYw6 := Lib.hid (FS.below hbw6 (Nat.le_refl _) FYw5.out)
        have HBw6 := Lib.hid (below_on HBw5.out hbw6)
        clear xXw5 xAw5 xY5 vTw5 SAw5 NYw5 FYw5 HBw5
        clear hbw6
        clear HYF
        obtain ⟨Ac0, Ac1, Ac2, Ac3, Ac4, Ac5, Ac6, Ac7, Ac8, Ac9, Ac10⟩ := id xAw6
        obtain ⟨Gc0, Gc1, Gc2, Gc3, Gc4, Gc5, Gc6, Gc7, Gc8, Gc9, Gc10⟩ := id xGw6
        go_wp2_with fail
        refine (eqF_any q.1 q.2 w6 _ _ _ _ (SF.fs (by omega) SGw6.out) (SF.fs (by omega) SAw6.out)).mono ?_
        rintro e w7 ⟨rfl, hb7⟩
        have hsw7 := (hb7).size
        have xXw7 := c10_on xXw6 hb7
        have xAw7 := c10_on xAw6 hb7
        have xYw7 := c10_on xYw6 hb7
        have xGw7 := c10_on xGw6 hb7
        have vTw7 := c5_on vTw6 hb7
        have SAw7 := Lib.hid (SF.below hb7 (by omega) SAw6.out)
        have SGw7 := Lib.hid (SF.below hb7 (by omega) SGw6.out)
        have NYw7 := Lib.hid (NS.same (fun x _ hx => (hb7).block x (by omega)) NYw6.out)
        have FYw7 := Lib.hid (FS.below hb7 (Nat.le_refl _) FYw6.out)
        have HBw7 := Lib.hid (below_on HBw6.out hb7)
        clear Ac0 Ac1 Ac2 Ac3 Ac4 Ac5 Ac6 Ac7 Ac8 Ac9 Ac10 Gc0 Gc1 Gc2 Gc3 Gc4 Gc5 Gc6 Gc7 Gc8 Gc9 Gc10 xXw6 xAw6 xYw6 xGw6 vTw6 SAw6 SGw6 NYw6 FYw6 HBw6
        clear hb7
        have HTF := Lib.hid (fun V hV => tF_any h f V lo _ HSZ.out (FS.below (w := w7) hV (Nat.le_refl _) (FS.below HBw7.out (Nat.le_refl _) HS.out)))
        have HEQ := Lib.hid (fun V lo' s' hV hs' => eqF_any h f V _ lo' _ s' (FS.below (w := w7) hV (Nat.le_refl _) FYw7.out) hs')
        go_wp2_with fail
        refine wp_region_held_drew (S := (fun w' => Below w7.heap.size w7 w' ∧ (w'.cell? ⟨w.heap.size, 0, none⟩ = some (.int .i64 h.k) ∧ w'.cell? ⟨w.heap.size, 1, none⟩ = some (.int .i64 h.ak) ∧ w'.cell? ⟨w.heap.size, 2, none⟩ = some (.int .i64 h.am) ∧ w'.cell? ⟨w.heap.size, 3, none⟩ = some (.int .i64 h.a) ∧ w'.cell? ⟨w.heap.size, 4, none⟩ = some (.int .i64 h.b) ∧ w'.cell? ⟨w.heap.size, 5, none⟩ = some (.int .i64 h.c) ∧ w'.cell? ⟨w.heap.size, 6, none⟩ = some (.int .i64 h.d) ∧ w'.cell? ⟨w.heap.size, 7, none⟩ = some (.int .i64 h.n) ∧ w'.cell? ⟨w.heap.size, 8, none⟩ = some (.int .i64 h.v) ∧ w'.cell? ⟨w.heap.size, 9, none⟩ = some (.slice sa sn sc)) ∧ (w'.cell? ⟨w4.heap.size, 0, none⟩ = some (.int .i64 h.k) ∧ w'.cell? ⟨w4.heap.size, 1, none⟩ = some (.int .i64 h.ak) ∧ w'.cell? ⟨w4.heap.size, 2, none⟩ = some (.int .i64 h.am) ∧ w'.cell? ⟨w4.heap.size, 3, none⟩ = some (.int .i64 h.a) ∧ w'.cell? ⟨w4.heap.size, 4, none⟩ = some (.int .i64 h.b) ∧ w'.cell? ⟨w4.heap.size, 5, none⟩ = some (.int .i64 h.c) ∧ w'.cell? ⟨w4.heap.size, 6, none⟩ = some (.int .i64 h.d) ∧ w'.cell? ⟨w4.heap.size, 7, none⟩ = some (.int .i64 h.n) ∧ w'.cell? ⟨w4.heap.size, 8, none⟩ = some (.int .i64 h.v) ∧ w'.cell? ⟨w4.heap.size, 9, none⟩ = some (.slice a4 n4 c4)))) (by kernel_rfl) ?_ (fun hHeld => ?_)
        · try dsimp only
          exact keep20SubstFormula xXw7 xYw7 (by go_grown)
        refine wpAnyH_take (i := 0) (oi := { dst := some 51, op := Go.Op.load 56 (Go.Operand.tmp 10), type := 56, pos := "exact.go:3727", after := #[], guard := none }) (v := ?_) rfl (by kernel_rfl) (by kernel_rfl) (by kernel_rfl) (fun _ _ _ h => h) (Or.inl ⟨by rfl, ?_⟩) (by assumption) ?_
        rotate_left
        · (intro w hSw; (try dsimp only at hSw); first | (go_simp; done) | (go_simp; with_reducible rfl))
        try simp only [Act.put, List.setIfInBounds_toArray, List.set_cons_zero, List.set_cons_succ]
        refine wpAnyH_take (i := 1) (oi := { dst := some 52, op := Go.Op.load 52 (Go.Operand.tmp 3), type := 52, pos := "exact.go:3727", after := #[], guard := none }) (v := ?_) rfl (by kernel_rfl) (by kernel_rfl) (by kernel_rfl) (fun _ _ _ h => h) (Or.inl ⟨by rfl, ?_⟩) (by assumption) ?_
        rotate_left
        · (intro w hSw; (try dsimp only at hSw); first | (go_simp; done) | (go_simp; with_reducible rfl))
        try simp only [Act.put, List.setIfInBounds_toArray, List.set_cons_zero, List.set_cons_succ]
        refine wpAnyH_ready (rs := [2]) (by kernel_rfl) (by simp) ?_
        refine AllReadyH.cons (o := { dst := some 53, op := Go.Op.call { callee := Go.Callee.value (Go.Operand.func 26), args := #[Go.Operand.tmp 52], argTypes := #[52] }, type := 56, pos := "exact.go:3727", after := #[{ on := 1, ground := Go.Ground.data }], guard := none }) rfl (fun K hK => ?_) AllReadyH.nil
        go_simp
        (go_at_call 26; refine (HTF.out _ (by go_grown)).mono ?_; rintro e w8 ⟨s8, rfl, hs8, hb8⟩; have hbb8 := below_on (w := w7) (by go_grown) hb8; have hsb8 : w7.heap.size ≤ w8.heap.size := hbb8.size)
        (try go_wp2_with fail)
        refine hK.out _ _ ?_ (fun hHeld => ?_)
        · try dsimp only
          exact keep20SubstFormula xXw7 xYw7 (by go_grown)
        clear hK K
        try simp only [Act.put, List.setIfInBounds_toArray, List.set_cons_zero, List.set_cons_succ]
        refine wpAnyH_ready (rs := [3]) (by kernel_rfl) (by simp) ?_
        refine AllReadyH.cons (o := { dst := some 54, op := Go.Op.call { callee := Go.Callee.value (Go.Operand.func 28), args := #[Go.Operand.tmp 51, Go.Operand.tmp 53], argTypes := #[56, 56] }, type := 4, pos := "exact.go:3727", after := #[{ on := 0, ground := Go.Ground.data }, { on := 2, ground := Go.Ground.data }, { on := 2, ground := Go.Ground.chain }], guard := none }) rfl (fun K hK => ?_) AllReadyH.nil
        go_simp
        (go_at_call 28; refine (HEQ.out _ _ _ (by go_grown) hs8).mono ?_; rintro e w9 ⟨rfl, hb9⟩; have hbb9 := below_on hbb8 hb9; have hsb9 : w7.heap.size ≤ w9.heap.size := hbb9.size)
        (try go_wp2_with fail)
        refine hK.out _ _ ?_ (fun hHeld => ?_)
        · try dsimp only
          exact keep20SubstFormula xXw7 xYw7 (by go_grown)
        clear hK K
        try simp only [Act.put, List.setIfInBounds_toArray, List.set_cons_zero, List.set_cons_succ]
        refine wpAnyH_take (i := 4) (oi := { dst := some 55, op := Go.Op.unOp Go.UnOp.not 4 (Go.Operand.tmp 54), type := 4, pos := "exact.go:3727", after := #[{ on := 3, ground := Go.Ground.data }], guard := none }) (v := ?_) rfl (by kernel_rfl) (by kernel_rfl) (by kernel_rfl) (fun _ _ _ h => h) (Or.inl ⟨by rfl, ?_⟩) (by assumption) ?_
        rotate_left
        · (intro w hSw; (try dsimp only at hSw); first | (go_simp; done) | (go_simp; with_reducible rfl))
        try simp only [Act.put, List.setIfInBounds_toArray, List.set_cons_zero, List.set_cons_succ]
        refine wpAnyH_done (by kernel_rfl) ?_ _
        clear hHeld hb8 hb9 hbb8 hs8 HTF HEQ
        have hsw9 := (hbb9).size
        have xXw9 := c10_on xXw7 hbb9
        have xAw9 := c10_on xAw7 hbb9
        have xYw9 := c10_on xYw7 hbb9
        have xGw9 := c10_on xGw7 hbb9
        have vTw9 := c5_on vTw7 hbb9
        have SAw9 := Lib.hid (SF.below hbb9 (by omega) SAw7.out)
        have SGw9 := Lib.hid (SF.below hbb9 (by omega) SGw7.out)
        have NYw9 := Lib.hid (NS.same (fun x _ hx => (hbb9).block x (by omega)) NYw7.out)
        have FYw9 := Lib.hid (FS.below hbb9 (Nat.le_refl _) FYw7.out)
        have HBw9 := Lib.hid (below_on HBw7.out hbb9)
        clear xXw7 xAw7 xYw7 xGw7 vTw7 SAw7 SGw7 NYw7 FYw7 HBw7
        clear hbb9
        obtain ⟨Yc0, Yc1, Yc2, Yc3, Yc4, Yc5, Yc6, Yc7, Yc8, Yc9, Yc10⟩ := id xYw9
        go_wp2_with fail
        refine (mkF_any h f w9 w3.heap.size w4.heap.size _ 1 NYw9.out (by omega) (by omega) (by omega)).mono ?_
        rintro e w10 ⟨rfl, hk10⟩
        obtain ⟨qk, hqk⟩ : ∃ qk : Int, 1 + ((f.size * 9 : Nat) : Int) = qk := ⟨_, rfl⟩
        have hqk0 : ¬ qk < 0 := by omega
        rw [hqk]
        clear hqk
        have hsw10 := (hk10).size
        have xXw10 := c10_keeps xXw9 hk10 (by omega)
        have xAw10 := c10_keeps xAw9 hk10 (by omega)
        have xYw10 := c10_keeps xYw9 hk10 (by omega)
        have xGw10 := c10_keeps xGw9 hk10 (by omega)
        have vTw10 := c5_keeps vTw9 hk10 (by omega)
        have SAw10 := Lib.hid (SF.same (fun x h1 h2 => (hk10).block x (by omega) (by omega)) SAw9.out)
        have SGw10 := Lib.hid (SF.same (fun x h1 h2 => (hk10).block x (by omega) (by omega)) SGw9.out)
        have HBw10 := Lib.hid (HBw9.out.trans (((hk10).below (by omega)).mono (by omega)))
        clear Yc0 Yc1 Yc2 Yc3 Yc4 Yc5 Yc6 Yc7 Yc8 Yc9 Yc10 xXw9 xAw9 xYw9 xGw9 vTw9 SAw9 SGw9 HBw9
        clear hk10
        obtain ⟨Ac0, Ac1, Ac2, Ac3, Ac4, Ac5, Ac6, Ac7, Ac8, Ac9, Ac10⟩ := id xAw10
        obtain ⟨Gc0, Gc1, Gc2, Gc3, Gc4, Gc5, Gc6, Gc7, Gc8, Gc9, Gc10⟩ := id xGw10
        go_wp2_with fail
        refine (eqF_any q.1 q.2 w10 _ _ _ _ (SF.fs (by omega) SGw10.out) (SF.fs (by omega) SAw10.out)).mono ?_
        rintro e w11 ⟨rfl, hb11⟩
        have hsw11 := (hb11).size
        have xXw11 := c10_on xXw10 hb11
        have xAw11 := c10_on xAw10 hb11
        have xYw11 := c10_on xYw10 hb11
        have xGw11 := c10_on xGw10 hb11
        have vTw11 := c5_on vTw10 hb11
        have SAw11 := Lib.hid (SF.below hb11 (by omega) SAw10.out)
        have SGw11 := Lib.hid (SF.below hb11 (by omega) SGw10.out)
        have HBw11 := Lib.hid (below_on HBw10.out hb11)
        clear Ac0 Ac1 Ac2 Ac3 Ac4 Ac5 Ac6 Ac7 Ac8 Ac9 Ac10 Gc0 Gc1 Gc2 Gc3 Gc4 Gc5 Gc6 Gc7 Gc8 Gc9 Gc10 xXw10 xAw10 xYw10 xGw10 vTw10 SAw10 SGw10 HBw10
        clear hb11
        obtain ⟨Gc0, Gc1, Gc2, Gc3, Gc4, Gc5, Gc6, Gc7, Gc8, Gc9, Gc10⟩ := id xGw11
        obtain ⟨N, hN⟩ : ∃ N : Int, 1 + ((q.2.size * 9 : Nat) : Int) = N := ⟨_, rfl⟩
        have HN := Lib.hid hN
        have hN0 : ¬ N < 0 := by omega
        clear hN
        go_wp2_with fail
        refine (xkF_any q.1 q.2 w11 lG mG _ 1 SGw11.out (by omega) (by omega) (by omega)).mono ?_
        rintro e w12 ⟨rfl, hk12, hs12⟩
        rw [HN.out]
        have hsw12 := (hk12).size
        have xXw12 := c10_keeps xXw11 hk12 (by omega)
        have xAw12 := c10_keeps xAw11 hk12 (by omega)
        have xYw12 := c10_keeps xYw11 hk12 (by omega)
        have xGw12 := c10_keeps xGw11 hk12 (by omega)
        have vTw12 := c5_keeps vTw11 hk12 (by omega)
        have SAw12 := Lib.hid (SF.same (fun x h1 h2 => (hk12).block x (by omega) (by omega)) SAw11.out)
        have HBw12 := Lib.hid (HBw11.out.trans (((hk12).below (by omega)).mono (by omega)))
        clear Gc0 Gc1 Gc2 Gc3 Gc4 Gc5 Gc6 Gc7 Gc8 Gc9 Gc10 xXw11 xAw11 xYw11 xGw11 vTw11 SAw11 HBw11
        have SG12 := Lib.hid hs12
        clear hk12 hs12 SGw11
        obtain ⟨Gc0, Gc1, Gc2, Gc3, Gc4, Gc5, Gc6, Gc7, Gc8, Gc9, Gc10⟩ := id xGw12
        go_wp2_with fail
        refine (heF_any q.1 q.2 w12 _ _ 1 (SF.fs (by omega) SG12.out) (by omega) (by omega)).mono ?_
        rintro e w13 ⟨rfl, hb13⟩
        rw [HN.out]
        have hsw13 := (hb13).size
        have xXw13 := c10_on xXw12 hb13
        have xAw13 := c10_on xAw12 hb13
        have xYw13 := c10_on xYw12 hb13
        have xGw13 := c10_on xGw12 hb13
        have vTw13 := c5_on vTw12 hb13
        have SAw13 := Lib.hid (SF.below hb13 (by omega) SAw12.out)
        have SGw13 := Lib.hid (SF.below hb13 (by omega) SG12.out)
        have HBw13 := Lib.hid (below_on HBw12.out hb13)
        clear Gc0 Gc1 Gc2 Gc3 Gc4 Gc5 Gc6 Gc7 Gc8 Gc9 Gc10 xXw12 xAw12 xYw12 xGw12 vTw12 SAw12 SG12 HBw12
        clear hb13
        have HTF := Lib.hid (fun V hV => tF_any h f V lo _ HSZ.out (FS.below (w := w13) hV (Nat.le_refl _) (FS.below HBw13.out (Nat.le_refl _) HS.out)))
        go_upto_region 24 with fail
        go_cut [16, 17] (fun p b V => SbRes w13 q tt p b V)
        case first =>
          refine wp_region_held_drew (S := (fun w' => Below w13.heap.size w13 w' ∧ (w'.cell? ⟨w.heap.size, 0, none⟩ = some (.int .i64 h.k) ∧ w'.cell? ⟨w.heap.size, 1, none⟩ = some (.int .i64 h.ak) ∧ w'.cell? ⟨w.heap.size, 2, none⟩ = some (.int .i64 h.am) ∧ w'.cell? ⟨w.heap.size, 3, none⟩ = some (.int .i64 h.a) ∧ w'.cell? ⟨w.heap.size, 4, none⟩ = some (.int .i64 h.b) ∧ w'.cell? ⟨w.heap.size, 5, none⟩ = some (.int .i64 h.c) ∧ w'.cell? ⟨w.heap.size, 6, none⟩ = some (.int .i64 h.d) ∧ w'.cell? ⟨w.heap.size, 7, none⟩ = some (.int .i64 h.n) ∧ w'.cell? ⟨w.heap.size, 8, none⟩ = some (.int .i64 h.v) ∧ w'.cell? ⟨w.heap.size, 9, none⟩ = some (.slice sa sn sc)) ∧ w'.cell? ⟨w.heap.size + 1, 0, none⟩ = some (.int .i64 σ.a) ∧ w'.cell? ⟨w.heap.size + 1, 1, none⟩ = some (.int .i64 σ.b) ∧ w'.cell? ⟨w.heap.size + 1, 2, none⟩ = some (.int .i64 σ.c) ∧ w'.cell? ⟨w.heap.size + 1, 3, none⟩ = some (.int .i64 σ.d) ∧ w'.cell? ⟨w.heap.size + 1, 4, none⟩ = some (.int .i64 σ.n))) (by kernel_rfl) ?_ (fun hHeld => ?_)
          · try dsimp only
            exact keep15 xXw13 vTw13 (by go_grown)
          refine wpAnyH_take (i := 0) (oi := { dst := some 84, op := Go.Op.load 52 (Go.Operand.tmp 3), type := 52, pos := "exact.go:3745", after := #[], guard := none }) (v := ?_) rfl (by kernel_rfl) (by kernel_rfl) (by kernel_rfl) (fun _ _ _ h => h) (Or.inl ⟨by rfl, ?_⟩) (by assumption) ?_
          rotate_left
          · (intro w hSw; (try dsimp only at hSw); first | (go_simp; done) | (go_simp; with_reducible rfl))
          try simp only [Act.put, List.setIfInBounds_toArray, List.set_cons_zero, List.set_cons_succ]
          refine wpAnyH_take (i := 2) (oi := { dst := some 86, op := Go.Op.move (Go.Operand.tmp 1), type := 3, pos := "exact.go:3745", after := #[], guard := none }) (v := ?_) rfl (by kernel_rfl) (by kernel_rfl) (by kernel_rfl) (fun _ _ _ h => h) (Or.inl ⟨by rfl, ?_⟩) (by assumption) ?_
          rotate_left
          · (intro w hSw; (try dsimp only at hSw); first | (go_simp; done) | (go_simp; with_reducible rfl))
          try simp only [Act.put, List.setIfInBounds_toArray, List.set_cons_zero, List.set_cons_succ]
          refine wpAnyH_take (i := 3) (oi := { dst := some 87, op := Go.Op.load 37 (Go.Operand.tmp 5), type := 37, pos := "exact.go:3745", after := #[], guard := none }) (v := ?_) rfl (by kernel_rfl) (by kernel_rfl) (by kernel_rfl) (fun _ _ _ h => h) (Or.inl ⟨by rfl, ?_⟩) (by assumption) ?_
          rotate_left
          · (intro w hSw; (try dsimp only at hSw); first | (go_simp; done) | (go_simp; with_reducible rfl))
          try simp only [Act.put, List.setIfInBounds_toArray, List.set_cons_zero, List.set_cons_succ]
          refine wpAnyH_ready (rs := [1, 9]) (by kernel_rfl) (by simp) ?_
          refine AllReadyH.cons (o := { dst := some 85, op := Go.Op.call { callee := Go.Callee.value (Go.Operand.func 26), args := #[Go.Operand.tmp 84], argTypes := #[52] }, type := 56, pos := "exact.go:3745", after := #[{ on := 0, ground := Go.Ground.data }], guard := none }) rfl (fun K hK => ?_) (AllReadyH.cons (o := { dst := some 16, op := Go.Op.alloc 56, type := 0, pos := "exact.go:3745", after := #[], guard := none }) rfl (fun K hK => ?_) AllReadyH.nil)
          ·
            go_simp
            (go_at_call 26; refine (HTF.out _ (by go_grown)).mono ?_; rintro e v1 ⟨s3, rfl, hs3, hbv1⟩; obtain ⟨a3, n3, c3, rfl⟩ := hs3.slice; have hbbv1 := below_on (w := w13) (by go_grown) hbv1; have hsbv1 : w13.heap.size ≤ v1.heap.size := hbbv1.size)
            (try go_wp2_with fail)
            refine hK.out _ _ ?_ (fun hHeld => ?_)
            · try dsimp only
              exact keep15 xXw13 vTw13 (by go_grown)
            clear hK K
            try simp only [Act.put, List.setIfInBounds_toArray, List.set_cons_zero, List.set_cons_succ]
            refine wpAnyH_ready (rs := [4, 9]) (by kernel_rfl) (by simp) ?_
            refine AllReadyH.cons (o := { dst := some 88, op := Go.Op.call { callee := Go.Callee.value (Go.Operand.func 18), args := #[Go.Operand.tmp 87], argTypes := #[37] }, type := 24, pos := "exact.go:3745", after := #[{ on := 3, ground := Go.Ground.data }, { on := 1, ground := Go.Ground.chain }], guard := none }) rfl (fun K hK => ?_) (AllReadyH.cons (o := { dst := some 16, op := Go.Op.alloc 56, type := 0, pos := "exact.go:3745", after := #[], guard := none }) rfl (fun K hK => ?_) AllReadyH.nil)
            ·
              go_simp
              (go_at_call 18; refine (HTT.out _).mono ?_; rintro e v2 ⟨rfl, hbv2⟩; have hbbv2 := below_on (w := w13) (by go_grown) hbv2; have hsbv2 : w13.heap.size ≤ v2.heap.size := hbbv2.size; have hbpv2 : Below v1.heap.size v1 v2 := below_on (w := v1) (by go_grown) hbv2; have hspv2 := hbpv2.size)
              (try go_wp2_with fail)
              refine hK.out _ _ ?_ (fun hHeld => ?_)
              · try dsimp only
                exact keep15 xXw13 vTw13 (by go_grown)
              clear hK K
              try simp only [Act.put, List.setIfInBounds_toArray, List.set_cons_zero, List.set_cons_succ]
              refine wpAnyH_ready (rs := [5, 9]) (by kernel_rfl) (by simp) ?_
              refine AllReadyH.cons (o := { dst := some 89, op := Go.Op.call { callee := Go.Callee.value (Go.Operand.func 27), args := #[Go.Operand.tmp 85, Go.Operand.tmp 86, Go.Operand.tmp 88], argTypes := #[56, 3, 24] }, type := 57, pos := "exact.go:3745", after := #[{ on := 1, ground := Go.Ground.data }, { on := 2, ground := Go.Ground.data }, { on := 4, ground := Go.Ground.data }, { on := 4, ground := Go.Ground.chain }], guard := none }) rfl (fun K hK => ?_) (AllReadyH.cons (o := { dst := some 16, op := Go.Op.alloc 56, type := 0, pos := "exact.go:3745", after := #[], guard := none }) rfl (fun K hK => ?_) AllReadyH.nil)
              ·
                go_simp
                (go_at_call 27; refine (HIM.out _ _ _ (FS.below (w := v1) (B := v1.heap.size) (by go_grown) (Nat.le_refl _) hs3)).mono ?_; rintro e v3 ⟨s5, rfl, hs5, hbv3⟩; obtain ⟨ga, gn, gc, rfl⟩ := hs5.slice; have HS5 := Lib.hid hs5; have hbbv3 := below_on (w := w13) (by go_grown) hbv3; have hsbv3 : w13.heap.size ≤ v3.heap.size := hbbv3.size; have hbpv3 : Below v2.heap.size v2 v3 := below_on (w := v2) (by go_grown) hbv3; have hspv3 := hbpv3.size)
                (try go_wp2_with fail)
                refine hK.out _ _ ?_ (fun hHeld => ?_)
                · try dsimp only
                  exact keep15 xXw13 vTw13 (by go_grown)
                clear hK K
                try simp only [Act.put, List.setIfInBounds_toArray, List.set_cons_zero, List.set_cons_succ]
                refine wpAnyH_take (i := 6) (oi := { dst := some 83, op := Go.Op.move (Go.Operand.tmp 89), type := 57, pos := "exact.go:3745", after := #[{ on := 5, ground := Go.Ground.data }], guard := none }) (v := ?_) rfl (by kernel_rfl) (by kernel_rfl) (by kernel_rfl) (fun _ _ _ h => h) (Or.inl ⟨by rfl, ?_⟩) (by assumption) ?_
                rotate_left
                · (intro w hSw; (try dsimp only at hSw); first | (go_simp; done) | (go_simp; with_reducible rfl))
                try simp only [Act.put, List.setIfInBounds_toArray, List.set_cons_zero, List.set_cons_succ]
                refine wpAnyH_take (i := 7) (oi := { dst := some 90, op := Go.Op.extract (Go.Operand.tmp 83) 0, type := 56, pos := "exact.go:3745", after := #[{ on := 6, ground := Go.Ground.data }], guard := none }) (v := ?_) rfl (by kernel_rfl) (by kernel_rfl) (by kernel_rfl) (fun _ _ _ h => h) (Or.inl ⟨by rfl, ?_⟩) (by assumption) ?_
                rotate_left
                · (intro w hSw; (try dsimp only at hSw); first | (go_simp; done) | (go_simp; with_reducible rfl))
                try simp only [Act.put, List.setIfInBounds_toArray, List.set_cons_zero, List.set_cons_succ]
                refine wpAnyH_take (i := 8) (oi := { dst := some 91, op := Go.Op.extract (Go.Operand.tmp 83) 1, type := 4, pos := "exact.go:3745", after := #[{ on := 6, ground := Go.Ground.data }, { on := 10, ground := Go.Ground.gcOnly Go.Departure.lateStores }], guard := none }) (v := ?_) rfl (by kernel_rfl) (by kernel_rfl) (by kernel_rfl) (fun _ _ _ h => h) (Or.inl ⟨by rfl, ?_⟩) (by assumption) ?_
                rotate_left
                · (intro w hSw; (try dsimp only at hSw); first | (go_simp; done) | (go_simp; with_reducible rfl))
                try simp only [Act.put, List.setIfInBounds_toArray, List.set_cons_zero, List.set_cons_succ]
                refine wpAnyH_ready (rs := [9]) (by kernel_rfl) (by simp) ?_
                refine AllReadyH.cons (o := { dst := some 16, op := Go.Op.alloc 56, type := 0, pos := "exact.go:3745", after := #[], guard := none }) rfl (fun K hK => ?_) AllReadyH.nil
                go_simp
                refine hK.out _ _ ?_ (fun hHeld => ?_)
                · try dsimp only
                  exact keep15 xXw13 vTw13 (by go_grown)
                clear hK K
                try simp only [Act.put, List.setIfInBounds_toArray, List.set_cons_zero, List.set_cons_succ]
                refine wpAnyH_ready (rs := [10]) (by kernel_rfl) (by simp) ?_
                refine AllReadyH.cons (o := { dst := none, op := Go.Op.store 56 (Go.Operand.tmp 16) (Go.Operand.tmp 90), type := 0, pos := "exact.go:3745", after := #[{ on := 9, ground := Go.Ground.data }, { on := 7, ground := Go.Ground.data }, { on := 5, ground := Go.Ground.chain }, { on := 0, ground := Go.Ground.phase }, { on := 1, ground := Go.Ground.phase }, { on := 2, ground := Go.Ground.phase }, { on := 3, ground := Go.Ground.phase }, { on := 4, ground := Go.Ground.phase }, { on := 5, ground := Go.Ground.phase }, { on := 6, ground := Go.Ground.phase }, { on := 7, ground := Go.Ground.phase }, { on := 8, ground := Go.Ground.textOnly Go.Departure.lateStores }, { on := 9, ground := Go.Ground.phase }], guard := none }) rfl (fun K hK => ?_) AllReadyH.nil
                go_simp
                refine hK.out _ _ ?_ (fun hHeld => ?_)
                · try dsimp only
                  exact keep15 xXw13 vTw13 (by go_grown)
                clear hK K
                try simp only [Act.put, List.setIfInBounds_toArray, List.set_cons_zero, List.set_cons_succ]
                refine wpAnyH_take (i := 11) (oi := { dst := some 17, op := Go.Op.assign (Go.Operand.tmp 91), type := 4, pos := "exact.go:3745", after := #[{ on := 8, ground := Go.Ground.data }, { on := 10, ground := Go.Ground.chain }, { on := 0, ground := Go.Ground.phase }, { on := 1, ground := Go.Ground.phase }, { on := 2, ground := Go.Ground.phase }, { on := 3, ground := Go.Ground.phase }, { on := 4, ground := Go.Ground.phase }, { on := 5, ground := Go.Ground.phase }, { on := 6, ground := Go.Ground.phase }, { on := 7, ground := Go.Ground.phase }, { on := 8, ground := Go.Ground.phase }, { on := 9, ground := Go.Ground.phase }, { on := 10, ground := Go.Ground.phase }], guard := none }) (v := ?_) rfl (by kernel_rfl) (by kernel_rfl) (by kernel_rfl) (fun _ _ _ h => h) (Or.inl ⟨by rfl, ?_⟩) (by assumption) ?_
                rotate_left
                · (intro w hSw; (try dsimp only at hSw); first | (go_simp; done) | (go_simp; with_reducible rfl))
                try simp only [Act.put, List.setIfInBounds_toArray, List.set_cons_zero, List.set_cons_succ]
                refine wpAnyH_done (by kernel_rfl) ?_ _
                (go_wp2_with fail; go_meet; exact ⟨v3.heap.size, v2.heap.size, v3.heap.size, .slice ga gn gc, rfl, rfl, (by refine ⟨?_, ?_, ?_, ?_, ?_, ?_, ?_, ?_, ?_, ?_, ?_⟩ <;> first | (simp [go_sem]; done) | (simp; omega)), SF.below (B := v3.heap.size) (by go_grown) (Nat.le_refl _) HS5.out, below_on hbbv3 (by go_grown), hsbv3, by omega, by simp, .inr (Nat.le_refl _), by omega⟩)
                skip
              ·
                go_simp
                refine hK.out _ _ ?_ (fun hHeld => ?_)
                · try dsimp only
                  exact keep15 xXw13 vTw13 (by go_grown)
                clear hK K
                try simp only [Act.put, List.setIfInBounds_toArray, List.set_cons_zero, List.set_cons_succ]
                refine wpAnyH_ready (rs := [5]) (by kernel_rfl) (by simp) ?_
                refine AllReadyH.cons (o := { dst := some 89, op := Go.Op.call { callee := Go.Callee.value (Go.Operand.func 27), args := #[Go.Operand.tmp 85, Go.Operand.tmp 86, Go.Operand.tmp 88], argTypes := #[56, 3, 24] }, type := 57, pos := "exact.go:3745", after := #[{ on := 1, ground := Go.Ground.data }, { on := 2, ground := Go.Ground.data }, { on := 4, ground := Go.Ground.data }, { on := 4, ground := Go.Ground.chain }], guard := none }) rfl (fun K hK => ?_) AllReadyH.nil
                go_simp
                (go_at_call 27; refine (HIM.out _ _ _ (FS.below (w := v1) (B := v1.heap.size) (by go_grown) (Nat.le_refl _) hs3)).mono ?_; rintro e v3 ⟨s5, rfl, hs5, hbv3⟩; obtain ⟨ga, gn, gc, rfl⟩ := hs5.slice; have HS5 := Lib.hid hs5; have hbbv3 := below_on (w := w13) (by go_grown) hbv3; have hsbv3 : w13.heap.size ≤ v3.heap.size := hbbv3.size; have hbpv3 : Below v2.heap.size v2 v3 := below_on (w := v2) (by go_grown) hbv3; have hspv3 := hbpv3.size; have hbzn : C10 v3 (v2.heap.size) ⟨0, 0, 0, 0, 0, 0, 0, 0, 0⟩ (.slice none 0 0) := (c10_on (h := ⟨0, 0, 0, 0, 0, 0, 0, 0, 0⟩) (s := .slice none 0 0) (by refine ⟨?_, ?_, ?_, ?_, ?_, ?_, ?_, ?_, ?_, ?_, ?_⟩ <;> first | (simp [go_sem]; done) | (simp; omega)) hbv3); have fbzn : ∀ o, v3.frozen? ⟨v2.heap.size, o, none⟩ = false := (fun o => ((bcell hbv3).2 _ o (by simp)).trans (by simp [go_sem])); have hlz : v2.heap.size + 1 ≤ v3.heap.size := hbzn.1; have hbz := hbzn; have fbz := fbzn; clear hbzn fbzn; obtain ⟨b0, b1, b2, b3, b4, b5, b6, b7, b8, b9, b10⟩ := id hbz)
                (try go_wp2_with fail)
                refine hK.out _ _ ?_ (fun hHeld => ?_)
                · try dsimp only
                  exact keep15 xXw13 vTw13 (by go_grown)
                clear hK K
                try simp only [Act.put, List.setIfInBounds_toArray, List.set_cons_zero, List.set_cons_succ]
                refine wpAnyH_take (i := 6) (oi := { dst := some 83, op := Go.Op.move (Go.Operand.tmp 89), type := 57, pos := "exact.go:3745", after := #[{ on := 5, ground := Go.Ground.data }], guard := none }) (v := ?_) rfl (by kernel_rfl) (by kernel_rfl) (by kernel_rfl) (fun _ _ _ h => h) (Or.inl ⟨by rfl, ?_⟩) (by assumption) ?_
                rotate_left
                · (intro w hSw; (try dsimp only at hSw); first | (go_simp; done) | (go_simp; with_reducible rfl))
                try simp only [Act.put, List.setIfInBounds_toArray, List.set_cons_zero, List.set_cons_succ]
                refine wpAnyH_take (i := 7) (oi := { dst := some 90, op := Go.Op.extract (Go.Operand.tmp 83) 0, type := 56, pos := "exact.go:3745", after := #[{ on := 6, ground := Go.Ground.data }], guard := none }) (v := ?_) rfl (by kernel_rfl) (by kernel_rfl) (by kernel_rfl) (fun _ _ _ h => h) (Or.inl ⟨by rfl, ?_⟩) (by assumption) ?_
                rotate_left
                · (intro w hSw; (try dsimp only at hSw); first | (go_simp; done) | (go_simp; with_reducible rfl))
                try simp only [Act.put, List.setIfInBounds_toArray, List.set_cons_zero, List.set_cons_succ]
                refine wpAnyH_take (i := 8) (oi := { dst := some 91, op := Go.Op.extract (Go.Operand.tmp 83) 1, type := 4, pos := "exact.go:3745", after := #[{ on := 6, ground := Go.Ground.data }, { on := 10, ground := Go.Ground.gcOnly Go.Departure.lateStores }], guard := none }) (v := ?_) rfl (by kernel_rfl) (by kernel_rfl) (by kernel_rfl) (fun _ _ _ h => h) (Or.inl ⟨by rfl, ?_⟩) (by assumption) ?_
                rotate_left
                · (intro w hSw; (try dsimp only at hSw); first | (go_simp; done) | (go_simp; with_reducible rfl))
                try simp only [Act.put, List.setIfInBounds_toArray, List.set_cons_zero, List.set_cons_succ]
                refine wpAnyH_ready (rs := [10]) (by kernel_rfl) (by simp) ?_
                refine AllReadyH.cons (o := { dst := none, op := Go.Op.store 56 (Go.Operand.tmp 16) (Go.Operand.tmp 90), type := 0, pos := "exact.go:3745", after := #[{ on := 9, ground := Go.Ground.data }, { on := 7, ground := Go.Ground.data }, { on := 5, ground := Go.Ground.chain }, { on := 0, ground := Go.Ground.phase }, { on := 1, ground := Go.Ground.phase }, { on := 2, ground := Go.Ground.phase }, { on := 3, ground := Go.Ground.phase }, { on := 4, ground := Go.Ground.phase }, { on := 5, ground := Go.Ground.phase }, { on := 6, ground := Go.Ground.phase }, { on := 7, ground := Go.Ground.phase }, { on := 8, ground := Go.Ground.textOnly Go.Departure.lateStores }, { on := 9, ground := Go.Ground.phase }], guard := none }) rfl (fun K hK => ?_) AllReadyH.nil
                go_simp
                refine hK.out _ _ ?_ (fun hHeld => ?_)
                · try dsimp only
                  exact keep15 xXw13 vTw13 (by go_grown)
                clear hK K
                try simp only [Act.put, List.setIfInBounds_toArray, List.set_cons_zero, List.set_cons_succ]
                refine wpAnyH_take (i := 11) (oi := { dst := some 17, op := Go.Op.assign (Go.Operand.tmp 91), type := 4, pos := "exact.go:3745", after := #[{ on := 8, ground := Go.Ground.data }, { on := 10, ground := Go.Ground.chain }, { on := 0, ground := Go.Ground.phase }, { on := 1, ground := Go.Ground.phase }, { on := 2, ground := Go.Ground.phase }, { on := 3, ground := Go.Ground.phase }, { on := 4, ground := Go.Ground.phase }, { on := 5, ground := Go.Ground.phase }, { on := 6, ground := Go.Ground.phase }, { on := 7, ground := Go.Ground.phase }, { on := 8, ground := Go.Ground.phase }, { on := 9, ground := Go.Ground.phase }, { on := 10, ground := Go.Ground.phase }], guard := none }) (v := ?_) rfl (by kernel_rfl) (by kernel_rfl) (by kernel_rfl) (fun _ _ _ h => h) (Or.inl ⟨by rfl, ?_⟩) (by assumption) ?_
                rotate_left
                · (intro w hSw; (try dsimp only at hSw); first | (go_simp; done) | (go_simp; with_reducible rfl))
                try simp only [Act.put, List.setIfInBounds_toArray, List.set_cons_zero, List.set_cons_succ]
                refine wpAnyH_done (by kernel_rfl) ?_ _
                (generalize hX : World.setCell _ _ _ = wX; obtain ⟨hbx, hkX, hsX, hfX⟩ := ten_set (g := q.1) hbz hX; have hbX : Below w13.heap.size w13 wX := hbbv3.trans ((put10b (g := q.1) hbz hX).2 w13.heap.size (by omega)); have HSX := Lib.hid (SF.same (w' := wX) (fun x h1 h2 => hkX x (by first | omega | (simp at h1; omega))) HS5.out); clear hX hkX hfX hbz fbz b0 b1 b2 b3 b4 b5 b6 b7 b8 b9 b10; go_wp2_with fail; go_meet; exact ⟨v2.heap.size, _, _, .slice ga gn gc, rfl, rfl, hbx, HSX.out, hbX, by omega, by first | omega | (simp; done) | (simp; omega), by omega, .inl (by first | omega | (simp; done) | (simp; omega)), by first | omega | exact hbv3.size⟩)
                skip
            ·
              go_simp
              refine hK.out _ _ ?_ (fun hHeld => ?_)
              · try dsimp only
                exact keep15 xXw13 vTw13 (by go_grown)
              clear hK K
              try simp only [Act.put, List.setIfInBounds_toArray, List.set_cons_zero, List.set_cons_succ]
              refine wpAnyH_ready (rs := [4]) (by kernel_rfl) (by simp) ?_
              refine AllReadyH.cons (o := { dst := some 88, op := Go.Op.call { callee := Go.Callee.value (Go.Operand.func 18), args := #[Go.Operand.tmp 87], argTypes := #[37] }, type := 24, pos := "exact.go:3745", after := #[{ on := 3, ground := Go.Ground.data }, { on := 1, ground := Go.Ground.chain }], guard := none }) rfl (fun K hK => ?_) AllReadyH.nil
              go_simp
              (go_at_call 18; refine (HTT.out _).mono ?_; rintro e v2 ⟨rfl, hbv2⟩; have hbbv2 := below_on (w := w13) (by go_grown) hbv2; have hsbv2 : w13.heap.size ≤ v2.heap.size := hbbv2.size; have hbpv2 : Below v1.heap.size v1 v2 := below_on (w := v1) (by go_grown) hbv2; have hspv2 := hbpv2.size; have hbzn : C10 v2 (v1.heap.size) ⟨0, 0, 0, 0, 0, 0, 0, 0, 0⟩ (.slice none 0 0) := (c10_on (h := ⟨0, 0, 0, 0, 0, 0, 0, 0, 0⟩) (s := .slice none 0 0) (by refine ⟨?_, ?_, ?_, ?_, ?_, ?_, ?_, ?_, ?_, ?_, ?_⟩ <;> first | (simp [go_sem]; done) | (simp; omega)) hbv2); have fbzn : ∀ o, v2.frozen? ⟨v1.heap.size, o, none⟩ = false := (fun o => ((bcell hbv2).2 _ o (by simp)).trans (by simp [go_sem])); have hlz : v1.heap.size + 1 ≤ v2.heap.size := hbzn.1; have hbz := hbzn; have fbz := fbzn; clear hbzn fbzn)
              (try go_wp2_with fail)
              refine hK.out _ _ ?_ (fun hHeld => ?_)
              · try dsimp only
                exact keep15 xXw13 vTw13 (by go_grown)
              clear hK K
              try simp only [Act.put, List.setIfInBounds_toArray, List.set_cons_zero, List.set_cons_succ]
              refine wpAnyH_ready (rs := [5]) (by kernel_rfl) (by simp) ?_
              refine AllReadyH.cons (o := { dst := some 89, op := Go.Op.call { callee := Go.Callee.value (Go.Operand.func 27), args := #[Go.Operand.tmp 85, Go.Operand.tmp 86, Go.Operand.tmp 88], argTypes := #[56, 3, 24] }, type := 57, pos := "exact.go:3745", after := #[{ on := 1, ground := Go.Ground.data }, { on := 2, ground := Go.Ground.data }, { on := 4, ground := Go.Ground.data }, { on := 4, ground := Go.Ground.chain }], guard := none }) rfl (fun K hK => ?_) AllReadyH.nil
              go_simp
              (go_at_call 27; refine (HIM.out _ _ _ (FS.below (w := v1) (B := v1.heap.size) (by go_grown) (Nat.le_refl _) hs3)).mono ?_; rintro e v3 ⟨s5, rfl, hs5, hbv3⟩; obtain ⟨ga, gn, gc, rfl⟩ := hs5.slice; have HS5 := Lib.hid hs5; have hbbv3 := below_on (w := w13) (by go_grown) hbv3; have hsbv3 : w13.heap.size ≤ v3.heap.size := hbbv3.size; have hbpv3 : Below v2.heap.size v2 v3 := below_on (w := v2) (by go_grown) hbv3; have hspv3 := hbpv3.size; have hbzn : C10 v3 (v1.heap.size) ⟨0, 0, 0, 0, 0, 0, 0, 0, 0⟩ (.slice none 0 0) := (c10_on (h := ⟨0, 0, 0, 0, 0, 0, 0, 0, 0⟩) (s := .slice none 0 0) hbz hbv3); have fbzn : ∀ o, v3.frozen? ⟨v1.heap.size, o, none⟩ = false := (fun o => ((bcell hbv3).2 _ o hbz.1).trans (fbz o)); clear hbz fbz; have hlz : v1.heap.size + 1 ≤ v3.heap.size := hbzn.1; have hbz := hbzn; have fbz := fbzn; clear hbzn fbzn; obtain ⟨b0, b1, b2, b3, b4, b5, b6, b7, b8, b9, b10⟩ := id hbz)
              (try go_wp2_with fail)
              refine hK.out _ _ ?_ (fun hHeld => ?_)
              · try dsimp only
                exact keep15 xXw13 vTw13 (by go_grown)
              clear hK K
              try simp only [Act.put, List.setIfInBounds_toArray, List.set_cons_zero, List.set_cons_succ]
              refine wpAnyH_take (i := 6) (oi := { dst := some 83, op := Go.Op.move (Go.Operand.tmp 89), type := 57, pos := "exact.go:3745", after := #[{ on := 5, ground := Go.Ground.data }], guard := none }) (v := ?_) rfl (by kernel_rfl) (by kernel_rfl) (by kernel_rfl) (fun _ _ _ h => h) (Or.inl ⟨by rfl, ?_⟩) (by assumption) ?_
              rotate_left
              · (intro w hSw; (try dsimp only at hSw); first | (go_simp; done) | (go_simp; with_reducible rfl))
              try simp only [Act.put, List.setIfInBounds_toArray, List.set_cons_zero, List.set_cons_succ]
              refine wpAnyH_take (i := 7) (oi := { dst := some 90, op := Go.Op.extract (Go.Operand.tmp 83) 0, type := 56, pos := "exact.go:3745", after := #[{ on := 6, ground := Go.Ground.data }], guard := none }) (v := ?_) rfl (by kernel_rfl) (by kernel_rfl) (by kernel_rfl) (fun _ _ _ h => h) (Or.inl ⟨by rfl, ?_⟩) (by assumption) ?_
              rotate_left
              · (intro w hSw; (try dsimp only at hSw); first | (go_simp; done) | (go_simp; with_reducible rfl))
              try simp only [Act.put, List.setIfInBounds_toArray, List.set_cons_zero, List.set_cons_succ]
              refine wpAnyH_take (i := 8) (oi := { dst := some 91, op := Go.Op.extract (Go.Operand.tmp 83) 1, type := 4, pos := "exact.go:3745", after := #[{ on := 6, ground := Go.Ground.data }, { on := 10, ground := Go.Ground.gcOnly Go.Departure.lateStores }], guard := none }) (v := ?_) rfl (by kernel_rfl) (by kernel_rfl) (by kernel_rfl) (fun _ _ _ h => h) (Or.inl ⟨by rfl, ?_⟩) (by assumption) ?_
              rotate_left
              · (intro w hSw; (try dsimp only at hSw); first | (go_simp; done) | (go_simp; with_reducible rfl))
              try simp only [Act.put, List.setIfInBounds_toArray, List.set_cons_zero, List.set_cons_succ]
              refine wpAnyH_ready (rs := [10]) (by kernel_rfl) (by simp) ?_
              refine AllReadyH.cons (o := { dst := none, op := Go.Op.store 56 (Go.Operand.tmp 16) (Go.Operand.tmp 90), type := 0, pos := "exact.go:3745", after := #[{ on := 9, ground := Go.Ground.data }, { on := 7, ground := Go.Ground.data }, { on := 5, ground := Go.Ground.chain }, { on := 0, ground := Go.Ground.phase }, { on := 1, ground := Go.Ground.phase }, { on := 2, ground := Go.Ground.phase }, { on := 3, ground := Go.Ground.phase }, { on := 4, ground := Go.Ground.phase }, { on := 5, ground := Go.Ground.phase }, { on := 6, ground := Go.Ground.phase }, { on := 7, ground := Go.Ground.phase }, { on := 8, ground := Go.Ground.textOnly Go.Departure.lateStores }, { on := 9, ground := Go.Ground.phase }], guard := none }) rfl (fun K hK => ?_) AllReadyH.nil
              go_simp
              refine hK.out _ _ ?_ (fun hHeld => ?_)
              · try dsimp only
                exact keep15 xXw13 vTw13 (by go_grown)
              clear hK K
              try simp only [Act.put, List.setIfInBounds_toArray, List.set_cons_zero, List.set_cons_succ]
              refine wpAnyH_take (i := 11) (oi := { dst := some 17, op := Go.Op.assign (Go.Operand.tmp 91), type := 4, pos := "exact.go:3745", after := #[{ on := 8, ground := Go.Ground.data }, { on := 10, ground := Go.Ground.chain }, { on := 0, ground := Go.Ground.phase }, { on := 1, ground := Go.Ground.phase }, { on := 2, ground := Go.Ground.phase }, { on := 3, ground := Go.Ground.phase }, { on := 4, ground := Go.Ground.phase }, { on := 5, ground := Go.Ground.phase }, { on := 6, ground := Go.Ground.phase }, { on := 7, ground := Go.Ground.phase }, { on := 8, ground := Go.Ground.phase }, { on := 9, ground := Go.Ground.phase }, { on := 10, ground := Go.Ground.phase }], guard := none }) (v := ?_) rfl (by kernel_rfl) (by kernel_rfl) (by kernel_rfl) (fun _ _ _ h => h) (Or.inl ⟨by rfl, ?_⟩) (by assumption) ?_
              rotate_left
              · (intro w hSw; (try dsimp only at hSw); first | (go_simp; done) | (go_simp; with_reducible rfl))
              try simp only [Act.put, List.setIfInBounds_toArray, List.set_cons_zero, List.set_cons_succ]
              refine wpAnyH_done (by kernel_rfl) ?_ _
              (generalize hX : World.setCell _ _ _ = wX; obtain ⟨hbx, hkX, hsX, hfX⟩ := ten_set (g := q.1) hbz hX; have hbX : Below w13.heap.size w13 wX := hbbv3.trans ((put10b (g := q.1) hbz hX).2 w13.heap.size (by omega)); have HSX := Lib.hid (SF.same (w' := wX) (fun x h1 h2 => hkX x (by first | omega | (simp at h1; omega))) HS5.out); clear hX hkX hfX hbz fbz b0 b1 b2 b3 b4 b5 b6 b7 b8 b9 b10; go_wp2_with fail; go_meet; exact ⟨v1.heap.size, _, _, .slice ga gn gc, rfl, rfl, hbx, HSX.out, hbX, by omega, by first | omega | (simp; done) | (simp; omega), by omega, .inl (by first | omega | (simp; done) | (simp; omega)), by first | omega | exact hbv3.size⟩)
              skip
          ·
            go_simp
            refine hK.out _ _ ?_ (fun hHeld => ?_)
            · try dsimp only
              exact keep15 xXw13 vTw13 (by go_grown)
            clear hK K
            try simp only [Act.put, List.setIfInBounds_toArray, List.set_cons_zero, List.set_cons_succ]
            refine wpAnyH_ready (rs := [1]) (by kernel_rfl) (by simp) ?_
            refine AllReadyH.cons (o := { dst := some 85, op := Go.Op.call { callee := Go.Callee.value (Go.Operand.func 26), args := #[Go.Operand.tmp 84], argTypes := #[52] }, type := 56, pos := "exact.go:3745", after := #[{ on := 0, ground := Go.Ground.data }], guard := none }) rfl (fun K hK => ?_) AllReadyH.nil
            go_simp
            (go_at_call 26; refine (HTF.out _ (by go_grown)).mono ?_; rintro e v1 ⟨s3, rfl, hs3, hbv1⟩; obtain ⟨a3, n3, c3, rfl⟩ := hs3.slice; have hbbv1 := below_on (w := w13) (by go_grown) hbv1; have hsbv1 : w13.heap.size ≤ v1.heap.size := hbbv1.size; have hbzn : C10 v1 (w13.heap.size) ⟨0, 0, 0, 0, 0, 0, 0, 0, 0⟩ (.slice none 0 0) := (c10_on (h := ⟨0, 0, 0, 0, 0, 0, 0, 0, 0⟩) (s := .slice none 0 0) (by refine ⟨?_, ?_, ?_, ?_, ?_, ?_, ?_, ?_, ?_, ?_, ?_⟩ <;> first | (simp [go_sem]; done) | (simp; omega)) hbv1); have fbzn : ∀ o, v1.frozen? ⟨w13.heap.size, o, none⟩ = false := (fun o => ((bcell hbv1).2 _ o (by simp)).trans (by simp [go_sem])); have hlz : w13.heap.size + 1 ≤ v1.heap.size := hbzn.1; have hbz := hbzn; have fbz := fbzn; clear hbzn fbzn)
            (try go_wp2_with fail)
            refine hK.out _ _ ?_ (fun hHeld => ?_)
            · try dsimp only
              exact keep15 xXw13 vTw13 (by go_grown)
            clear hK K
            try simp only [Act.put, List.setIfInBounds_toArray, List.set_cons_zero, List.set_cons_succ]
            refine wpAnyH_ready (rs := [4]) (by kernel_rfl) (by simp) ?_
            refine AllReadyH.cons (o := { dst := some 88, op := Go.Op.call { callee := Go.Callee.value (Go.Operand.func 18), args := #[Go.Operand.tmp 87], argTypes := #[37] }, type := 24, pos := "exact.go:3745", after := #[{ on := 3, ground := Go.Ground.data }, { on := 1, ground := Go.Ground.chain }], guard := none }) rfl (fun K hK => ?_) AllReadyH.nil
            go_simp
            (go_at_call 18; refine (HTT.out _).mono ?_; rintro e v2 ⟨rfl, hbv2⟩; have hbbv2 := below_on (w := w13) (by go_grown) hbv2; have hsbv2 : w13.heap.size ≤ v2.heap.size := hbbv2.size; have hbpv2 : Below v1.heap.size v1 v2 := below_on (w := v1) (by go_grown) hbv2; have hspv2 := hbpv2.size; have hbzn : C10 v2 (w13.heap.size) ⟨0, 0, 0, 0, 0, 0, 0, 0, 0⟩ (.slice none 0 0) := (c10_on (h := ⟨0, 0, 0, 0, 0, 0, 0, 0, 0⟩) (s := .slice none 0 0) hbz hbv2); have fbzn : ∀ o, v2.frozen? ⟨w13.heap.size, o, none⟩ = false := (fun o => ((bcell hbv2).2 _ o hbz.1).trans (fbz o)); clear hbz fbz; have hlz : w13.heap.size + 1 ≤ v2.heap.size := hbzn.1; have hbz := hbzn; have fbz := fbzn; clear hbzn fbzn)
            (try go_wp2_with fail)
            refine hK.out _ _ ?_ (fun hHeld => ?_)
            · try dsimp only
              exact keep15 xXw13 vTw13 (by go_grown)
            clear hK K
            try simp only [Act.put, List.setIfInBounds_toArray, List.set_cons_zero, List.set_cons_succ]
            refine wpAnyH_ready (rs := [5]) (by kernel_rfl) (by simp) ?_
            refine AllReadyH.cons (o := { dst := some 89, op := Go.Op.call { callee := Go.Callee.value (Go.Operand.func 27), args := #[Go.Operand.tmp 85, Go.Operand.tmp 86, Go.Operand.tmp 88], argTypes := #[56, 3, 24] }, type := 57, pos := "exact.go:3745", after := #[{ on := 1, ground := Go.Ground.data }, { on := 2, ground := Go.Ground.data }, { on := 4, ground := Go.Ground.data }, { on := 4, ground := Go.Ground.chain }], guard := none }) rfl (fun K hK => ?_) AllReadyH.nil
            go_simp
            (go_at_call 27; refine (HIM.out _ _ _ (FS.below (w := v1) (B := v1.heap.size) (by go_grown) (Nat.le_refl _) hs3)).mono ?_; rintro e v3 ⟨s5, rfl, hs5, hbv3⟩; obtain ⟨ga, gn, gc, rfl⟩ := hs5.slice; have HS5 := Lib.hid hs5; have hbbv3 := below_on (w := w13) (by go_grown) hbv3; have hsbv3 : w13.heap.size ≤ v3.heap.size := hbbv3.size; have hbpv3 : Below v2.heap.size v2 v3 := below_on (w := v2) (by go_grown) hbv3; have hspv3 := hbpv3.size; have hbzn : C10 v3 (w13.heap.size) ⟨0, 0, 0, 0, 0, 0, 0, 0, 0⟩ (.slice none 0 0) := (c10_on (h := ⟨0, 0, 0, 0, 0, 0, 0, 0, 0⟩) (s := .slice none 0 0) hbz hbv3); have fbzn : ∀ o, v3.frozen? ⟨w13.heap.size, o, none⟩ = false := (fun o => ((bcell hbv3).2 _ o hbz.1).trans (fbz o)); clear hbz fbz; have hlz : w13.heap.size + 1 ≤ v3.heap.size := hbzn.1; have hbz := hbzn; have fbz := fbzn; clear hbzn fbzn; obtain ⟨b0, b1, b2, b3, b4, b5, b6, b7, b8, b9, b10⟩ := id hbz)
            (try go_wp2_with fail)
            refine hK.out _ _ ?_ (fun hHeld => ?_)
            · try dsimp only
              exact keep15 xXw13 vTw13 (by go_grown)
            clear hK K
            try simp only [Act.put, List.setIfInBounds_toArray, List.set_cons_zero, List.set_cons_succ]
            refine wpAnyH_take (i := 6) (oi := { dst := some 83, op := Go.Op.move (Go.Operand.tmp 89), type := 57, pos := "exact.go:3745", after := #[{ on := 5, ground := Go.Ground.data }], guard := none }) (v := ?_) rfl (by kernel_rfl) (by kernel_rfl) (by kernel_rfl) (fun _ _ _ h => h) (Or.inl ⟨by rfl, ?_⟩) (by assumption) ?_
            rotate_left
            · (intro w hSw; (try dsimp only at hSw); first | (go_simp; done) | (go_simp; with_reducible rfl))
            try simp only [Act.put, List.setIfInBounds_toArray, List.set_cons_zero, List.set_cons_succ]
            refine wpAnyH_take (i := 7) (oi := { dst := some 90, op := Go.Op.extract (Go.Operand.tmp 83) 0, type := 56, pos := "exact.go:3745", after := #[{ on := 6, ground := Go.Ground.data }], guard := none }) (v := ?_) rfl (by kernel_rfl) (by kernel_rfl) (by kernel_rfl) (fun _ _ _ h => h) (Or.inl ⟨by rfl, ?_⟩) (by assumption) ?_
            rotate_left
            · (intro w hSw; (try dsimp only at hSw); first | (go_simp; done) | (go_simp; with_reducible rfl))
            try simp only [Act.put, List.setIfInBounds_toArray, List.set_cons_zero, List.set_cons_succ]
            refine wpAnyH_take (i := 8) (oi := { dst := some 91, op := Go.Op.extract (Go.Operand.tmp 83) 1, type := 4, pos := "exact.go:3745", after := #[{ on := 6, ground := Go.Ground.data }, { on := 10, ground := Go.Ground.gcOnly Go.Departure.lateStores }], guard := none }) (v := ?_) rfl (by kernel_rfl) (by kernel_rfl) (by kernel_rfl) (fun _ _ _ h => h) (Or.inl ⟨by rfl, ?_⟩) (by assumption) ?_
            rotate_left
            · (intro w hSw; (try dsimp only at hSw); first | (go_simp; done) | (go_simp; with_reducible rfl))
            try simp only [Act.put, List.setIfInBounds_toArray, List.set_cons_zero, List.set_cons_succ]
            refine wpAnyH_ready (rs := [10]) (by kernel_rfl) (by simp) ?_
            refine AllReadyH.cons (o := { dst := none, op := Go.Op.store 56 (Go.Operand.tmp 16) (Go.Operand.tmp 90), type := 0, pos := "exact.go:3745", after := #[{ on := 9, ground := Go.Ground.data }, { on := 7, ground := Go.Ground.data }, { on := 5, ground := Go.Ground.chain }, { on := 0, ground := Go.Ground.phase }, { on := 1, ground := Go.Ground.phase }, { on := 2, ground := Go.Ground.phase }, { on := 3, ground := Go.Ground.phase }, { on := 4, ground := Go.Ground.phase }, { on := 5, ground := Go.Ground.phase }, { on := 6, ground := Go.Ground.phase }, { on := 7, ground := Go.Ground.phase }, { on := 8, ground := Go.Ground.textOnly Go.Departure.lateStores }, { on := 9, ground := Go.Ground.phase }], guard := none }) rfl (fun K hK => ?_) AllReadyH.nil
            go_simp
            refine hK.out _ _ ?_ (fun hHeld => ?_)
            · try dsimp only
              exact keep15 xXw13 vTw13 (by go_grown)
            clear hK K
            try simp only [Act.put, List.setIfInBounds_toArray, List.set_cons_zero, List.set_cons_succ]
            refine wpAnyH_take (i := 11) (oi := { dst := some 17, op := Go.Op.assign (Go.Operand.tmp 91), type := 4, pos := "exact.go:3745", after := #[{ on := 8, ground := Go.Ground.data }, { on := 10, ground := Go.Ground.chain }, { on := 0, ground := Go.Ground.phase }, { on := 1, ground := Go.Ground.phase }, { on := 2, ground := Go.Ground.phase }, { on := 3, ground := Go.Ground.phase }, { on := 4, ground := Go.Ground.phase }, { on := 5, ground := Go.Ground.phase }, { on := 6, ground := Go.Ground.phase }, { on := 7, ground := Go.Ground.phase }, { on := 8, ground := Go.Ground.phase }, { on := 9, ground := Go.Ground.phase }, { on := 10, ground := Go.Ground.phase }], guard := none }) (v := ?_) rfl (by kernel_rfl) (by kernel_rfl) (by kernel_rfl) (fun _ _ _ h => h) (Or.inl ⟨by rfl, ?_⟩) (by assumption) ?_
            rotate_left
            · (intro w hSw; (try dsimp only at hSw); first | (go_simp; done) | (go_simp; with_reducible rfl))
            try simp only [Act.put, List.setIfInBounds_toArray, List.set_cons_zero, List.set_cons_succ]
            refine wpAnyH_done (by kernel_rfl) ?_ _
            (generalize hX : World.setCell _ _ _ = wX; obtain ⟨hbx, hkX, hsX, hfX⟩ := ten_set (g := q.1) hbz hX; have hbX : Below w13.heap.size w13 wX := hbbv3.trans ((put10b (g := q.1) hbz hX).2 w13.heap.size (by omega)); have HSX := Lib.hid (SF.same (w' := wX) (fun x h1 h2 => hkX x (by first | omega | (simp at h1; omega))) HS5.out); clear hX hkX hfX hbz fbz b0 b1 b2 b3 b4 b5 b6 b7 b8 b9 b10; go_wp2_with fail; go_meet; exact ⟨w13.heap.size, _, _, .slice ga gn gc, rfl, rfl, hbx, HSX.out, hbX, by omega, by first | omega | (simp; done) | (simp; omega), by omega, .inl (by first | omega | (simp; done) | (simp; omega)), by first | omega | exact hbv3.size⟩)
            skip
        case rest =>
          rename World => w14
          obtain ⟨bH, lH, mH, sH, rfl, rfl, xHw14, hSH, hbw14, h1H, h2H, h3H, h4H, h6H⟩ := hcut
          obtain ⟨aH, nH, cH, rfl⟩ := hSH.slice
          have SHw14 := Lib.hid hSH
          have h5H := xHw14.1
          clear hSH HTF
          have hsw14 := (hbw14).size
          have xXw14 := c10_on xXw13 hbw14
          have xAw14 := c10_on xAw13 hbw14
          have xYw14 := c10_on xYw13 hbw14
          have xGw14 := c10_on xGw13 hbw14
          have vTw14 := c5_on vTw13 hbw14
          have SAw14 := Lib.hid (SF.below hbw14 (by omega) SAw13.out)
          have SGw14 := Lib.hid (SF.below hbw14 (by omega) SGw13.out)
          have HBw14 := Lib.hid (below_on HBw13.out hbw14)
          clear xXw13 xAw13 xYw13 xGw13 vTw13 SAw13 SGw13 HBw13
          clear hbw14
          obtain ⟨Ac0, Ac1, Ac2, Ac3, Ac4, Ac5, Ac6, Ac7, Ac8, Ac9, Ac10⟩ := id xAw14
          obtain ⟨Hc0, Hc1, Hc2, Hc3, Hc4, Hc5, Hc6, Hc7, Hc8, Hc9, Hc10⟩ := id xHw14
          go_wp2_with fail
          refine (eqF_any q.1 q.2 w14 _ _ _ _ (SF.fs (by omega) SHw14.out) (SF.fs (by omega) SAw14.out)).mono ?_
          rintro e w15 ⟨rfl, hb15⟩
          have hsw15 := (hb15).size
          have xXw15 := c10_on xXw14 hb15
          have xAw15 := c10_on xAw14 hb15
          have xYw15 := c10_on xYw14 hb15
          have xGw15 := c10_on xGw14 hb15
          have xHw15 := c10_on xHw14 hb15
          have vTw15 := c5_on vTw14 hb15
          have SAw15 := Lib.hid (SF.below hb15 (by omega) SAw14.out)
          have SGw15 := Lib.hid (SF.below hb15 (by omega) SGw14.out)
          have SHw15 := Lib.hid (SF.below hb15 (by omega) SHw14.out)
          have HBw15 := Lib.hid (below_on HBw14.out hb15)
          clear Ac0 Ac1 Ac2 Ac3 Ac4 Ac5 Ac6 Ac7 Ac8 Ac9 Ac10 Hc0 Hc1 Hc2 Hc3 Hc4 Hc5 Hc6 Hc7 Hc8 Hc9 Hc10 xXw14 xAw14 xYw14 xGw14 xHw14 vTw14 SAw14 SGw14 SHw14 HBw14
          clear hb15
          obtain ⟨Gc0, Gc1, Gc2, Gc3, Gc4, Gc5, Gc6, Gc7, Gc8, Gc9, Gc10⟩ := id xGw15
          go_wp2_with fail
          refine (heF_any q.1 q.2 w15 _ _ 1 (SF.fs (by omega) SGw15.out) (by omega) (by omega)).mono ?_
          rintro e w16 ⟨rfl, hb16⟩
          rw [HN.out]
          go_wp2
          go_ret
          exact ⟨rfl, below_on HBw15.out hb16⟩
  · have hz : szI f.size 1048576 = -1 := szI_neg (by omega)
    have HZ := Lib.hid hz
    clear hz
    go_enter Try.func6, Try.ntmps6
    go_wp2_with fail
    generalize hW : World.alloc _ _ = w1
    have hb1 : Below w.heap.size w w1 := by subst hW; go_grown
    clear hW
    refine (szF_any h f w1 lo _ 1048576 (Nat.le_refl _) (FS.below hb1 (Nat.le_refl _) HS.out)).mono ?_
    rintro e w2 ⟨rfl, hb2⟩
    rw [HZ.out]
    go_wp2
    go_ret
    exact ⟨rfl, below_on hb1 hb2⟩


end Go.Proofs.Ytcgolbkpfncgpaa
