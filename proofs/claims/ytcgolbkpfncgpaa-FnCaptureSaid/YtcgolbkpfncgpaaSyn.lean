import Derived.Test.YtcgolbkpfncgpaaNm
import Derived.Test.YtcgolbkpfncgpaaNfW
import Derived.Test.YtcgolbkpfncgpaaNfX
import Derived.Deep.RegionHeld3
import Derived.Deep.DeepCutAuto

/- The model's l3Valid in one form. -/
namespace Go.Proofs.Ytcgolbkpfncgpaa
open Go.RowKit

/-- A formula and a bool are returned; the formula's lists lie in blocks from lo on. -/
def RqT (q : FH × Fo) (ok : Bool) (lo : Nat) (w : World) (e : Ending) (w' : World) : Prop := ∃ s, e = .returned (.tuple #[.agg #[.int .i64 q.1.k, .int .i64 q.1.ak, .int .i64 q.1.am, .int .i64 q.1.a, .int .i64 q.1.b, .int .i64 q.1.c, .int .i64 q.1.d, .int .i64 q.1.n, .int .i64 q.1.v, s], .bool ok]) ∧ FS w' lo q.2 s ∧ Below w.heap.size w w'
theorem fs_none (w : World) (lo : Nat) : FS w lo .nil (.slice none 0 0) := .inl ⟨rfl, none, 0, rfl, Nat.le_refl _, Nat.zero_le _⟩
theorem l3Valid_u (h : FH) (f : Fo) (w : World) (lo : Nat) (s : Value) (ok b : Bool) (hs : FS w lo f s) (hb : (ok && vfB h f) = b) : Calls Try.prog 110 #[.agg #[.int .i64 h.k, .int .i64 h.ak, .int .i64 h.am, .int .i64 h.a, .int .i64 h.b, .int .i64 h.c, .int .i64 h.d, .int .i64 h.n, .int .i64 h.v, s], .bool ok] w (RqT (okQ b h f) b lo w) := by
 cases b with
 | false => exact (l3Valid_no h f w lo s ok hs hb).mono fun _ _ hp => ⟨.slice none 0 0, hp.1, fs_none _ _, hp.2⟩
 | true =>
  simp only [Bool.and_eq_true] at hb
  obtain ⟨rfl, hv⟩ := hb
  exact (l3Valid_yes h f w lo s hs hv).mono fun _ w' hp => ⟨s, hp.1, FS.below hp.2 (Nat.le_refl _) hs, hp.2⟩
theorem okQ_size (b : Bool) (h : FH) (f : Fo) (hb : b = true → vfB h f = true) : (okQ b h f).2.size ≤ 600 := by
 unfold okQ
 split
 ·rename_i e
  have := (vf_parts (hb e)).2.2
  show f.size ≤ 600
  omega
 ·exact Nat.zero_le _

end Go.Proofs.Ytcgolbkpfncgpaa

/- Several texts in one: NfY NfZ. -/

/- The contracts of the model's l4Subst and SubstFormula. -/
namespace Go.Proofs.Ytcgolbkpfncgpaa
open Go.RowKit

theorem lb_any (σ : SbD) (hσ : σ.ok) : ∀ (N : Nat) (h : FH) (f : Fo), f.size ≤ N → LbF σ h f := by
 have one : ∀ (h : FH) (f : Fo), (∀ h s, s.size < f.size → LbF σ h s) → LbF σ h f := by
  intro h f HF
  cases hf : fr1 h σ.v (f.fr σ.v) with
  | false => exact lb_not σ h f hf
  | true =>
   by_cases h2 : h.k = 2
   ·exact lb_atom σ hσ h f h2 hf
   ·cases hq : qB h.k with
    | false => exact lb_loop0 σ h f HF h2 hf hq
    | true =>
     by_cases hc : sel σ.a σ.b σ.c σ.d h.v 0 = 0
     ·exact lb_loop1 σ h f HF h2 hf hq hc
     ·exact lb_caught σ h f h2 hf hq hc
 intro N
 induction N with
 | zero => intro h f hf; exact one h f (fun _ _ h9 => absurd h9 (by omega))
 | succ N ih => intro h f hf; exact one h f (fun h' s' h9 => ih h' s' (by omega))

theorem specTermValid_b (σ : SbD) (t : Bool) (w : World) (ht : tvB σ.a σ.b σ.c σ.d σ.n = t) : Calls Try.prog 59 #[.agg #[.int .i64 σ.a, .int .i64 σ.b, .int .i64 σ.c, .int .i64 σ.d, .int .i64 σ.n]] w (BoolT t w) :=
 (specTermValid_is σ.a σ.b σ.c σ.d σ.n t w ht).mono fun _ _ hp => ⟨hp.1, by rw [← hp.2]; go_grown⟩

set_option maxRecDepth 10000 in
set_option maxHeartbeats 2000000 in
theorem rawSubst_novalid (σ : SbD) (h : FH) (f : Fo) (w : World) (lo : Nat) (s : Value) (hz : f.size ≤ 1048576) (hs : FS w lo f s) (hv : vfB h f = false) : Calls Try.prog 71 #[.agg #[.int .i64 h.k, .int .i64 h.ak, .int .i64 h.am, .int .i64 h.a, .int .i64 h.b, .int .i64 h.c, .int .i64 h.d, .int .i64 h.n, .int .i64 h.v, s], .int .i64 σ.v, .agg #[.int .i64 σ.a, .int .i64 σ.b, .int .i64 σ.c, .int .i64 σ.d, .int .i64 σ.n]] w (VnT w) := by
 have HO := Lib.hid (fun W hW => olF_any h f W lo s hz (FS.below (w := w) hW (Nat.le_refl _) hs))
 have HV := Lib.hid (fun W l t hs => specFormulaValid_any h f W l t hs)
 rw [hv] at HV
 obtain ⟨sa0, sn0, sc0, rfl⟩ := hs.slice
 clear hs hz hv
 go_enter Try.func71, Try.ntmps71
 go_wp2_with fail
 generalize hW : World.alloc _ _ = W
 have hw : Below w.heap.size w W := by subst hW; go_grown
 have hy : C10 W w.heap.size h (.slice sa0 sn0 sc0) := by subst hW; exact (by refine ⟨?_, ?_, ?_, ?_, ?_, ?_, ?_, ?_, ?_, ?_, ?_⟩ <;> first | (simp [go_sem]; done) | (simp; omega))
 have fy : ∀ o, W.frozen? ⟨w.heap.size, o, none⟩ = false := fun o => by subst hW; simp [go_sem]
 have hv : C5 W (w.heap.size + 1) σ.a σ.b σ.c σ.d σ.n := by subst hW; exact (by refine ⟨?_, ?_, ?_, ?_, ?_, ?_⟩ <;> first | (simp [go_sem]; done) | (simp; omega))
 have hx : C10 W (w.heap.size + 1 + 1) ⟨0, 0, 0, 0, 0, 0, 0, 0, 0⟩ (.slice none 0 0) := by subst hW; exact (by refine ⟨?_, ?_, ?_, ?_, ?_, ?_, ?_, ?_, ?_, ?_, ?_⟩ <;> first | (simp [go_sem]; done) | (simp; omega))
 have hf : ∀ o, W.frozen? ⟨w.heap.size + 1 + 1, o, none⟩ = false := fun o => by subst hW; simp [go_sem]
 have hws : w.heap.size + 1 + 1 < W.heap.size := hx.1
 clear hW
 refine (HO.out W hw).mono ?_
 rintro e w1 ⟨s1, rfl, hs1, hb1⟩
 obtain ⟨ra, rn, rc, rfl⟩ := hs1.slice
 have HS1 := Lib.hid (SF.fs (Nat.le_refl _) hs1)
 have hy1 := c10_on hy hb1
 have hx1 := c10_on hx hb1
 have hv1 := c5_on hv hb1
 have fy1 : ∀ o, w1.frozen? ⟨w.heap.size, o, none⟩ = false := fun o => ((bcell hb1).2 _ o hy.1).trans (fy o)
 have fx1 : ∀ o, w1.frozen? ⟨w.heap.size + 1 + 1, o, none⟩ = false := fun o => ((bcell hb1).2 _ o hx.1).trans (hf o)
 have hw1 := below_on hw hb1
 have hsw1 : W.heap.size ≤ w1.heap.size := hb1.size
 obtain ⟨x0, c0, c1, c2, c3, c4, c5, c6, c7, c8, c9⟩ := id hy1
 clear hs1 hb1 hx hy fy hf hw hv
 go_upto_region 2 with fail
 generalize hW2 : World.setCell _ _ _ = W2
 obtain ⟨hy2, hblk2, hsz2, hfz2⟩ := ten_set (g := h) hy1 hW2
 have hx2 := c10_block (Nat.le_of_eq hsz2.symm) (hblk2 (w.heap.size + 1 + 1) (by omega)) hx1
 have fx2 : ∀ o, W2.frozen? ⟨w.heap.size + 1 + 1, o, none⟩ = false := fun o => (hfz2 _ o).trans (fx1 o)
 have hv2 := c5_putb hv1 (by omega) hblk2 hsz2
 have hw2 := hw1.trans ((put10b (g := h) hy1 hW2).2 w.heap.size (Nat.le_refl _))
 have HS2 := Lib.hid (FS.kept (w' := W2) (Nat.le_of_eq hsz2.symm) (fun k hk _ => hblk2 k (by omega)) HS1.out)
 obtain ⟨y0, d0, d1, d2, d3, d4, d5, d6, d7, d8, d9⟩ := id hy2
 have hsw2 : W.heap.size ≤ W2.heap.size := by omega
 clear hW2 x0 c0 c1 c2 c3 c4 c5 c6 c7 c8 c9 hblk2 hx1 fx1 fy1 hw1 hy1 hsz2 hfz2 HS1 hv1
 go_wp2_with fail
 refine (HV.out W2 _ _ HS2.out).mono ?_
 rintro e w3 ⟨rfl, hb3⟩
 have hx3 := c10_on hx2 hb3
 have fx3 : ∀ o, w3.frozen? ⟨w.heap.size + 1 + 1, o, none⟩ = false := fun o => ((bcell hb3).2 _ o hx2.1).trans (fx2 o)
 have hv3 := c5_on hv2 hb3
 have hy3 := c10_on hy2 hb3
 have hw3 := below_on hw2 hb3
 have hsw3 : W.heap.size ≤ w3.heap.size := Nat.le_trans hsw2 hb3.size
 have HS3 := Lib.hid (FS.below hb3 (Nat.le_refl _) HS2.out)
 clear hx2 fx2 hw2 hb3 hy2 hv2 y0 d0 d1 d2 d3 d4 d5 d6 d7 d8 d9
 have hz4 := hx3
 have hw4 := hw3
 have fz4 := fx3
 obtain ⟨z0, e0, e1, e2, e3, e4, e5, e6, e7, e8, e9⟩ := id hz4
 go_upto_region 30 with fail
 generalize hW7 : World.setCell _ _ _ = W7
 obtain ⟨hz7, hk7, hs7, hf7⟩ := ten_set (g := ⟨0, 0, 0, 0, 0, 0, 0, 0, 0⟩) hz4 hW7
 have hw7 : Below w.heap.size w W7 := hw4.trans ((put10b (g := ⟨0, 0, 0, 0, 0, 0, 0, 0, 0⟩) hz4 hW7).2 w.heap.size (by omega))
 obtain ⟨y0, y1, y2, y3, y4, y5, y6, y7, y8, y9, y10⟩ := hz7
 clear hW7 hk7 hs7 hf7 z0 e0 e1 e2 e3 e4 e5 e6 e7 e8 e9
 go_wp2
 refine bodyPost_ret (v := .tuple #[.agg #[.int .i64 0, .int .i64 0, .int .i64 0, .int .i64 0, .int .i64 0, .int .i64 0, .int .i64 0, .int .i64 0, .int .i64 0, .slice none 0 0], .bool false]) (by simp [results, Try.results71, go_sem, y1, y2, y3, y4, y5, y6, y7, y8, y9, y10]) rfl ⟨rfl, hw7⟩

set_option maxRecDepth 10000 in
set_option maxHeartbeats 2000000 in
theorem rawSubst_noterm (σ : SbD) (h : FH) (f : Fo) (w : World) (lo : Nat) (s : Value) (hz : f.size ≤ 1048576) (hs : FS w lo f s) (hv : vfB h f = true) (ht : tvB σ.a σ.b σ.c σ.d σ.n = false) : Calls Try.prog 71 #[.agg #[.int .i64 h.k, .int .i64 h.ak, .int .i64 h.am, .int .i64 h.a, .int .i64 h.b, .int .i64 h.c, .int .i64 h.d, .int .i64 h.n, .int .i64 h.v, s], .int .i64 σ.v, .agg #[.int .i64 σ.a, .int .i64 σ.b, .int .i64 σ.c, .int .i64 σ.d, .int .i64 σ.n]] w (VnT w) := by
 have HO := Lib.hid (fun W hW => olF_any h f W lo s hz (FS.below (w := w) hW (Nat.le_refl _) hs))
 have HV := Lib.hid (fun W l t hs => specFormulaValid_any h f W l t hs)
 rw [hv] at HV
 have HT := Lib.hid (fun W => specTermValid_b σ false W ht)
 obtain ⟨sa0, sn0, sc0, rfl⟩ := hs.slice
 clear hs hz hv ht
 go_enter Try.func71, Try.ntmps71
 go_wp2_with fail
 generalize hW : World.alloc _ _ = W
 have hw : Below w.heap.size w W := by subst hW; go_grown
 have hy : C10 W w.heap.size h (.slice sa0 sn0 sc0) := by subst hW; exact (by refine ⟨?_, ?_, ?_, ?_, ?_, ?_, ?_, ?_, ?_, ?_, ?_⟩ <;> first | (simp [go_sem]; done) | (simp; omega))
 have fy : ∀ o, W.frozen? ⟨w.heap.size, o, none⟩ = false := fun o => by subst hW; simp [go_sem]
 have hv : C5 W (w.heap.size + 1) σ.a σ.b σ.c σ.d σ.n := by subst hW; exact (by refine ⟨?_, ?_, ?_, ?_, ?_, ?_⟩ <;> first | (simp [go_sem]; done) | (simp; omega))
 have hx : C10 W (w.heap.size + 1 + 1) ⟨0, 0, 0, 0, 0, 0, 0, 0, 0⟩ (.slice none 0 0) := by subst hW; exact (by refine ⟨?_, ?_, ?_, ?_, ?_, ?_, ?_, ?_, ?_, ?_, ?_⟩ <;> first | (simp [go_sem]; done) | (simp; omega))
 have hf : ∀ o, W.frozen? ⟨w.heap.size + 1 + 1, o, none⟩ = false := fun o => by subst hW; simp [go_sem]
 have hws : w.heap.size + 1 + 1 < W.heap.size := hx.1
 clear hW
 refine (HO.out W hw).mono ?_
 rintro e w1 ⟨s1, rfl, hs1, hb1⟩
 obtain ⟨ra, rn, rc, rfl⟩ := hs1.slice
 have HS1 := Lib.hid (SF.fs (Nat.le_refl _) hs1)
 have hy1 := c10_on hy hb1
 have hx1 := c10_on hx hb1
 have hv1 := c5_on hv hb1
 have fy1 : ∀ o, w1.frozen? ⟨w.heap.size, o, none⟩ = false := fun o => ((bcell hb1).2 _ o hy.1).trans (fy o)
 have fx1 : ∀ o, w1.frozen? ⟨w.heap.size + 1 + 1, o, none⟩ = false := fun o => ((bcell hb1).2 _ o hx.1).trans (hf o)
 have hw1 := below_on hw hb1
 have hsw1 : W.heap.size ≤ w1.heap.size := hb1.size
 obtain ⟨x0, c0, c1, c2, c3, c4, c5, c6, c7, c8, c9⟩ := id hy1
 clear hs1 hb1 hx hy fy hf hw hv
 go_upto_region 2 with fail
 generalize hW2 : World.setCell _ _ _ = W2
 obtain ⟨hy2, hblk2, hsz2, hfz2⟩ := ten_set (g := h) hy1 hW2
 have hx2 := c10_block (Nat.le_of_eq hsz2.symm) (hblk2 (w.heap.size + 1 + 1) (by omega)) hx1
 have fx2 : ∀ o, W2.frozen? ⟨w.heap.size + 1 + 1, o, none⟩ = false := fun o => (hfz2 _ o).trans (fx1 o)
 have hv2 := c5_putb hv1 (by omega) hblk2 hsz2
 have hw2 := hw1.trans ((put10b (g := h) hy1 hW2).2 w.heap.size (Nat.le_refl _))
 have HS2 := Lib.hid (FS.kept (w' := W2) (Nat.le_of_eq hsz2.symm) (fun k hk _ => hblk2 k (by omega)) HS1.out)
 obtain ⟨y0, d0, d1, d2, d3, d4, d5, d6, d7, d8, d9⟩ := id hy2
 have hsw2 : W.heap.size ≤ W2.heap.size := by omega
 clear hW2 x0 c0 c1 c2 c3 c4 c5 c6 c7 c8 c9 hblk2 hx1 fx1 fy1 hw1 hy1 hsz2 hfz2 HS1 hv1
 go_wp2_with fail
 refine (HV.out W2 _ _ HS2.out).mono ?_
 rintro e w3 ⟨rfl, hb3⟩
 have hx3 := c10_on hx2 hb3
 have fx3 : ∀ o, w3.frozen? ⟨w.heap.size + 1 + 1, o, none⟩ = false := fun o => ((bcell hb3).2 _ o hx2.1).trans (fx2 o)
 have hv3 := c5_on hv2 hb3
 have hy3 := c10_on hy2 hb3
 have hw3 := below_on hw2 hb3
 have hsw3 : W.heap.size ≤ w3.heap.size := Nat.le_trans hsw2 hb3.size
 have HS3 := Lib.hid (FS.below hb3 (Nat.le_refl _) HS2.out)
 clear hx2 fx2 hw2 hb3 hy2 hv2 y0 d0 d1 d2 d3 d4 d5 d6 d7 d8 d9
 obtain ⟨j0, j1, j2, j3, j4, j5⟩ := id hv3
 go_wp2_with fail
 refine (HT.out w3).mono ?_
 rintro e w5 ⟨rfl, hb5⟩
 have hx5 := c10_on hx3 hb5
 have fx5 : ∀ o, w5.frozen? ⟨w.heap.size + 1 + 1, o, none⟩ = false := fun o => ((bcell hb5).2 _ o hx3.1).trans (fx3 o)
 have hv5 := c5_on hv3 hb5
 have hy5 := c10_on hy3 hb5
 have hw5 := below_on hw3 hb5
 have hsw5 : W.heap.size ≤ w5.heap.size := Nat.le_trans hsw3 hb5.size
 have HS5 := Lib.hid (FS.below hb5 (Nat.le_refl _) HS3.out)
 clear hx3 fx3 hw3 hb5 hy3 hv3 j0 j1 j2 j3 j4 j5
 have hz4 := hx5
 have hw4 := hw5
 have fz4 := fx5
 obtain ⟨z0, e0, e1, e2, e3, e4, e5, e6, e7, e8, e9⟩ := id hz4
 go_upto_region 30 with fail
 generalize hW7 : World.setCell _ _ _ = W7
 obtain ⟨hz7, hk7, hs7, hf7⟩ := ten_set (g := ⟨0, 0, 0, 0, 0, 0, 0, 0, 0⟩) hz4 hW7
 have hw7 : Below w.heap.size w W7 := hw4.trans ((put10b (g := ⟨0, 0, 0, 0, 0, 0, 0, 0, 0⟩) hz4 hW7).2 w.heap.size (by omega))
 obtain ⟨y0, y1, y2, y3, y4, y5, y6, y7, y8, y9, y10⟩ := hz7
 clear hW7 hk7 hs7 hf7 z0 e0 e1 e2 e3 e4 e5 e6 e7 e8 e9
 go_wp2
 refine bodyPost_ret (v := .tuple #[.agg #[.int .i64 0, .int .i64 0, .int .i64 0, .int .i64 0, .int .i64 0, .int .i64 0, .int .i64 0, .int .i64 0, .int .i64 0, .slice none 0 0], .bool false]) (by simp [results, Try.results71, go_sem, y1, y2, y3, y4, y5, y6, y7, y8, y9, y10]) rfl ⟨rfl, hw7⟩

set_option maxRecDepth 10000 in
set_option maxHeartbeats 2000000 in
theorem rawSubst_novar (σ : SbD) (h : FH) (f : Fo) (w : World) (lo : Nat) (s : Value) (hz : f.size ≤ 1048576) (hs : FS w lo f s) (hv : vfB h f = true) (ht : tvB σ.a σ.b σ.c σ.d σ.n = true) (hvv : varB σ.v = false) : Calls Try.prog 71 #[.agg #[.int .i64 h.k, .int .i64 h.ak, .int .i64 h.am, .int .i64 h.a, .int .i64 h.b, .int .i64 h.c, .int .i64 h.d, .int .i64 h.n, .int .i64 h.v, s], .int .i64 σ.v, .agg #[.int .i64 σ.a, .int .i64 σ.b, .int .i64 σ.c, .int .i64 σ.d, .int .i64 σ.n]] w (VnT w) := by
 have HO := Lib.hid (fun W hW => olF_any h f W lo s hz (FS.below (w := w) hW (Nat.le_refl _) hs))
 have HV := Lib.hid (fun W l t hs => specFormulaValid_any h f W l t hs)
 rw [hv] at HV
 have HT := Lib.hid (fun W => specTermValid_b σ true W ht)
 have HI := Lib.hid (fun W => l1Var_is σ.v false W hvv)
 obtain ⟨sa0, sn0, sc0, rfl⟩ := hs.slice
 clear hs hz hv ht hvv
 go_enter Try.func71, Try.ntmps71
 go_wp2_with fail
 generalize hW : World.alloc _ _ = W
 have hw : Below w.heap.size w W := by subst hW; go_grown
 have hy : C10 W w.heap.size h (.slice sa0 sn0 sc0) := by subst hW; exact (by refine ⟨?_, ?_, ?_, ?_, ?_, ?_, ?_, ?_, ?_, ?_, ?_⟩ <;> first | (simp [go_sem]; done) | (simp; omega))
 have fy : ∀ o, W.frozen? ⟨w.heap.size, o, none⟩ = false := fun o => by subst hW; simp [go_sem]
 have hv : C5 W (w.heap.size + 1) σ.a σ.b σ.c σ.d σ.n := by subst hW; exact (by refine ⟨?_, ?_, ?_, ?_, ?_, ?_⟩ <;> first | (simp [go_sem]; done) | (simp; omega))
 have hx : C10 W (w.heap.size + 1 + 1) ⟨0, 0, 0, 0, 0, 0, 0, 0, 0⟩ (.slice none 0 0) := by subst hW; exact (by refine ⟨?_, ?_, ?_, ?_, ?_, ?_, ?_, ?_, ?_, ?_, ?_⟩ <;> first | (simp [go_sem]; done) | (simp; omega))
 have hf : ∀ o, W.frozen? ⟨w.heap.size + 1 + 1, o, none⟩ = false := fun o => by subst hW; simp [go_sem]
 have hws : w.heap.size + 1 + 1 < W.heap.size := hx.1
 clear hW
 refine (HO.out W hw).mono ?_
 rintro e w1 ⟨s1, rfl, hs1, hb1⟩
 obtain ⟨ra, rn, rc, rfl⟩ := hs1.slice
 have HS1 := Lib.hid (SF.fs (Nat.le_refl _) hs1)
 have hy1 := c10_on hy hb1
 have hx1 := c10_on hx hb1
 have hv1 := c5_on hv hb1
 have fy1 : ∀ o, w1.frozen? ⟨w.heap.size, o, none⟩ = false := fun o => ((bcell hb1).2 _ o hy.1).trans (fy o)
 have fx1 : ∀ o, w1.frozen? ⟨w.heap.size + 1 + 1, o, none⟩ = false := fun o => ((bcell hb1).2 _ o hx.1).trans (hf o)
 have hw1 := below_on hw hb1
 have hsw1 : W.heap.size ≤ w1.heap.size := hb1.size
 obtain ⟨x0, c0, c1, c2, c3, c4, c5, c6, c7, c8, c9⟩ := id hy1
 clear hs1 hb1 hx hy fy hf hw hv
 go_upto_region 2 with fail
 generalize hW2 : World.setCell _ _ _ = W2
 obtain ⟨hy2, hblk2, hsz2, hfz2⟩ := ten_set (g := h) hy1 hW2
 have hx2 := c10_block (Nat.le_of_eq hsz2.symm) (hblk2 (w.heap.size + 1 + 1) (by omega)) hx1
 have fx2 : ∀ o, W2.frozen? ⟨w.heap.size + 1 + 1, o, none⟩ = false := fun o => (hfz2 _ o).trans (fx1 o)
 have hv2 := c5_putb hv1 (by omega) hblk2 hsz2
 have hw2 := hw1.trans ((put10b (g := h) hy1 hW2).2 w.heap.size (Nat.le_refl _))
 have HS2 := Lib.hid (FS.kept (w' := W2) (Nat.le_of_eq hsz2.symm) (fun k hk _ => hblk2 k (by omega)) HS1.out)
 obtain ⟨y0, d0, d1, d2, d3, d4, d5, d6, d7, d8, d9⟩ := id hy2
 have hsw2 : W.heap.size ≤ W2.heap.size := by omega
 clear hW2 x0 c0 c1 c2 c3 c4 c5 c6 c7 c8 c9 hblk2 hx1 fx1 fy1 hw1 hy1 hsz2 hfz2 HS1 hv1
 go_wp2_with fail
 refine (HV.out W2 _ _ HS2.out).mono ?_
 rintro e w3 ⟨rfl, hb3⟩
 have hx3 := c10_on hx2 hb3
 have fx3 : ∀ o, w3.frozen? ⟨w.heap.size + 1 + 1, o, none⟩ = false := fun o => ((bcell hb3).2 _ o hx2.1).trans (fx2 o)
 have hv3 := c5_on hv2 hb3
 have hy3 := c10_on hy2 hb3
 have hw3 := below_on hw2 hb3
 have hsw3 : W.heap.size ≤ w3.heap.size := Nat.le_trans hsw2 hb3.size
 have HS3 := Lib.hid (FS.below hb3 (Nat.le_refl _) HS2.out)
 clear hx2 fx2 hw2 hb3 hy2 hv2 y0 d0 d1 d2 d3 d4 d5 d6 d7 d8 d9
 obtain ⟨j0, j1, j2, j3, j4, j5⟩ := id hv3
 go_wp2_with fail
 refine (HT.out w3).mono ?_
 rintro e w5 ⟨rfl, hb5⟩
 have hx5 := c10_on hx3 hb5
 have fx5 : ∀ o, w5.frozen? ⟨w.heap.size + 1 + 1, o, none⟩ = false := fun o => ((bcell hb5).2 _ o hx3.1).trans (fx3 o)
 have hv5 := c5_on hv3 hb5
 have hy5 := c10_on hy3 hb5
 have hw5 := below_on hw3 hb5
 have hsw5 : W.heap.size ≤ w5.heap.size := Nat.le_trans hsw3 hb5.size
 have HS5 := Lib.hid (FS.below hb5 (Nat.le_refl _) HS3.out)
 clear hx3 fx3 hw3 hb5 hy3 hv3 j0 j1 j2 j3 j4 j5
 go_wp2_with fail
 refine (HI.out w5).mono ?_
 rintro e w' ⟨rfl, rfl⟩
 have hz4 := hx5
 have hw4 := hw5
 have fz4 := fx5
 obtain ⟨z0, e0, e1, e2, e3, e4, e5, e6, e7, e8, e9⟩ := id hz4
 go_upto_region 30 with fail
 generalize hW7 : World.setCell _ _ _ = W7
 obtain ⟨hz7, hk7, hs7, hf7⟩ := ten_set (g := ⟨0, 0, 0, 0, 0, 0, 0, 0, 0⟩) hz4 hW7
 have hw7 : Below w.heap.size w W7 := hw4.trans ((put10b (g := ⟨0, 0, 0, 0, 0, 0, 0, 0, 0⟩) hz4 hW7).2 w.heap.size (by omega))
 obtain ⟨y0, y1, y2, y3, y4, y5, y6, y7, y8, y9, y10⟩ := hz7
 clear hW7 hk7 hs7 hf7 z0 e0 e1 e2 e3 e4 e5 e6 e7 e8 e9
 go_wp2
 refine bodyPost_ret (v := .tuple #[.agg #[.int .i64 0, .int .i64 0, .int .i64 0, .int .i64 0, .int .i64 0, .int .i64 0, .int .i64 0, .int .i64 0, .int .i64 0, .slice none 0 0], .bool false]) (by simp [results, Try.results71, go_sem, y1, y2, y3, y4, y5, y6, y7, y8, y9, y10]) rfl ⟨rfl, hw7⟩

set_option maxRecDepth 10000 in
set_option maxHeartbeats 2000000 in
theorem rawSubst_good (σ : SbD) (h : FH) (f : Fo) (w : World) (lo : Nat) (s : Value) (hz : f.size ≤ 1048576) (hs : FS w lo f s) (hv : vfB h f = true) (hb : svB σ = true) : Calls Try.prog 71 #[.agg #[.int .i64 h.k, .int .i64 h.ak, .int .i64 h.am, .int .i64 h.a, .int .i64 h.b, .int .i64 h.c, .int .i64 h.d, .int .i64 h.n, .int .i64 h.v, s], .int .i64 σ.v, .agg #[.int .i64 σ.a, .int .i64 σ.b, .int .i64 σ.c, .int .i64 σ.d, .int .i64 σ.n]] w (RqT (okQ (vfB (sbF σ h f).1 (sbF σ h f).2) (sbF σ h f).1 (sbF σ h f).2) (vfB (sbF σ h f).1 (sbF σ h f).2) w.heap.size w) := by
 have hσ := sv_ok hb
 have hvt : varB σ.v = true ∧ tvB σ.a σ.b σ.c σ.d σ.n = true := by unfold svB at hb; simpa using hb
 have hvp := vf_parts hv
 have HO := Lib.hid (fun W hW => olF_any h f W lo s hz (FS.below (w := w) hW (Nat.le_refl _) hs))
 have HV := Lib.hid (fun W l t hs => specFormulaValid_any h f W l t hs)
 rw [hv] at HV
 have HT := Lib.hid (fun W => specTermValid_b σ true W hvt.2)
 have HI := Lib.hid (fun W => l1Var_is σ.v true W hvt.1)
 have HL := Lib.hid (fun W l t (hs : FS W l f t) => lb_any σ hσ f.size h f (Nat.le_refl _) hvp.1 hvp.2.1 W _ t (FSP.of hs))
 have hkk : ∀ q : FH × Fo, (sbK σ h f = true → q = sbF σ h f) → (sbK σ h f && vfB q.1 q.2) = vfB (sbF σ h f).1 (sbF σ h f).2 ∧ okQ (vfB (sbF σ h f).1 (sbF σ h f).2) q.1 q.2 = okQ (vfB (sbF σ h f).1 (sbF σ h f).2) (sbF σ h f).1 (sbF σ h f).2 := by
  intro q hq
  cases hk : sbK σ h f with
  | true => rw [hq hk, Bool.true_and]; exact ⟨rfl, rfl⟩
  | false =>
   have e : vfB (sbF σ h f).1 (sbF σ h f).2 = false := by
    unfold vfB
    have h9 : (ownB (sbF σ h f).1 (sbF σ h f).2.len && (sbF σ h f).2.okB) = false := hk
    rw [h9]; rfl
   rw [e]
   exact ⟨rfl, rfl⟩
 have HKK := Lib.hid hkk
 obtain ⟨p, hp⟩ : ∃ p, okQ (vfB (sbF σ h f).1 (sbF σ h f).2) (sbF σ h f).1 (sbF σ h f).2 = p := ⟨_, rfl⟩
 obtain ⟨ok, hok⟩ : ∃ ok, vfB (sbF σ h f).1 (sbF σ h f).2 = ok := ⟨_, rfl⟩
 rw [hp, hok] at HKK
 rw [hp, hok]
 obtain ⟨sk, hsk⟩ : ∃ sk, sbK σ h f = sk := ⟨_, rfl⟩
 have HSK := Lib.hid hsk
 obtain ⟨sa0, sn0, sc0, rfl⟩ := hs.slice
 clear hs hz hv hb hσ hvt hvp hkk hp hok hsk
 go_enter Try.func71, Try.ntmps71
 go_wp2_with fail
 generalize hW : World.alloc _ _ = W
 have hw : Below w.heap.size w W := by subst hW; go_grown
 have hy : C10 W w.heap.size h (.slice sa0 sn0 sc0) := by subst hW; exact (by refine ⟨?_, ?_, ?_, ?_, ?_, ?_, ?_, ?_, ?_, ?_, ?_⟩ <;> first | (simp [go_sem]; done) | (simp; omega))
 have fy : ∀ o, W.frozen? ⟨w.heap.size, o, none⟩ = false := fun o => by subst hW; simp [go_sem]
 have hv : C5 W (w.heap.size + 1) σ.a σ.b σ.c σ.d σ.n := by subst hW; exact (by refine ⟨?_, ?_, ?_, ?_, ?_, ?_⟩ <;> first | (simp [go_sem]; done) | (simp; omega))
 have hx : C10 W (w.heap.size + 1 + 1) ⟨0, 0, 0, 0, 0, 0, 0, 0, 0⟩ (.slice none 0 0) := by subst hW; exact (by refine ⟨?_, ?_, ?_, ?_, ?_, ?_, ?_, ?_, ?_, ?_, ?_⟩ <;> first | (simp [go_sem]; done) | (simp; omega))
 have hf : ∀ o, W.frozen? ⟨w.heap.size + 1 + 1, o, none⟩ = false := fun o => by subst hW; simp [go_sem]
 have hws : w.heap.size + 1 + 1 < W.heap.size := hx.1
 clear hW
 refine (HO.out W hw).mono ?_
 rintro e w1 ⟨s1, rfl, hs1, hb1⟩
 obtain ⟨ra, rn, rc, rfl⟩ := hs1.slice
 have HS1 := Lib.hid (SF.fs (Nat.le_refl _) hs1)
 have hy1 := c10_on hy hb1
 have hx1 := c10_on hx hb1
 have hv1 := c5_on hv hb1
 have fy1 : ∀ o, w1.frozen? ⟨w.heap.size, o, none⟩ = false := fun o => ((bcell hb1).2 _ o hy.1).trans (fy o)
 have fx1 : ∀ o, w1.frozen? ⟨w.heap.size + 1 + 1, o, none⟩ = false := fun o => ((bcell hb1).2 _ o hx.1).trans (hf o)
 have hw1 := below_on hw hb1
 have hsw1 : W.heap.size ≤ w1.heap.size := hb1.size
 obtain ⟨x0, c0, c1, c2, c3, c4, c5, c6, c7, c8, c9⟩ := id hy1
 clear hs1 hb1 hx hy fy hf hw hv
 go_upto_region 2 with fail
 generalize hW2 : World.setCell _ _ _ = W2
 obtain ⟨hy2, hblk2, hsz2, hfz2⟩ := ten_set (g := h) hy1 hW2
 have hx2 := c10_block (Nat.le_of_eq hsz2.symm) (hblk2 (w.heap.size + 1 + 1) (by omega)) hx1
 have fx2 : ∀ o, W2.frozen? ⟨w.heap.size + 1 + 1, o, none⟩ = false := fun o => (hfz2 _ o).trans (fx1 o)
 have hv2 := c5_putb hv1 (by omega) hblk2 hsz2
 have hw2 := hw1.trans ((put10b (g := h) hy1 hW2).2 w.heap.size (Nat.le_refl _))
 have HS2 := Lib.hid (FS.kept (w' := W2) (Nat.le_of_eq hsz2.symm) (fun k hk _ => hblk2 k (by omega)) HS1.out)
 obtain ⟨y0, d0, d1, d2, d3, d4, d5, d6, d7, d8, d9⟩ := id hy2
 have hsw2 : W.heap.size ≤ W2.heap.size := by omega
 clear hW2 x0 c0 c1 c2 c3 c4 c5 c6 c7 c8 c9 hblk2 hx1 fx1 fy1 hw1 hy1 hsz2 hfz2 HS1 hv1
 go_wp2_with fail
 refine (HV.out W2 _ _ HS2.out).mono ?_
 rintro e w3 ⟨rfl, hb3⟩
 have hx3 := c10_on hx2 hb3
 have fx3 : ∀ o, w3.frozen? ⟨w.heap.size + 1 + 1, o, none⟩ = false := fun o => ((bcell hb3).2 _ o hx2.1).trans (fx2 o)
 have hv3 := c5_on hv2 hb3
 have hy3 := c10_on hy2 hb3
 have hw3 := below_on hw2 hb3
 have hsw3 : W.heap.size ≤ w3.heap.size := Nat.le_trans hsw2 hb3.size
 have HS3 := Lib.hid (FS.below hb3 (Nat.le_refl _) HS2.out)
 clear hx2 fx2 hw2 hb3 hy2 hv2 y0 d0 d1 d2 d3 d4 d5 d6 d7 d8 d9
 obtain ⟨j0, j1, j2, j3, j4, j5⟩ := id hv3
 go_wp2_with fail
 refine (HT.out w3).mono ?_
 rintro e w5 ⟨rfl, hb5⟩
 have hx5 := c10_on hx3 hb5
 have fx5 : ∀ o, w5.frozen? ⟨w.heap.size + 1 + 1, o, none⟩ = false := fun o => ((bcell hb5).2 _ o hx3.1).trans (fx3 o)
 have hv5 := c5_on hv3 hb5
 have hy5 := c10_on hy3 hb5
 have hw5 := below_on hw3 hb5
 have hsw5 : W.heap.size ≤ w5.heap.size := Nat.le_trans hsw3 hb5.size
 have HS5 := Lib.hid (FS.below hb5 (Nat.le_refl _) HS3.out)
 clear hx3 fx3 hw3 hb5 hy3 hv3 j0 j1 j2 j3 j4 j5
 go_wp2_with fail
 refine (HI.out w5).mono ?_
 rintro e w' ⟨rfl, rfl⟩
 obtain ⟨j0, j1, j2, j3, j4, j5⟩ := id hv5
 obtain ⟨y0, d0, d1, d2, d3, d4, d5, d6, d7, d8, d9⟩ := id hy5
 go_wp2_with fail
 refine (HL.out w5 _ _ HS5.out).mono ?_
 rintro e w6 ⟨q, s6, rfl, hq, hs6, hb6⟩
 obtain ⟨ta, tn, tc, rfl⟩ := hs6.slice
 have HS6 := Lib.hid (FSP.to (lo := W.heap.size) (fun k hk => by rcases hk.1 with h9 | h9 <;> first | exact h9.1 | omega) hs6)
 have hkq := HKK.out q hq
 have HU := Lib.hid (fun W l t hs => l3Valid_u q.1 q.2 W l t (sbK σ h f) ok hs hkq.1)
 rw [hkq.2] at HU
 rw [HSK.out] at HU ⊢
 clear hs6 hq hkq
 go_wp2_with fail
 generalize hW7 : World.alloc _ _ = W7
 have hb67 : Below w6.heap.size w6 W7 := by subst hW7; go_grown
 have hb57 := below_on hb6 hb67
 have HU7 := Lib.hid (HU.out W7 W.heap.size _ (FS.below hb67 (Nat.le_refl _) HS6.out))
 clear hW7 hb6 hb67 j0 j1 j2 j3 j4 j5 y0 d0 d1 d2 d3 d4 d5 d6 d7 d8 d9
 refine HU7.out.mono ?_
 rintro e w8 ⟨s8, rfl, hs8, hb8⟩
 obtain ⟨ua, un, uc, rfl⟩ := hs8.slice
 have HS8 := Lib.hid hs8
 have hb58 := below_on hb57 hb8
 have hz4 := c10_on hx5 hb58
 have fz4 : ∀ o, w8.frozen? ⟨w.heap.size + 1 + 1, o, none⟩ = false := fun o => ((bcell hb58).2 _ o hx5.1).trans (fx5 o)
 have hw4 := below_on hw5 hb58
 clear hs8 hb8 hb57 hb58 hx5 fx5 hw5 hy5 hv5 HU7 HU
 obtain ⟨z0, e0, e1, e2, e3, e4, e5, e6, e7, e8, e9⟩ := id hz4
 go_upto_region 30 with fail
 generalize hW9 : World.setCell _ _ _ = W9
 obtain ⟨hz9, hk9, hs9, hf9⟩ := ten_set (g := p.1) hz4 hW9
 have hw9 : Below w.heap.size w W9 := hw4.trans ((put10b (g := p.1) hz4 hW9).2 w.heap.size (by omega))
 have HS9 := Lib.hid (FS.mono (lo' := w.heap.size) (by omega) (FS.kept (w' := W9) (Nat.le_of_eq hs9.symm) (fun k hk _ => hk9 k (by omega)) HS8.out))
 obtain ⟨y0, y1, y2, y3, y4, y5, y6, y7, y8, y9, y10⟩ := hz9
 clear hW9 hk9 hs9 hf9 z0 e0 e1 e2 e3 e4 e5 e6 e7 e8 e9
 go_wp2
 refine bodyPost_ret (v := .tuple #[.agg #[.int .i64 p.1.k, .int .i64 p.1.ak, .int .i64 p.1.am, .int .i64 p.1.a, .int .i64 p.1.b, .int .i64 p.1.c, .int .i64 p.1.d, .int .i64 p.1.n, .int .i64 p.1.v, .slice ua un uc], .bool ok]) (by simp [results, Try.results71, go_sem, y1, y2, y3, y4, y5, y6, y7, y8, y9, y10]) rfl ⟨_, rfl, HS9.out, hw9⟩

theorem rawSubst_any (σ : SbD) (h : FH) (f : Fo) (w : World) (lo : Nat) (s : Value) (hz : f.size ≤ 1048576) (hs : FS w lo f s) : Calls Try.prog 71 #[.agg #[.int .i64 h.k, .int .i64 h.ak, .int .i64 h.am, .int .i64 h.a, .int .i64 h.b, .int .i64 h.c, .int .i64 h.d, .int .i64 h.n, .int .i64 h.v, s], .int .i64 σ.v, .agg #[.int .i64 σ.a, .int .i64 σ.b, .int .i64 σ.c, .int .i64 σ.d, .int .i64 σ.n]] w (RqT (okQ (ssB σ h f) (sbF σ h f).1 (sbF σ h f).2) (ssB σ h f) w.heap.size w) := by
 have no : ∀ {e w'}, VnT w e w' → RqT (okQ false (sbF σ h f).1 (sbF σ h f).2) false w.heap.size w e w' := fun hp => ⟨.slice none 0 0, hp.1, fs_none _ _, hp.2⟩
 cases hv : vfB h f with
 | false =>
  rw [show ssB σ h f = false by unfold ssB; rw [hv]; simp]
  exact (rawSubst_novalid σ h f w lo s hz hs hv).mono fun _ _ hp => no hp
 | true =>
  cases ht : tvB σ.a σ.b σ.c σ.d σ.n with
  | false =>
   rw [show ssB σ h f = false by unfold ssB svB; rw [ht]; simp]
   exact (rawSubst_noterm σ h f w lo s hz hs hv ht).mono fun _ _ hp => no hp
  | true =>
   cases hvv : varB σ.v with
   | false =>
    rw [show ssB σ h f = false by unfold ssB svB; rw [hvv]; simp]
    exact (rawSubst_novar σ h f w lo s hz hs hv ht hvv).mono fun _ _ hp => no hp
   | true =>
    have hb : svB σ = true := by unfold svB; rw [hvv, ht]; rfl
    rw [show ssB σ h f = vfB (sbF σ h f).1 (sbF σ h f).2 by unfold ssB; rw [hb, hv]; simp]
    exact rawSubst_good σ h f w lo s hz hs hv hb

set_option maxRecDepth 10000 in
set_option maxHeartbeats 2000000 in
theorem specSubstFormula_any (σ : SbD) (h : FH) (f : Fo) (w : World) (lo : Nat) (s : Value) (hz : f.size ≤ 1048576) (hs : FS w lo f s) : Calls Try.prog 25 #[.agg #[.int .i64 h.k, .int .i64 h.ak, .int .i64 h.am, .int .i64 h.a, .int .i64 h.b, .int .i64 h.c, .int .i64 h.d, .int .i64 h.n, .int .i64 h.v, s], .int .i64 σ.v, .agg #[.int .i64 σ.a, .int .i64 σ.b, .int .i64 σ.c, .int .i64 σ.d, .int .i64 σ.n]] w (FrT (okQ (ssB σ h f) (sbF σ h f).1 (sbF σ h f).2) (ssB σ h f) w) := by
 have HR := Lib.hid (fun W hW => rawSubst_any σ h f W lo s hz (FS.below (w := w) hW (Nat.le_refl _) hs))
 have hqz := okQ_size (ssB σ h f) (sbF σ h f).1 (sbF σ h f).2 (fun e => by simp only [Bool.and_eq_true, ssB] at e; exact e.2.2)
 obtain ⟨q, hq⟩ : ∃ q, okQ (ssB σ h f) (sbF σ h f).1 (sbF σ h f).2 = q := ⟨_, rfl⟩
 obtain ⟨ok, hok⟩ : ∃ ok, ssB σ h f = ok := ⟨_, rfl⟩
 rw [hq] at HR hqz ⊢
 rw [hok] at HR ⊢
 have HO := Lib.hid (fun W l t hs => olF_any q.1 q.2 W l t (by omega) hs)
 obtain ⟨sa0, sn0, sc0, rfl⟩ := hs.slice
 clear hs hq hok hqz
 go_enter Try.func25, Try.ntmps25
 go_wp2_with fail
 generalize hW : World.alloc _ _ = W
 have hw : Below w.heap.size w W := by subst hW; go_grown
 have hx : C10 W (w.heap.size + 1 + 1) ⟨0, 0, 0, 0, 0, 0, 0, 0, 0⟩ (.slice none 0 0) := by subst hW; exact (by refine ⟨?_, ?_, ?_, ?_, ?_, ?_, ?_, ?_, ?_, ?_, ?_⟩ <;> first | (simp [go_sem]; done) | (simp; omega))
 have hf : ∀ o, W.frozen? ⟨w.heap.size + 1 + 1, o, none⟩ = false := fun o => by subst hW; simp [go_sem]
 clear hW
 refine (HR.out W hw).mono ?_
 rintro e w1 ⟨s1, rfl, hs1, hb1⟩
 obtain ⟨ra, rn, rc, rfl⟩ := hs1.slice
 have HS1 := Lib.hid hs1
 clear hs1
 go_wp2_with fail
 generalize hW2 : World.alloc _ _ = W2
 have hb12 : Below w1.heap.size w1 W2 := by subst hW2; go_grown
 have HO2 := Lib.hid (HO.out W2 _ _ (FS.below hb12 (Nat.le_refl _) HS1.out))
 have hbW2 := below_on hb1 hb12
 clear hW2 hb1 hb12
 refine HO2.out.mono ?_
 rintro e w3 ⟨s3, rfl, hs3, hb23⟩
 obtain ⟨sa, sn, sc, rfl⟩ := hs3.slice
 have HS3 := Lib.hid hs3
 have hsW2 := hbW2.size
 have hb3 := below_on hbW2 hb23
 clear hbW2 hb23 hs3 HO2
 have hx3 := c10_on hx hb3
 have hf3 : ∀ o, w3.frozen? ⟨w.heap.size + 1 + 1, o, none⟩ = false := fun o => ((bcell hb3).2 _ o hx.1).trans (hf o)
 have hw3 := below_on hw hb3
 have hws : w.heap.size + 1 + 1 < W.heap.size := hx.1
 obtain ⟨x0, c0, c1, c2, c3, c4, c5, c6, c7, c8, c9⟩ := id hx3
 clear hb3 hx hf hw
 go_upto_region 20 with fail
 generalize hW7 : World.setCell _ _ _ = W7
 have hblk7 : ∀ x, x ≠ w.heap.size + 1 + 1 → W7.heap[x]? = w3.heap[x]? := fun x hx => by subst hW7; repeat rw [Below.heap_setCell _ _ _ _ (by dsimp only; omega)]
 have hsz7 : W7.heap.size = w3.heap.size := by subst hW7; simp [World.setCell]
 obtain ⟨hx7, hb7⟩ := put10b (g := q.1) hx3 hW7
 have hww7 := hw3.trans (hb7 w.heap.size (by omega))
 have HS7 : Hid (SF W7 w.heap.size W7.heap.size q.2 (.slice sa sn sc)) := by
  have h0 := SF.same (w' := W7) (fun x h1 _ => hblk7 x (by have h2 : W2.heap.size ≤ x := h1; omega)) HS3.out
  exact SF.mono (by omega) (by omega) h0
 obtain ⟨z0, k1, k2, k3, k4, k5, k6, k7, k8, k9, k10⟩ := hx7
 clear hW7 x0 c0 c1 c2 c3 c4 c5 c6 c7 c8 c9 hblk7 hsz7
 go_wp2
 refine bodyPost_ret (v := .tuple #[.agg #[.int .i64 q.1.k, .int .i64 q.1.ak, .int .i64 q.1.am, .int .i64 q.1.a, .int .i64 q.1.b, .int .i64 q.1.c, .int .i64 q.1.d, .int .i64 q.1.n, .int .i64 q.1.v, .slice sa sn sc], .bool ok]) (by simp [results, Try.results25, go_sem, k1, k2, k3, k4, k5, k6, k7, k8, k9, k10]) rfl ⟨_, rfl, HS7.out, hww7⟩

end Go.Proofs.Ytcgolbkpfncgpaa

/- The walk of the law that says that SubstFormula answers as its model does. -/
namespace Go.Proofs.Ytcgolbkpfncgpaa
open Go.RowKit

end Go.Proofs.Ytcgolbkpfncgpaa
