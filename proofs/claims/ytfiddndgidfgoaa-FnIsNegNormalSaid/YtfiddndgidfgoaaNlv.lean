import Derived.Test.YtfiddndgidfgoaaNm
import Derived.Test.YtfiddndgidfgoaaNk
import Derived.Test.YtfiddndgidfgoaaNfJ

/- The model's l3Valid in one form. -/
namespace Go.Proofs.Ytfiddndgidfgoaa
open Go.RowKit

/-- A formula and a bool are returned; the formula's lists lie in blocks from lo on. -/
def RqT (q : FH × Fo) (ok : Bool) (lo : Nat) (w : World) (e : Ending) (w' : World) : Prop := ∃ s, e = .returned (.tuple #[.agg #[.int .i64 q.1.k, .int .i64 q.1.ak, .int .i64 q.1.am, .int .i64 q.1.a, .int .i64 q.1.b, .int .i64 q.1.c, .int .i64 q.1.d, .int .i64 q.1.n, .int .i64 q.1.v, s], .bool ok]) ∧ FS w' lo q.2 s ∧ Below w.heap.size w w'
theorem fs_none (w : World) (lo : Nat) : FS w lo .nil (.slice none 0 0) := .inl ⟨rfl, none, 0, rfl, Nat.le_refl _, Nat.zero_le _⟩
theorem l3Valid_u (h : FH) (f : Fo) (w : World) (lo : Nat) (s : Value) (ok b : Bool) (hs : FS w lo f s) (hb : (ok && vfB h f) = b) : Calls Try.prog 76 #[.agg #[.int .i64 h.k, .int .i64 h.ak, .int .i64 h.am, .int .i64 h.a, .int .i64 h.b, .int .i64 h.c, .int .i64 h.d, .int .i64 h.n, .int .i64 h.v, s], .bool ok] w (RqT (okQ b h f) b lo w) := by
  cases b with
  | false => exact (l3Valid_no h f w lo s ok hs hb).mono fun _ _ hp => ⟨.slice none 0 0, hp.1, fs_none _ _, hp.2⟩
  | true =>
    simp only [Bool.and_eq_true] at hb
    obtain ⟨rfl, hv⟩ := hb
    exact (l3Valid_yes h f w lo s hs hv).mono fun _ w' hp => ⟨s, hp.1, FS.below hp.2 (Nat.le_refl _) hs, hp.2⟩
theorem okQ_size (b : Bool) (h : FH) (f : Fo) (hb : b = true → vfB h f = true) : (okQ b h f).2.size ≤ 600 := by
  unfold okQ
  split
  · rename_i e
    have := (vf_parts (hb e)).2.2
    show f.size ≤ 600
    omega
  · exact Nat.zero_le _

end Go.Proofs.Ytfiddndgidfgoaa

/- Several texts in one: NfK NfL. -/

/- The contract of the model's l4Neg. -/
namespace Go.Proofs.Ytfiddndgidfgoaa
open Go.RowKit

set_option maxHeartbeats 1000000 in
/-- An atom. -/
theorem ln_atom0 (h : FH) (f : Fo) (hk : h.k = 2) : LnF false h f := by
  intro ho _ w lo s hs
  have hq := ngF_else (b := false) (f := f) (h := h) (by omega) (.inl rfl)
  obtain rfl : f = .nil := by
    rcases own_kind ho with ⟨hl, _⟩ | ⟨_, h | h | h⟩ | ⟨_, h | h⟩
    · exact Fo.len_zero hl
    · omega
    · omega
    · omega
    · omega
    · omega
  obtain ⟨sa, sc, rfl⟩ := fs_len0 hs
  have HS := Lib.hid (show FS w 0 .nil (.slice sa 0 sc) → True from fun _ => trivial)
  have hnil : ∀ w' : World, FS w' w.heap.size .nil (.slice sa 0 sc) := by
    intro w'
    rcases hs with ⟨_, x, cap, e, h1, h2⟩ | ⟨h0, _⟩
    · exact .inl ⟨rfl, x, cap, e, h1, h2⟩
    · simp [Fo.len] at h0
  have HN := Lib.hid hnil
  obtain ⟨kk, ak, am, a, bq, c, d, n, u⟩ := h
  dsimp only at hk hq
  subst hk
  have HQ := Lib.hid hq
  simp only [Fo.len]
  clear hs hnil HS hq ho
  go_enter Try.func89, Try.ntmps89
  go_wp2
  refine bodyPost_ret (v := .agg #[.int .i64 2, .int .i64 ak, .int .i64 am, .int .i64 a, .int .i64 bq, .int .i64 c, .int .i64 d, .int .i64 n, .int .i64 u, .slice sa 0 sc]) (by simp [results, Try.results89, go_sem]) rfl ⟨_, by rw [HQ.out]; rfl, by rw [HQ.out]; exact HN.out _, ?_⟩
  go_grown

set_option maxRecDepth 10000 in
set_option maxHeartbeats 2000000 in
/-- An atom that is negated. -/
theorem ln_atom1 (h : FH) (f : Fo) (hk : h.k = 2) : LnF true h f := by
  intro ho _ w lo s hs
  have hav : avB h.ak h.am h.a h.b h.c h.d h.n = true := by
    unfold ownB atB at ho
    rw [if_pos hk] at ho
    simp only [Bool.and_eq_true] at ho
    exact ho.1.1
  have HNG := Lib.hid (fun W => l2Negate_t h.ak h.am h.a h.b h.c h.d h.n W hav)
  have hl : (ngAt h).length ≤ 1000000 := by obtain ⟨x, L, e, h1⟩ := ngAt_pos h; rw [e]; simp; omega
  have HL4 := Lib.hid (fun v W (hr : RdA W v (ngAt h)) => l4Atoms_any v (ngAt h) W hr hl)
  have HLJ := Lib.hid (fun W lo s (h1 : lo ≤ (World.heap W).size) (h2 : FS W lo (atFo (ngAt h)) s) => l3Join_any false (atFo (ngAt h)) W lo s h1 h2)
  rw [ngF_atom hk]
  obtain ⟨q, hq⟩ : ∃ q, jA false (atFo (ngAt h)) = q := ⟨_, rfl⟩
  have HQ := Lib.hid hq
  rw [hq]
  obtain ⟨sa, sn, sc, rfl⟩ := hs.slice
  obtain ⟨kk, ak, am, a, bq, c, d, n, u⟩ := h
  dsimp only at hk
  subst hk
  clear hs hq ho hav hl
  go_enter Try.func89, Try.ntmps89
  go_wp2_with fail
  generalize hW : World.alloc _ _ = W
  have hw : Below w.heap.size w W := by subst hW; go_grown
  have hx : C10 W (w.heap.size + 1) ⟨0, 0, 0, 0, 0, 0, 0, 0, 0⟩ (.slice none 0 0) := by subst hW; exact (by refine ⟨?_, ?_, ?_, ?_, ?_, ?_, ?_, ?_, ?_, ?_, ?_⟩ <;> first | (simp [go_sem]; done) | (simp; omega))
  have hf : ∀ o, W.frozen? ⟨w.heap.size + 1, o, none⟩ = false := fun o => by subst hW; simp [go_sem]
  clear hW
  refine (HNG.out W).mono ?_
  rintro e w1 ⟨v1, rfl, ho1, hb1⟩
  have hr1 : RdA w1 v1 (ngAt ⟨2, ak, am, a, bq, c, d, n, u⟩) := ownA_reads ho1
  obtain ⟨ra, rn, rc, rfl⟩ : ∃ a n c, v1 = .slice a n c := by obtain ⟨sp, cap, e, _⟩ := hr1; exact ⟨_, _, _, e⟩
  clear ho1
  go_wp2_with fail
  refine (HL4.out _ w1 hr1).mono ?_
  rintro e w2 ⟨s2, rfl, hs2, hb2⟩
  obtain ⟨ta, tn, tc, rfl⟩ := hs2.slice
  have hs12 : w1.heap.size ≤ w2.heap.size := hb2.size
  have HS2 := Lib.hid (HLJ.out w2 w1.heap.size _ hs12 hs2)
  have hb12 := below_on hb1 hb2
  clear hb2 hs2 hr1
  go_wp2_with fail
  refine HS2.out.mono ?_
  rintro e w3 ⟨s3, rfl, hs3, hb23⟩
  rw [HQ.out] at hs3 ⊢
  obtain ⟨ua, un, uc, rfl⟩ := hs3.slice
  have hsw1 : W.heap.size ≤ w1.heap.size := hb1.size
  have HS3 := Lib.hid hs3
  have hb3 := below_on hb12 hb23
  clear hb1 hb12 hb23 hs3 HS2
  have hx3 := c10_on hx hb3
  have hf3 : ∀ o, w3.frozen? ⟨w.heap.size + 1, o, none⟩ = false := fun o => ((bcell hb3).2 _ o hx.1).trans (hf o)
  have hw3 := below_on hw hb3
  have hws : w.heap.size + 1 < W.heap.size := hx.1
  obtain ⟨x0, c0, c1, c2, c3, c4, c5, c6, c7, c8, c9⟩ := id hx3
  clear hb3 hx hf hw
  go_upto_region 20 with fail
  generalize hW7 : World.setCell _ _ _ = W7
  have hblk7 : ∀ x, x ≠ w.heap.size + 1 → W7.heap[x]? = w3.heap[x]? := fun x hx => by subst hW7; repeat rw [Below.heap_setCell _ _ _ _ (by dsimp only; omega)]
  have hsz7 : W7.heap.size = w3.heap.size := by subst hW7; simp [World.setCell]
  obtain ⟨hx7, hb7⟩ := put10b (g := q.1) hx3 hW7
  have hww7 := hw3.trans (hb7 w.heap.size (by omega))
  have HS7 : Hid (FS W7 w.heap.size q.2 (.slice ua un uc)) := by
    exact FSP.to (P := fun k => w1.heap.size ≤ k ∧ k < w3.heap.size) (fun k hk => by omega) (FSP.kept (w' := W7) (by omega) (fun x h1 _ => hblk7 x (by have h2 : w1.heap.size ≤ x := h1.1; omega)) (fun _ h => h) (FSP.of HS3.out))
  obtain ⟨z0, k1, k2, k3, k4, k5, k6, k7, k8, k9, k10⟩ := hx7
  clear hW7 x0 c0 c1 c2 c3 c4 c5 c6 c7 c8 c9 hblk7 hsz7
  go_wp2
  refine bodyPost_ret (v := .agg #[.int .i64 q.1.k, .int .i64 q.1.ak, .int .i64 q.1.am, .int .i64 q.1.a, .int .i64 q.1.b, .int .i64 q.1.c, .int .i64 q.1.d, .int .i64 q.1.n, .int .i64 q.1.v, .slice ua un uc]) (by simp [results, Try.results89, go_sem, k1, k2, k3, k4, k5, k6, k7, k8, k9, k10]) rfl ⟨_, rfl, HS7.out, hww7⟩

set_option maxRecDepth 10000 in
set_option maxHeartbeats 2000000 in
/-- A negation. -/
theorem ln_not (b : Bool) (h h1 : FH) (s1 : Fo) (hk : h.k = 3) (HC : LnF (!b) h1 s1) (ho1 : ownB h1 s1.len = true) (hok1 : s1.okB = true) : LnF b h (.cons h1 s1 .nil) := by
  intro ho _ w lo s hs
  rw [ngF_not hk]
  have H := Lib.hid (HC ho1 hok1)
  obtain ⟨q, hq⟩ : ∃ q, ngF (!b) h1 s1 = q := ⟨_, rfl⟩
  rw [hq] at H ⊢
  rcases hs with ⟨h0, _⟩ | ⟨_, bb, o, cap, rfl, hcc1, hcc2, hlo, hbb, hel⟩
  · simp [Fo.len] at h0
  · obtain ⟨⟨sl, hrow, hsl⟩, _⟩ := hel
    obtain ⟨la, ln, lc, rfl⟩ : ∃ a n c, sl = .slice a n c := FS.slice (w := w) (lo := lo) (f := s1) hsl
    have HSL := Lib.hid (show FS w lo s1 (.slice la ln lc) from hsl)
    obtain ⟨p0, p1, p2, p3, p4, p5, p6, p7, p8, p9⟩ := hrow
    simp only [Fo.len] at hcc1 ⊢
    obtain ⟨kk, ak, am, a, bq, c, d, n, u⟩ := h
    dsimp only at hk
    subst hk
    clear hsl ho hq ho1 hok1 HC
    go_enter Try.func89, Try.ntmps89
    go_wp2_with fail
    generalize hW : World.alloc _ _ = W
    have hw : Below w.heap.size w W := by subst hW; go_grown
    have hx : C10 W (w.heap.size + 1) ⟨0, 0, 0, 0, 0, 0, 0, 0, 0⟩ (.slice none 0 0) := by subst hW; exact (by refine ⟨?_, ?_, ?_, ?_, ?_, ?_, ?_, ?_, ?_, ?_, ?_⟩ <;> first | (simp [go_sem]; done) | (simp; omega))
    have hf : ∀ o, W.frozen? ⟨w.heap.size + 1, o, none⟩ = false := fun o => by subst hW; simp [go_sem]
    clear hW p0 p1 p2 p3 p4 p5 p6 p7 p8 p9
    refine (H.out W lo _ (FS.below hw (Nat.le_refl _) HSL.out)).mono ?_
    rintro e w3 ⟨s3, rfl, hs3, hb3⟩
    obtain ⟨ua, un, uc, rfl⟩ := hs3.slice
    have HS3 := Lib.hid hs3
    clear hs3
    have hx3 := c10_on hx hb3
    have hf3 : ∀ o, w3.frozen? ⟨w.heap.size + 1, o, none⟩ = false := fun o => ((bcell hb3).2 _ o hx.1).trans (hf o)
    have hw3 := below_on hw hb3
    have hws : w.heap.size + 1 < W.heap.size := hx.1
    obtain ⟨x0, c0, c1, c2, c3, c4, c5, c6, c7, c8, c9⟩ := id hx3
    clear hb3 hx hf hw
    go_upto_region 20 with fail
    generalize hW7 : World.setCell _ _ _ = W7
    have hblk7 : ∀ x, x ≠ w.heap.size + 1 → W7.heap[x]? = w3.heap[x]? := fun x hx => by subst hW7; repeat rw [Below.heap_setCell _ _ _ _ (by dsimp only; omega)]
    have hsz7 : W7.heap.size = w3.heap.size := by subst hW7; simp [World.setCell]
    obtain ⟨hx7, hb7⟩ := put10b (g := q.1) hx3 hW7
    have hww7 := hw3.trans (hb7 w.heap.size (by omega))
    have HS7 : Hid (FS W7 w.heap.size q.2 (.slice ua un uc)) := FSP.to (P := fun k => W.heap.size ≤ k ∧ k < w3.heap.size) (fun k hk => by omega) (FSP.kept (w' := W7) (by omega) (fun x h1 _ => hblk7 x (by have h2 : W.heap.size ≤ x := h1.1; omega)) (fun _ h => h) (FSP.of HS3.out))
    obtain ⟨z0, k1, k2, k3, k4, k5, k6, k7, k8, k9, k10⟩ := hx7
    clear hW7 x0 c0 c1 c2 c3 c4 c5 c6 c7 c8 c9 hblk7 hsz7
    go_wp2
    refine bodyPost_ret (v := .agg #[.int .i64 q.1.k, .int .i64 q.1.ak, .int .i64 q.1.am, .int .i64 q.1.a, .int .i64 q.1.b, .int .i64 q.1.c, .int .i64 q.1.d, .int .i64 q.1.n, .int .i64 q.1.v, .slice ua un uc]) (by simp [results, Try.results89, go_sem, k1, k2, k3, k4, k5, k6, k7, k8, k9, k10]) rfl ⟨_, rfl, HS7.out, hww7⟩

theorem ln_any : ∀ (N : Nat) (h : FH) (f : Fo), f.size ≤ N → ∀ b, LnF b h f := by
  intro N
  induction N with
  | zero =>
    intro h f hf b ho hok
    have HF : ∀ h' s', s'.size < f.size → ∀ b, LnF b h' s' := fun _ _ h9 => absurd h9 (by omega)
    by_cases h3 : h.k = 3
    · rcases own_kind ho with ⟨_, h9 | h9 | h9⟩ | ⟨hl, _⟩ | ⟨_, h9 | h9⟩
      · omega
      · omega
      · omega
      · have := Fo.len_le f; omega
      · omega
      · omega
    · by_cases h2 : h.k = 2
      · cases b
        · exact ln_atom0 h f h2 ho hok
        · exact ln_atom1 h f h2 ho hok
      · cases b
        · exact ln_keep h f HF h3 h2 ho hok
        · rcases own_kind ho with ⟨_, h9 | h9 | h9⟩ | ⟨_, h9 | h9 | h9⟩ | ⟨_, h9 | h9⟩
          · exact ln_op0 h f HF h9 ho hok
          · exact ln_op1 h f HF h9 ho hok
          · exact absurd h9 h2
          · exact absurd h9 h3
          · exact ln_op6 h f HF h9 ho hok
          · exact ln_op7 h f HF h9 ho hok
          · exact ln_op4 h f HF h9 ho hok
          · exact ln_op5 h f HF h9 ho hok
  | succ N ih =>
    intro h f hf b ho hok
    have HF : ∀ h' s', s'.size < f.size → ∀ b, LnF b h' s' := fun h' s' h9 => ih h' s' (by omega)
    by_cases h3 : h.k = 3
    · match f, hf, ho, hok with
      | .cons h1 s1 .nil, hf, ho, hok =>
        have hok' := hok
        simp only [Fo.size, Fo.okB, Bool.and_true, Bool.and_eq_true] at hf hok
        exact ln_not b h h1 s1 h3 (ih h1 s1 (by omega) (!b)) hok.1 hok.2 ho hok'
      | .nil, _, ho, _ => rcases own_kind ho with ⟨_, h | h | h⟩ | ⟨hl, _⟩ | ⟨hl, _⟩ <;> first | omega | simp [Fo.len] at hl
      | .cons _ _ (.cons _ _ r), _, ho, _ => rcases own_kind ho with ⟨hl, _⟩ | ⟨hl, _⟩ | ⟨hl, h | h⟩ <;> first | omega | simp [Fo.len] at hl
    · by_cases h2 : h.k = 2
      · cases b
        · exact ln_atom0 h f h2 ho hok
        · exact ln_atom1 h f h2 ho hok
      · cases b
        · exact ln_keep h f HF h3 h2 ho hok
        · rcases own_kind ho with ⟨_, h9 | h9 | h9⟩ | ⟨_, h9 | h9 | h9⟩ | ⟨_, h9 | h9⟩
          · exact ln_op0 h f HF h9 ho hok
          · exact ln_op1 h f HF h9 ho hok
          · exact absurd h9 h2
          · exact absurd h9 h3
          · exact ln_op6 h f HF h9 ho hok
          · exact ln_op7 h f HF h9 ho hok
          · exact ln_op4 h f HF h9 ho hok
          · exact ln_op5 h f HF h9 ho hok

end Go.Proofs.Ytfiddndgidfgoaa

/- Contracts of the model's l3Valid, in one form, and of its NegNormal. -/
namespace Go.Proofs.Ytfiddndgidfgoaa
open Go.RowKit

set_option maxRecDepth 10000 in
set_option maxHeartbeats 2000000 in
theorem rawNegNormal_any (h : FH) (f : Fo) (w : World) (lo : Nat) (s : Value) (hz : f.size ≤ 1048576) (hs : FS w lo f s) : Calls Try.prog 62 #[.agg #[.int .i64 h.k, .int .i64 h.ak, .int .i64 h.am, .int .i64 h.a, .int .i64 h.b, .int .i64 h.c, .int .i64 h.d, .int .i64 h.n, .int .i64 h.v, s]] w (RqT (okQ (nnB h f) (ngF false h f).1 (ngF false h f).2) (nnB h f) w.heap.size w) := by
  have HO := Lib.hid (fun W hW => olF_any h f W lo s hz (FS.below (w := w) hW (Nat.le_refl _) hs))
  have HV := Lib.hid (fun W l t hs => specFormulaValid_any h f W l t hs)
  obtain ⟨sa0, sn0, sc0, rfl⟩ := hs.slice
  have hnn : nnB h f = (vfB h f && vfB (ngF false h f).1 (ngF false h f).2) := rfl
  clear hs hz
  cases hv : vfB h f with
  | false =>
    rw [hv] at hnn HV
    simp only [Bool.false_and] at hnn
    rw [hnn]
    clear hv hnn
    go_enter Try.func62, Try.ntmps62
    go_wp2_with fail
    generalize hW : World.alloc _ _ = W
    have hw : Below w.heap.size w W := by subst hW; go_grown
    have hy : C10 W w.heap.size h (.slice sa0 sn0 sc0) := by subst hW; exact (by refine ⟨?_, ?_, ?_, ?_, ?_, ?_, ?_, ?_, ?_, ?_, ?_⟩ <;> first | (simp [go_sem]; done) | (simp; omega))
    have fy : ∀ o, W.frozen? ⟨w.heap.size, o, none⟩ = false := fun o => by subst hW; simp [go_sem]
    have hx : C10 W (w.heap.size + 1) ⟨0, 0, 0, 0, 0, 0, 0, 0, 0⟩ (.slice none 0 0) := by subst hW; exact (by refine ⟨?_, ?_, ?_, ?_, ?_, ?_, ?_, ?_, ?_, ?_, ?_⟩ <;> first | (simp [go_sem]; done) | (simp; omega))
    have hf : ∀ o, W.frozen? ⟨w.heap.size + 1, o, none⟩ = false := fun o => by subst hW; simp [go_sem]
    have hws : w.heap.size + 1 < W.heap.size := hx.1
    clear hW
    refine (HO.out W hw).mono ?_
    rintro e w1 ⟨s1, rfl, hs1, hb1⟩
    obtain ⟨ra, rn, rc, rfl⟩ := hs1.slice
    have HS1 := Lib.hid (SF.fs (Nat.le_refl _) hs1)
    have hy1 := c10_on hy hb1
    have hx1 := c10_on hx hb1
    have fy1 : ∀ o, w1.frozen? ⟨w.heap.size, o, none⟩ = false := fun o => ((bcell hb1).2 _ o hy.1).trans (fy o)
    have fx1 : ∀ o, w1.frozen? ⟨w.heap.size + 1, o, none⟩ = false := fun o => ((bcell hb1).2 _ o hx.1).trans (hf o)
    have hw1 := below_on hw hb1
    have hsw1 : W.heap.size ≤ w1.heap.size := hb1.size
    obtain ⟨x0, c0, c1, c2, c3, c4, c5, c6, c7, c8, c9⟩ := id hy1
    clear hs1 hb1 hx hy fy hf hw
    go_upto_region 2 with fail
    generalize hW2 : World.setCell _ _ _ = W2
    obtain ⟨hy2, hblk2, hsz2, hfz2⟩ := ten_set (g := h) hy1 hW2
    have hx2 := c10_block (Nat.le_of_eq hsz2.symm) (hblk2 (w.heap.size + 1) (by omega)) hx1
    have fx2 : ∀ o, W2.frozen? ⟨w.heap.size + 1, o, none⟩ = false := fun o => (hfz2 _ o).trans (fx1 o)
    have hw2 := hw1.trans ((put10b (g := h) hy1 hW2).2 w.heap.size (Nat.le_refl _))
    have HS2 := Lib.hid (FS.kept (w' := W2) (Nat.le_of_eq hsz2.symm) (fun k hk _ => hblk2 k (by omega)) HS1.out)
    obtain ⟨y0, d0, d1, d2, d3, d4, d5, d6, d7, d8, d9⟩ := hy2
    have hsw2 : W.heap.size ≤ W2.heap.size := by omega
    clear hW2 x0 c0 c1 c2 c3 c4 c5 c6 c7 c8 c9 hblk2 hx1 fx1 fy1 hw1 hy1 hsz2 hfz2 HS1
    go_wp2_with fail
    refine (HV.out W2 _ _ HS2.out).mono ?_
    rintro e w4 ⟨rfl, hb4⟩
    have hz4 := c10_on hx2 hb4
    have fz4 : ∀ o, w4.frozen? ⟨w.heap.size + 1, o, none⟩ = false := fun o => ((bcell hb4).2 _ o hx2.1).trans (fx2 o)
    have hw4 := below_on hw2 hb4
    clear hx2 fx2 hw2 hb4 y0 d0 d1 d2 d3 d4 d5 d6 d7 d8 d9
    obtain ⟨z0, e0, e1, e2, e3, e4, e5, e6, e7, e8, e9⟩ := id hz4
    go_upto_region 30 with fail
    generalize hW7 : World.setCell _ _ _ = W7
    obtain ⟨hz7, _, _, _⟩ := ten_set (g := ⟨0, 0, 0, 0, 0, 0, 0, 0, 0⟩) hz4 hW7
    have hw7 : Below w.heap.size w W7 := hw4.trans ((put10b (g := ⟨0, 0, 0, 0, 0, 0, 0, 0, 0⟩) hz4 hW7).2 w.heap.size (by omega))
    obtain ⟨y0, y1, y2, y3, y4, y5, y6, y7, y8, y9, y10⟩ := hz7
    clear hW7 z0 e0 e1 e2 e3 e4 e5 e6 e7 e8 e9
    go_wp2
    refine bodyPost_ret (v := .tuple #[.agg #[.int .i64 0, .int .i64 0, .int .i64 0, .int .i64 0, .int .i64 0, .int .i64 0, .int .i64 0, .int .i64 0, .int .i64 0, .slice none 0 0], .bool false]) (by simp [results, Try.results62, go_sem, y1, y2, y3, y4, y5, y6, y7, y8, y9, y10]) rfl ⟨_, rfl, fs_none _ _, hw7⟩
  | true =>
    rw [hv] at hnn HV
    simp only [Bool.true_and] at hnn
    have hvp := vf_parts hv
    have HN := Lib.hid (fun W l t hs => ln_any f.size h f (Nat.le_refl _) false hvp.1 hvp.2.1 W l t hs)
    obtain ⟨q, hq⟩ : ∃ q, (ngF false h f) = q := ⟨_, rfl⟩
    obtain ⟨ok, hok⟩ : ∃ ok, nnB h f = ok := ⟨_, rfl⟩
    have HL := Lib.hid (fun W l t hs => l3Valid_u (ngF false h f).1 (ngF false h f).2 W l t true ok hs (by rw [Bool.true_and, ← hnn, hok]))
    rw [hok]
    rw [hq] at HN HL ⊢
    obtain ⟨p, hp⟩ : ∃ p, okQ ok q.1 q.2 = p := ⟨_, rfl⟩
    rw [hp] at HL ⊢
    clear hv hnn hvp hq hok hp
    go_enter Try.func62, Try.ntmps62
    go_wp2_with fail
    generalize hW : World.alloc _ _ = W
    have hw : Below w.heap.size w W := by subst hW; go_grown
    have hy : C10 W w.heap.size h (.slice sa0 sn0 sc0) := by subst hW; exact (by refine ⟨?_, ?_, ?_, ?_, ?_, ?_, ?_, ?_, ?_, ?_, ?_⟩ <;> first | (simp [go_sem]; done) | (simp; omega))
    have fy : ∀ o, W.frozen? ⟨w.heap.size, o, none⟩ = false := fun o => by subst hW; simp [go_sem]
    have hx : C10 W (w.heap.size + 1) ⟨0, 0, 0, 0, 0, 0, 0, 0, 0⟩ (.slice none 0 0) := by subst hW; exact (by refine ⟨?_, ?_, ?_, ?_, ?_, ?_, ?_, ?_, ?_, ?_, ?_⟩ <;> first | (simp [go_sem]; done) | (simp; omega))
    have hf : ∀ o, W.frozen? ⟨w.heap.size + 1, o, none⟩ = false := fun o => by subst hW; simp [go_sem]
    have hws : w.heap.size + 1 < W.heap.size := hx.1
    clear hW
    refine (HO.out W hw).mono ?_
    rintro e w1 ⟨s1, rfl, hs1, hb1⟩
    obtain ⟨ra, rn, rc, rfl⟩ := hs1.slice
    have HS1 := Lib.hid (SF.fs (Nat.le_refl _) hs1)
    have hy1 := c10_on hy hb1
    have hx1 := c10_on hx hb1
    have fy1 : ∀ o, w1.frozen? ⟨w.heap.size, o, none⟩ = false := fun o => ((bcell hb1).2 _ o hy.1).trans (fy o)
    have fx1 : ∀ o, w1.frozen? ⟨w.heap.size + 1, o, none⟩ = false := fun o => ((bcell hb1).2 _ o hx.1).trans (hf o)
    have hw1 := below_on hw hb1
    have hsw1 : W.heap.size ≤ w1.heap.size := hb1.size
    obtain ⟨x0, c0, c1, c2, c3, c4, c5, c6, c7, c8, c9⟩ := id hy1
    clear hs1 hb1 hx hy fy hf hw
    go_upto_region 2 with fail
    generalize hW2 : World.setCell _ _ _ = W2
    obtain ⟨hy2, hblk2, hsz2, hfz2⟩ := ten_set (g := h) hy1 hW2
    have hx2 := c10_block (Nat.le_of_eq hsz2.symm) (hblk2 (w.heap.size + 1) (by omega)) hx1
    have fx2 : ∀ o, W2.frozen? ⟨w.heap.size + 1, o, none⟩ = false := fun o => (hfz2 _ o).trans (fx1 o)
    have hw2 := hw1.trans ((put10b (g := h) hy1 hW2).2 w.heap.size (Nat.le_refl _))
    have HS2 := Lib.hid (FS.kept (w' := W2) (Nat.le_of_eq hsz2.symm) (fun k hk _ => hblk2 k (by omega)) HS1.out)
    obtain ⟨y0, d0, d1, d2, d3, d4, d5, d6, d7, d8, d9⟩ := hy2
    have hsw2 : W.heap.size ≤ W2.heap.size := by omega
    clear hW2 x0 c0 c1 c2 c3 c4 c5 c6 c7 c8 c9 hblk2 hx1 fx1 fy1 hw1 hy1 hsz2 hfz2 HS1
    go_wp2_with fail
    refine (HV.out W2 _ _ HS2.out).mono ?_
    rintro e w3 ⟨rfl, hb3⟩
    obtain ⟨_, d0, d1, d2, d3, d4, d5, d6, d7, d8, d9⟩ := c10_on (h := h) (s := .slice ra rn rc) ⟨y0, d0, d1, d2, d3, d4, d5, d6, d7, d8, d9⟩ hb3
    have HS3 := Lib.hid (FS.below hb3 (Nat.le_refl _) HS2.out)
    have hx3 := c10_on hx2 hb3
    have fx3 : ∀ o, w3.frozen? ⟨w.heap.size + 1, o, none⟩ = false := fun o => ((bcell hb3).2 _ o hx2.1).trans (fx2 o)
    have hw3 := below_on hw2 hb3
    have hsw3 : W.heap.size ≤ w3.heap.size := Nat.le_trans hsw2 hb3.size
    clear hx2 fx2 hw2 hb3
    go_wp2_with fail
    refine (HN.out w3 _ _ HS3.out).mono ?_
    rintro e w5 ⟨s5, rfl, hs5, hb5⟩
    obtain ⟨ta, tn, tc, rfl⟩ := hs5.slice
    have HS5 := Lib.hid hs5
    go_wp2_with fail
    refine (HL.out w5 _ _ HS5.out).mono ?_
    rintro e w4 ⟨s4, rfl, hs4, hb4⟩
    obtain ⟨ua, un, uc, rfl⟩ := hs4.slice
    have HS4 := Lib.hid hs4
    have hb34 := below_on hb5 hb4
    have hz4 := c10_on hx3 hb34
    have fz4 : ∀ o, w4.frozen? ⟨w.heap.size + 1, o, none⟩ = false := fun o => ((bcell hb34).2 _ o hx3.1).trans (fx3 o)
    have hw4 := below_on hw3 hb34
    clear hs5 hb5 hs4 hb4 hb34 hx3 fx3 hw3 d0 d1 d2 d3 d4 d5 d6 d7 d8 d9
    obtain ⟨z0, e0, e1, e2, e3, e4, e5, e6, e7, e8, e9⟩ := id hz4
    go_upto_region 30 with fail
    generalize hW7 : World.setCell _ _ _ = W7
    obtain ⟨hz7, hk7, hs7, _⟩ := ten_set (g := p.1) hz4 hW7
    have hw7 : Below w.heap.size w W7 := hw4.trans ((put10b (g := p.1) hz4 hW7).2 w.heap.size (by omega))
    obtain ⟨y0, y1, y2, y3, y4, y5, y6, y7, y8, y9, y10⟩ := hz7
    have HS7 := Lib.hid (FS.mono (lo' := w.heap.size) (by omega) (FS.kept (w' := W7) (Nat.le_of_eq hs7.symm) (fun k hk _ => hk7 k (by omega)) HS4.out))
    clear hW7 hk7 hs7 z0 e0 e1 e2 e3 e4 e5 e6 e7 e8 e9
    go_wp2
    refine bodyPost_ret (v := .tuple #[.agg #[.int .i64 p.1.k, .int .i64 p.1.ak, .int .i64 p.1.am, .int .i64 p.1.a, .int .i64 p.1.b, .int .i64 p.1.c, .int .i64 p.1.d, .int .i64 p.1.n, .int .i64 p.1.v, .slice ua un uc], .bool ok]) (by simp [results, Try.results62, go_sem, y1, y2, y3, y4, y5, y6, y7, y8, y9, y10]) rfl ⟨_, rfl, HS7.out, hw7⟩

set_option maxRecDepth 10000 in
set_option maxHeartbeats 2000000 in
theorem specNegNormal_any (h : FH) (f : Fo) (w : World) (lo : Nat) (s : Value) (hz : f.size ≤ 1048576) (hs : FS w lo f s) : Calls Try.prog 28 #[.agg #[.int .i64 h.k, .int .i64 h.ak, .int .i64 h.am, .int .i64 h.a, .int .i64 h.b, .int .i64 h.c, .int .i64 h.d, .int .i64 h.n, .int .i64 h.v, s]] w (FrT (okQ (nnB h f) (ngF false h f).1 (ngF false h f).2) (nnB h f) w) := by
  have HR := Lib.hid (fun W hW => rawNegNormal_any h f W lo s hz (FS.below (w := w) hW (Nat.le_refl _) hs))
  have hqz := okQ_size (nnB h f) (ngF false h f).1 (ngF false h f).2 (fun e => by simp only [Bool.and_eq_true, nnB] at e; exact e.2)
  obtain ⟨q, hq⟩ : ∃ q, okQ (nnB h f) (ngF false h f).1 (ngF false h f).2 = q := ⟨_, rfl⟩
  obtain ⟨ok, hok⟩ : ∃ ok, nnB h f = ok := ⟨_, rfl⟩
  rw [hq] at HR hqz ⊢
  rw [hok] at HR ⊢
  have HO := Lib.hid (fun W l t hs => olF_any q.1 q.2 W l t (by omega) hs)
  obtain ⟨sa0, sn0, sc0, rfl⟩ := hs.slice
  clear hs hq hok hqz
  go_enter Try.func28, Try.ntmps28
  go_wp2_with fail
  generalize hW : World.alloc _ _ = W
  have hw : Below w.heap.size w W := by subst hW; go_grown
  have hx : C10 W (w.heap.size + 1) ⟨0, 0, 0, 0, 0, 0, 0, 0, 0⟩ (.slice none 0 0) := by subst hW; exact (by refine ⟨?_, ?_, ?_, ?_, ?_, ?_, ?_, ?_, ?_, ?_, ?_⟩ <;> first | (simp [go_sem]; done) | (simp; omega))
  have hf : ∀ o, W.frozen? ⟨w.heap.size + 1, o, none⟩ = false := fun o => by subst hW; simp [go_sem]
  clear hW
  refine (HR.out W hw).mono ?_
  rintro e w1 ⟨s1, rfl, hs1, hb1⟩
  obtain ⟨ra, rn, rc, rfl⟩ := hs1.slice
  have HS1 := Lib.hid hs1
  clear hs1
  go_wp2_with fail
  generalize hW2 : World.alloc _ _ = W2
  have hb12 : Below w1.heap.size w1 W2 := by subst hW2; go_grown
  have HO2 := Lib.hid (HO.out W2 _ _ (FS.below hb12 (Nat.le_refl _) HS1.out))
  have hbW2 := below_on hb1 hb12
  clear hW2 hb1 hb12
  refine HO2.out.mono ?_
  rintro e w3 ⟨s3, rfl, hs3, hb23⟩
  obtain ⟨sa, sn, sc, rfl⟩ := hs3.slice
  have HS3 := Lib.hid hs3
  have hsW2 := hbW2.size
  have hb3 := below_on hbW2 hb23
  clear hbW2 hb23 hs3 HO2
  have hx3 := c10_on hx hb3
  have hf3 : ∀ o, w3.frozen? ⟨w.heap.size + 1, o, none⟩ = false := fun o => ((bcell hb3).2 _ o hx.1).trans (hf o)
  have hw3 := below_on hw hb3
  have hws : w.heap.size + 1 < W.heap.size := hx.1
  obtain ⟨x0, c0, c1, c2, c3, c4, c5, c6, c7, c8, c9⟩ := id hx3
  clear hb3 hx hf hw
  go_upto_region 20 with fail
  generalize hW7 : World.setCell _ _ _ = W7
  have hblk7 : ∀ x, x ≠ w.heap.size + 1 → W7.heap[x]? = w3.heap[x]? := fun x hx => by subst hW7; repeat rw [Below.heap_setCell _ _ _ _ (by dsimp only; omega)]
  have hsz7 : W7.heap.size = w3.heap.size := by subst hW7; simp [World.setCell]
  obtain ⟨hx7, hb7⟩ := put10b (g := q.1) hx3 hW7
  have hww7 := hw3.trans (hb7 w.heap.size (by omega))
  have HS7 : Hid (SF W7 w.heap.size W7.heap.size q.2 (.slice sa sn sc)) := by
    have h0 := SF.same (w' := W7) (fun x h1 _ => hblk7 x (by have h2 : W2.heap.size ≤ x := h1; omega)) HS3.out
    exact SF.mono (by omega) (by omega) h0
  obtain ⟨z0, k1, k2, k3, k4, k5, k6, k7, k8, k9, k10⟩ := hx7
  clear hW7 x0 c0 c1 c2 c3 c4 c5 c6 c7 c8 c9 hblk7 hsz7
  go_wp2
  refine bodyPost_ret (v := .tuple #[.agg #[.int .i64 q.1.k, .int .i64 q.1.ak, .int .i64 q.1.am, .int .i64 q.1.a, .int .i64 q.1.b, .int .i64 q.1.c, .int .i64 q.1.d, .int .i64 q.1.n, .int .i64 q.1.v, .slice sa sn sc], .bool ok]) (by simp [results, Try.results28, go_sem, k1, k2, k3, k4, k5, k6, k7, k8, k9, k10]) rfl ⟨_, rfl, HS7.out, hww7⟩

end Go.Proofs.Ytfiddndgidfgoaa
