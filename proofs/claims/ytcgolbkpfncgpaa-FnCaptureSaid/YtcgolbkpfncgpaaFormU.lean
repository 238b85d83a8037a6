/- Free variables: the contracts of the model's l3Free and FreeVars. -/
import Derived.Test.YtcgolbkpfncgpaaFormM
import Derived.Test.YtcgolbkpfncgpaaLawL
namespace Go.Proofs.Ytcgolbkpfncgpaa
open Go.RowKit

/-- Whether a variable is free in a formula, if it is told whether it is free in a part. -/
def fr1 (h : FH) (v : Int) (sub : Bool) : Bool := if qB h.k = true ∧ h.v = v then false else if h.k = 2 then decide (sel h.a h.b h.c h.d v 0 ≠ 0) else sub
/-- Whether a variable is free in one of the formulas of a list. -/
def Fo.fr (v : Int) : Fo → Bool
  | .nil => false
  | .cons h s r => fr1 h v (s.fr v) || r.fr v

/-- The numbers below k that a test takes. -/
def fl (p : Int → Bool) (k : Nat) : List Int := ((List.range k).filter fun v : Nat => p (Int.ofNat v)).map fun v : Nat => Int.ofNat v
theorem fl_keep {p : Int → Bool} {k : Nat} (h : p (k : Int) = true) : fl p (k + 1) = fl p k ++ [(k : Int)] := by
  simp [fl, List.range_succ, List.filter_append, h]
theorem fl_drop {p : Int → Bool} {k : Nat} (h : p (k : Int) = false) : fl p (k + 1) = fl p k := by
  simp [fl, List.range_succ, List.filter_append, h]
theorem fl_len (p : Int → Bool) (k : Nat) : (fl p k).length ≤ k := by
  have := List.length_filter_le (fun v : Nat => p (Int.ofNat v)) (List.range k)
  simpa [fl] using this
/-- The free variables of a formula. -/
def fvL (h : FH) (f : Fo) : List Int := if vfB h f = true then fl (fun v => fr1 h v (f.fr v)) 4 else []
theorem fvL_len (h : FH) (f : Fo) : (fvL h f).length ≤ 4 := by
  unfold fvL
  split
  · exact fl_len _ 4
  · simp

def FvT (L : List Int) (w : World) (e : Ending) (w' : World) : Prop := ∃ v, e = .returned v ∧ OwnI w' w.heap.size v L ∧ Below w.heap.size w w'

def L3F (h : FH) (f : Fo) : Prop := ∀ (w : World) (lo : Nat) (s : Value) (v : Int), FS w lo f s →
  Calls Try.prog 137 #[.agg #[.int .i64 h.k, .int .i64 h.ak, .int .i64 h.am, .int .i64 h.a, .int .i64 h.b, .int .i64 h.c, .int .i64 h.d, .int .i64 h.n, .int .i64 h.v, s], .int .i64 v] w (BoolT (fr1 h v (f.fr v)) w)

def FrR (h : FH) (f : Fo) (v : Int) (b o lo : Nat) (w : World) (s i : Value) (wr : World) : Prop :=
  ∃ (k : Nat) (r : Fo), i = .int .i64 k ∧ k + r.len = f.len ∧ r.size ≤ f.size ∧ f.fr v = r.fr v ∧ FEl w lo r b (o + k * 10) ∧ Below w.heap.size w wr ∧ C10 wr w.heap.size h s

theorem bT {b c : Bool} (h : b = c) : Ending.returned (.bool c) = .returned (.bool b) := by rw [h]

set_option maxHeartbeats 2000000 in
theorem l3f_q {h : FH} {f : Fo} {v : Int} (hq : qB h.k = true) (hv : h.v = v) (w : World) (lo : Nat) (s : Value) (hs : FS w lo f s) :
    Calls Try.prog 137 #[.agg #[.int .i64 h.k, .int .i64 h.ak, .int .i64 h.am, .int .i64 h.a, .int .i64 h.b, .int .i64 h.c, .int .i64 h.d, .int .i64 h.n, .int .i64 h.v, s], .int .i64 v] w (BoolT (fr1 h v (f.fr v)) w) := by
  obtain ⟨sa, sn, sc, rfl⟩ := hs.slice
  have HR := Lib.hid (show fr1 h v (f.fr v) = false by unfold fr1; rw [if_pos ⟨hq, hv⟩])
  have HQ := Lib.hid hq
  clear hs hq
  subst hv
  go_enter Try.func137, Try.ntmps137
  go_wp2_with (go_at_call 139; refine (l3Quant_is _ _ _ HQ.out).mono ?_; rintro e w' ⟨rfl, rfl⟩)
  go_ret
  exact ⟨bT HR.out, by go_grown⟩

/-- What stands behind the test of the quantifier's variable. -/
theorem l3f_other {h : FH} {f : Fo} {v : Int} (hn : ¬ (qB h.k = true ∧ h.v = v)) : fr1 h v (f.fr v) = if h.k = 2 then decide (sel h.a h.b h.c h.d v 0 ≠ 0) else f.fr v := by
  unfold fr1; rw [if_neg hn]

set_option maxHeartbeats 2000000 in
theorem l3f_a {h : FH} {f : Fo} {v : Int} (hk : h.k = 2) (w : World) (lo : Nat) (s : Value) (hs : FS w lo f s) :
    Calls Try.prog 137 #[.agg #[.int .i64 h.k, .int .i64 h.ak, .int .i64 h.am, .int .i64 h.a, .int .i64 h.b, .int .i64 h.c, .int .i64 h.d, .int .i64 h.n, .int .i64 h.v, s], .int .i64 v] w (BoolT (fr1 h v (f.fr v)) w) := by
  obtain ⟨sa, sn, sc, rfl⟩ := hs.slice
  have hq : qB h.k = false := by rw [hk]; rfl
  have HQ := Lib.hid hq
  obtain ⟨q, hsel⟩ : ∃ q, sel h.a h.b h.c h.d v 0 = q := ⟨_, rfl⟩
  have HR := Lib.hid (show fr1 h v (f.fr v) = decide (q ≠ 0) by rw [l3f_other (by rw [hq]; simp), if_pos hk, hsel])
  have HC := Lib.hid fun W => specCoefOf_any h.a h.b h.c h.d h.n v W
  rw [hsel] at HC
  have hk2 : (h.k == 2) = true := by simpa using hk
  clear hs hq hk hsel
  go_enter Try.func137, Try.ntmps137
  go_wp2_with (first | (go_at_call 139; refine (l3Quant_is _ _ _ HQ.out).mono ?_; rintro e w' ⟨rfl, rfl⟩) | (go_at_call 64; refine (HC.out _).mono ?_; rintro e w1 ⟨rfl, hb1⟩))
  go_ret
  refine ⟨bT ?_, below_on (by go_grown) hb1⟩
  rw [HR.out]
  by_cases h0 : q = 0
  · subst h0; rfl
  · have : (q == 0) = false := by simpa using h0
    simp [h0]

set_option maxHeartbeats 2000000 in
theorem l3f_loop0 {h : FH} {f : Fo} {v : Int} (HF : ∀ h s, s.size < f.size → L3F h s) (hk : ¬ h.k = 2) (hq : qB h.k = false) (w : World) (lo : Nat) (s : Value) (hs : FS w lo f s) :
    Calls Try.prog 137 #[.agg #[.int .i64 h.k, .int .i64 h.ak, .int .i64 h.am, .int .i64 h.a, .int .i64 h.b, .int .i64 h.c, .int .i64 h.d, .int .i64 h.n, .int .i64 h.v, s], .int .i64 v] w (BoolT (fr1 h v (f.fr v)) w) := by
  have H := Lib.hid HF
  have HR := Lib.hid (show fr1 h v (f.fr v) = f.fr v by rw [l3f_other (by rw [hq]; simp), if_neg hk])
  have hk2 : (h.k == 2) = false := by simpa using hk
  have HQ := Lib.hid hq
  clear HF hq hk
  rcases hs with ⟨h0, x, cap, rfl, _, _⟩ | ⟨h0, b, o, cap, rfl, hc1, hc2, hlo, hb, hel⟩
  · obtain rfl : f = .nil := Fo.len_zero h0
    clear h0
    go_enter Try.func137, Try.ntmps137
    go_wp2_with (go_at_call 139; refine (l3Quant_is _ _ _ HQ.out).mono ?_; rintro e w' ⟨rfl, rfl⟩)
    refine wp_loop_rounds 1 ?_
    rw [rounds_succ]
    go_wp2
    go_ret
    exact ⟨bT HR.out, by go_grown⟩
  · have HEL := Lib.hid hel
    unfold maxLen at hc2
    clear hel
    go_enter Try.func137, Try.ntmps137
    go_upto_region 2 with (go_at_call 139; refine (l3Quant_is _ _ _ HQ.out).mono ?_; rintro e w' ⟨rfl, rfl⟩)
    generalize hW : World.alloc _ _ = W
    have hx : C10 W w.heap.size h (.slice (some ⟨b, o, none⟩) f.len cap) := by subst hW; exact (by refine ⟨?_, ?_, ?_, ?_, ?_, ?_, ?_, ?_, ?_, ?_, ?_⟩ <;> first | (simp [go_sem]; done) | (simp; omega))
    have hw : Below w.heap.size w W := by subst hW; go_grown
    clear hW
    obtain ⟨x0, c0, c1, c2, c3, c4, c5, c6, c7, c8, c9⟩ := id hx
    go_wp2_with fail
    have HST := Lib.hid (show FrR h f v b o lo w (.slice (some ⟨b, o, none⟩) f.len cap) (.int .i64 0) W from ⟨0, f, rfl, by omega, Nat.le_refl _, rfl, by simpa using HEL.out, hw, hx⟩)
    clear hx hw c0 c1 c2 c3 c4 c5 c6 c7 c8 c9 x0
    go_loopw [5] (fun i wr => FrR h f v b o lo w (.slice (some ⟨b, o, none⟩) f.len cap) i wr) (fun i _ => f.len - (intOf i).toNat)
    case atStart => exact HST.out
    case round =>
      obtain ⟨k, r, rfl, hk, hdr, hfin, hr, hbw, hx2⟩ := hrel
      have HFIN := Lib.hid hfin
      clear hfin HST
      obtain ⟨x0, c0, c1, c2, c3, c4, c5, c6, c7, c8, c9⟩ := id hx2
      cases r with
      | nil =>
        simp only [Fo.len] at hk
        have hkl : ¬ k < f.len := by omega
        go_wp2
        go_ret
        exact ⟨bT (by rw [HR.out, HFIN.out]; rfl), hbw⟩
      | cons h' s' r' =>
        simp only [Fo.len] at hk
        simp only [Fo.size] at hdr
        have hkl : k < f.len := by omega
        have HR' := Lib.hid hr.2
        obtain ⟨⟨sl, hrow, hsl⟩, _⟩ := FEl.below hbw (Nat.le_refl _) hlo hb hr
        clear hr
        have HC := Lib.hid (H.out h' s' (by omega) wr lo sl v hsl)
        have HB := Lib.hid hbw
        have HX := Lib.hid hx2
        obtain ⟨d0, d1, d2, d3, d4, d5, d6, d7, d8, d9⟩ := hrow
        obtain ⟨q, hq⟩ : ∃ q, fr1 h' v (s'.fr v) = q := ⟨_, rfl⟩
        rw [hq] at HC
        have HQ2 := Lib.hid (show f.fr v = (q || r'.fr v) by rw [HFIN.out, ← hq]; rfl)
        clear hsl hbw hx2 hq
        go_wp2_with fail
        refine HC.out.mono ?_
        rintro e w2 ⟨rfl, hb2⟩
        have HB2 := Lib.hid (below_on HB.out hb2)
        have HX2 := Lib.hid (c10_on HX.out hb2)
        clear c0 c1 c2 c3 c4 c5 c6 c7 c8 c9 d0 d1 d2 d3 d4 d5 d6 d7 d8 d9 hb2
        cases q with
        | true =>
          go_wp2
          go_ret
          exact ⟨bT (by rw [HR.out, HQ2.out]; rfl), HB2.out⟩
        | false =>
          go_wp2
          go_roundw
          case rel => exact ⟨k + 1, r', by go_num, by omega, by omega, by rw [HQ2.out]; rfl, by rw [show o + (k + 1) * 10 = o + k * 10 + 10 by omega]; exact HR'.out, HB2.out, HX2.out⟩
          case measure => simp [intOf]; omega

set_option maxHeartbeats 2000000 in
theorem l3f_loop1 {h : FH} {f : Fo} {v : Int} (HF : ∀ h s, s.size < f.size → L3F h s) (hk : ¬ h.k = 2) (hq : qB h.k = true) (hv : ¬ h.v = v) (w : World) (lo : Nat) (s : Value) (hs : FS w lo f s) :
    Calls Try.prog 137 #[.agg #[.int .i64 h.k, .int .i64 h.ak, .int .i64 h.am, .int .i64 h.a, .int .i64 h.b, .int .i64 h.c, .int .i64 h.d, .int .i64 h.n, .int .i64 h.v, s], .int .i64 v] w (BoolT (fr1 h v (f.fr v)) w) := by
  have H := Lib.hid HF
  have HR := Lib.hid (show fr1 h v (f.fr v) = f.fr v by rw [l3f_other (by exact fun c => hv c.2), if_neg hk])
  have hk2 : (h.k == 2) = false := by simpa using hk
  have HQ := Lib.hid hq
  clear HF hq hk
  have hv0 : (h.v == v) = false := by simpa using hv
  rcases hs with ⟨h0, x, cap, rfl, _, _⟩ | ⟨h0, b, o, cap, rfl, hc1, hc2, hlo, hb, hel⟩
  · obtain rfl : f = .nil := Fo.len_zero h0
    clear h0
    go_enter Try.func137, Try.ntmps137
    go_wp2_with (go_at_call 139; refine (l3Quant_is _ _ _ HQ.out).mono ?_; rintro e w' ⟨rfl, rfl⟩)
    refine wp_loop_rounds 1 ?_
    rw [rounds_succ]
    go_wp2
    go_ret
    exact ⟨bT HR.out, by go_grown⟩
  · have HEL := Lib.hid hel
    unfold maxLen at hc2
    clear hel
    go_enter Try.func137, Try.ntmps137
    go_upto_region 2 with (go_at_call 139; refine (l3Quant_is _ _ _ HQ.out).mono ?_; rintro e w' ⟨rfl, rfl⟩)
    generalize hW : World.alloc _ _ = W
    have hx : C10 W w.heap.size h (.slice (some ⟨b, o, none⟩) f.len cap) := by subst hW; exact (by refine ⟨?_, ?_, ?_, ?_, ?_, ?_, ?_, ?_, ?_, ?_, ?_⟩ <;> first | (simp [go_sem]; done) | (simp; omega))
    have hw : Below w.heap.size w W := by subst hW; go_grown
    clear hW
    obtain ⟨x0, c0, c1, c2, c3, c4, c5, c6, c7, c8, c9⟩ := id hx
    go_wp2_with fail
    have HST := Lib.hid (show FrR h f v b o lo w (.slice (some ⟨b, o, none⟩) f.len cap) (.int .i64 0) W from ⟨0, f, rfl, by omega, Nat.le_refl _, rfl, by simpa using HEL.out, hw, hx⟩)
    clear hx hw c0 c1 c2 c3 c4 c5 c6 c7 c8 c9 x0
    go_loopw [5] (fun i wr => FrR h f v b o lo w (.slice (some ⟨b, o, none⟩) f.len cap) i wr) (fun i _ => f.len - (intOf i).toNat)
    case atStart => exact HST.out
    case round =>
      obtain ⟨k, r, rfl, hk, hdr, hfin, hr, hbw, hx2⟩ := hrel
      have HFIN := Lib.hid hfin
      clear hfin HST
      obtain ⟨x0, c0, c1, c2, c3, c4, c5, c6, c7, c8, c9⟩ := id hx2
      cases r with
      | nil =>
        simp only [Fo.len] at hk
        have hkl : ¬ k < f.len := by omega
        go_wp2
        go_ret
        exact ⟨bT (by rw [HR.out, HFIN.out]; rfl), hbw⟩
      | cons h' s' r' =>
        simp only [Fo.len] at hk
        simp only [Fo.size] at hdr
        have hkl : k < f.len := by omega
        have HR' := Lib.hid hr.2
        obtain ⟨⟨sl, hrow, hsl⟩, _⟩ := FEl.below hbw (Nat.le_refl _) hlo hb hr
        clear hr
        have HC := Lib.hid (H.out h' s' (by omega) wr lo sl v hsl)
        have HB := Lib.hid hbw
        have HX := Lib.hid hx2
        obtain ⟨d0, d1, d2, d3, d4, d5, d6, d7, d8, d9⟩ := hrow
        obtain ⟨q, hq⟩ : ∃ q, fr1 h' v (s'.fr v) = q := ⟨_, rfl⟩
        rw [hq] at HC
        have HQ2 := Lib.hid (show f.fr v = (q || r'.fr v) by rw [HFIN.out, ← hq]; rfl)
        clear hsl hbw hx2 hq
        go_wp2_with fail
        refine HC.out.mono ?_
        rintro e w2 ⟨rfl, hb2⟩
        have HB2 := Lib.hid (below_on HB.out hb2)
        have HX2 := Lib.hid (c10_on HX.out hb2)
        clear c0 c1 c2 c3 c4 c5 c6 c7 c8 c9 d0 d1 d2 d3 d4 d5 d6 d7 d8 d9 hb2
        cases q with
        | true =>
          go_wp2
          go_ret
          exact ⟨bT (by rw [HR.out, HQ2.out]; rfl), HB2.out⟩
        | false =>
          go_wp2
          go_roundw
          case rel => exact ⟨k + 1, r', by go_num, by omega, by omega, by rw [HQ2.out]; rfl, by rw [show o + (k + 1) * 10 = o + k * 10 + 10 by omega]; exact HR'.out, HB2.out, HX2.out⟩
          case measure => simp [intOf]; omega

theorem l3f_of {h : FH} {f : Fo} (HF : ∀ h s, s.size < f.size → L3F h s) : L3F h f := by
  intro w lo s v hs
  by_cases hk : h.k = 2
  · exact l3f_a hk w lo s hs
  cases hq : qB h.k with
  | true =>
    by_cases hv : h.v = v
    · exact l3f_q hq hv w lo s hs
    · exact l3f_loop1 HF hk hq hv w lo s hs
  | false => exact l3f_loop0 HF hk hq w lo s hs

theorem l3f_any (h : FH) (f : Fo) : L3F h f := by
  have key : ∀ N (h : FH) (f : Fo), f.size ≤ N → L3F h f := by
    intro N
    induction N with
    | zero => intro h f hf; exact l3f_of fun h s hs => absurd hs (by omega)
    | succ N ih => intro h f hf; exact l3f_of fun h s hs => ih h s (by omega)
  exact key f.size h f (Nat.le_refl _)

def FvR (h : FH) (s : Value) (p : Int → Bool) (w : World) (v i : Value) (wr : World) : Prop :=
  ∃ k : Nat, k ≤ 4 ∧ i = .int .i64 k ∧ OwnI wr (w.heap.size + 1) v (fl p k) ∧ Below w.heap.size w wr ∧ C10 wr w.heap.size h s

theorem c10_own {W W' : World} {x : Nat} {h : FH} {s v : Value} {B e size m : Nat} {xs : List Value} (hx : C10 W x h s) (hown : W.ownsRow B e size v m xs) (hB : x < B) (hg : W.grownBy W' v.ownBlock) : C10 W' x h s :=
  c10_block hg.size (hg.block x hx.1 (fun e => by have := hown.lt x e.symm; omega)) hx

end Go.Proofs.Ytcgolbkpfncgpaa
