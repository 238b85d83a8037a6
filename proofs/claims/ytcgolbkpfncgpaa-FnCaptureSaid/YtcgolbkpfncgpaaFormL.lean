/- Contracts of l3Nested, NestedCount and IsOpen of the model and of the program. -/
import Derived.Test.YtcgolbkpfncgpaaFormK
namespace Go.Proofs.Ytcgolbkpfncgpaa
open Go.RowKit

theorem own_kind {h : FH} {len : Nat} (ho : ownB h len = true) : (len = 0 ∧ (h.k = 0 ∨ h.k = 1 ∨ h.k = 2)) ∨ (len = 1 ∧ (h.k = 3 ∨ h.k = 6 ∨ h.k = 7)) ∨ (len = 2 ∧ (h.k = 4 ∨ h.k = 5)) := by
  unfold ownB at ho
  simp only [Bool.and_eq_true, decide_eq_true_eq] at ho
  have hl := ho.2
  unfold subsI at hl
  split at hl
  · exact .inl ⟨by omega, by assumption⟩
  · split at hl
    · exact .inr (.inl ⟨by omega, by assumption⟩)
    · split at hl
      · exact .inr (.inr ⟨by omega, by assumption⟩)
      · omega

theorem ns_any : ∀ (N : Nat) (h : FH) (f : Fo), f.size ≤ N → ownB h f.len = true → f.okB = true → f.size ≤ 600 → NsAt (nd1 h f.nds) (f.nst + qN h) := by
  intro N
  induction N with
  | zero =>
    intro h f hf ho _ _
    match f, hf with
    | .nil, _ =>
      have hk := own_kind ho
      have e : qN h = 0 := by rcases hk with ⟨_, hk | hk | hk⟩ | ⟨hl, _⟩ | ⟨hl, _⟩ <;> first | (unfold qN; rw [hk]; rfl) | (simp [Fo.len] at hl)
      rw [e]
      refine ns_0 h ?_
      rcases hk with ⟨_, hk⟩ | ⟨hl, _⟩ | ⟨hl, _⟩
      · exact hk
      · simp [Fo.len] at hl
      · simp [Fo.len] at hl
    | .cons _ _ _, hf => simp [Fo.size] at hf
  | succ N ih =>
    intro h f hf ho hok hs
    match f, hf, ho, hok, hs with
    | .nil, _, ho, _, _ =>
      have hk := own_kind ho
      have e : qN h = 0 := by rcases hk with ⟨_, hk | hk | hk⟩ | ⟨hl, _⟩ | ⟨hl, _⟩ <;> first | (unfold qN; rw [hk]; rfl) | (simp [Fo.len] at hl)
      rw [e]
      refine ns_0 h ?_
      rcases hk with ⟨_, hk⟩ | ⟨hl, _⟩ | ⟨hl, _⟩
      · exact hk
      · simp [Fo.len] at hl
      · simp [Fo.len] at hl
    | .cons h1 s1 .nil, hf, ho, hok, hs =>
      have hk := own_kind ho
      simp only [Fo.size, Fo.okB, Bool.and_true, Bool.and_eq_true] at hf hok hs
      obtain ⟨t, y, e⟩ := nd1_iface h1 s1.nds
      have h1n := ih h1 s1 (by omega) hok.1 hok.2 (by omega)
      have hb := nst_le s1
      have hq := qN_le h1
      simp only [Fo.nds, Fo.nst, e, Nat.max_zero] at h1n ⊢
      refine ns_1 h t y _ ?_ (by omega) h1n
      rcases hk with ⟨hl, _⟩ | ⟨_, hk⟩ | ⟨hl, _⟩
      · simp [Fo.len] at hl
      · exact hk
      · simp [Fo.len] at hl
    | .cons h1 s1 (.cons h2 s2 .nil), hf, ho, hok, hs =>
      have hk := own_kind ho
      simp only [Fo.size, Fo.okB, Bool.and_true, Bool.and_eq_true] at hf hok hs
      obtain ⟨t, y, e⟩ := nd1_iface h1 s1.nds
      obtain ⟨t', y', e'⟩ := nd1_iface h2 s2.nds
      have h1n := ih h1 s1 (by omega) hok.1.1 hok.1.2 (by omega)
      have h2n := ih h2 s2 (by omega) hok.2.1 hok.2.2 (by omega)
      have hb := nst_le s1
      have hq := qN_le h1
      have hb2 := nst_le s2
      have hq2 := qN_le h2
      simp only [Fo.nds, Fo.nst, e, e', Nat.max_zero] at h1n h2n ⊢
      refine ns_2 h t t' y y' _ _ ?_ (by omega) (by omega) h1n h2n
      rcases hk with ⟨hl, _⟩ | ⟨hl, _⟩ | ⟨_, hk⟩
      · simp [Fo.len] at hl
      · simp [Fo.len] at hl
      · exact hk
    | .cons _ _ (.cons _ _ (.cons _ _ r)), _, ho, _, _ =>
      rcases own_kind ho with ⟨hl, _⟩ | ⟨hl, _⟩ | ⟨hl, _⟩ <;> simp [Fo.len] at hl

def NeF (h : FH) (f : Fo) : Prop := ∀ (w : World) (lo : Nat) (s : Value), f.size ≤ 1048576 → FS w lo f s →
  Calls Try.prog 142 #[.agg #[.int .i64 h.k, .int .i64 h.ak, .int .i64 h.am, .int .i64 h.a, .int .i64 h.b, .int .i64 h.c, .int .i64 h.d, .int .i64 h.n, .int .i64 h.v, s]] w (IntT ((f.nst + qN h : Nat) : Int) w)

def NeR (h : FH) (f : Fo) (b o lo : Nat) (w : World) (s n i : Value) (wr : World) : Prop :=
  ∃ (k m : Nat) (r : Fo), i = .int .i64 k ∧ n = .int .i64 m ∧ k + r.len = f.len ∧ r.size ≤ f.size ∧ m ≤ f.size ∧ max m r.nst = f.nst ∧ FEl w lo r b (o + k * 10) ∧ Below w.heap.size w wr ∧ C10 wr w.heap.size h s

set_option maxHeartbeats 2000000 in
theorem neF_of {h : FH} {f : Fo} (HF : ∀ h s, s.size < f.size → NeF h s) : NeF h f := by
  intro w lo s hz hs
  have H := Lib.hid HF
  clear HF
  rcases hs with ⟨h0, x, cap, rfl, _, _⟩ | ⟨h0, b, o, cap, rfl, hc1, hc2, hlo, hb, hel⟩
  · obtain rfl : f = .nil := Fo.len_zero h0
    clear h0
    cases hq : qB h.k with
    | true =>
      have HQ := Lib.hid hq
      have HN := Lib.hid (show ((Fo.nil.nst + qN h : Nat) : Int) = 1 by unfold qN; rw [if_pos hq]; rfl)
      clear hq
      go_enter Try.func142, Try.ntmps142
      go_wp2
      refine wp_loop_rounds 1 ?_
      rw [rounds_succ]
      go_wp2_with (go_at_call 139; refine (l3Quant_is _ _ _ HQ.out).mono ?_; rintro e w' ⟨rfl, rfl⟩)
      go_ret
      exact ⟨ret_int' HN.out.symm, by go_grown⟩
    | false =>
      have HQ := Lib.hid hq
      have HN := Lib.hid (show ((Fo.nil.nst + qN h : Nat) : Int) = 0 by unfold qN; rw [if_neg (by rw [hq]; simp)]; rfl)
      clear hq
      go_enter Try.func142, Try.ntmps142
      go_wp2
      refine wp_loop_rounds 1 ?_
      rw [rounds_succ]
      go_wp2_with (go_at_call 139; refine (l3Quant_is _ _ _ HQ.out).mono ?_; rintro e w' ⟨rfl, rfl⟩)
      go_ret
      exact ⟨ret_int' HN.out.symm, by go_grown⟩
  · have hnl := nst_le f
    have HEL := Lib.hid hel
    unfold maxLen at hc2
    clear hel
    go_enter Try.func142, Try.ntmps142
    go_wp2_with fail
    generalize hW : World.alloc _ _ = W
    have hx : C10 W w.heap.size h (.slice (some ⟨b, o, none⟩) f.len cap) := by subst hW; exact (by refine ⟨?_, ?_, ?_, ?_, ?_, ?_, ?_, ?_, ?_, ?_, ?_⟩ <;> first | (simp [go_sem]; done) | (simp; omega))
    have hw : Below w.heap.size w W := by subst hW; go_grown
    clear hW
    have HST := Lib.hid (show NeR h f b o lo w (.slice (some ⟨b, o, none⟩) f.len cap) (.int .i64 0) (.int .i64 0) W from ⟨0, 0, f, rfl, rfl, by omega, Nat.le_refl _, Nat.zero_le _, by omega, by simpa using HEL.out, hw, hx⟩)
    clear hx hw
    go_loopw [3, 4] (fun n i wr => NeR h f b o lo w (.slice (some ⟨b, o, none⟩) f.len cap) n i wr) (fun _ i _ => f.len - (intOf i).toNat)
    case atStart => exact HST.out
    case round =>
      obtain ⟨k, m, r, rfl, rfl, hk, hdr, hm, hfin, hr, hbw, hx2⟩ := hrel
      have HFIN := Lib.hid hfin
      have hm0 : (0 : Int) ≤ m := by omega
      have hm6 : (m : Int) ≤ 1048576 := by omega
      clear hfin HST
      obtain ⟨x0, c0, c1, c2, c3, c4, c5, c6, c7, c8, c9⟩ := id hx2
      cases r with
      | nil =>
        simp only [Fo.len] at hk
        have hkl : ¬ k < f.len := by omega
        have hmm : m = f.nst := by have := HFIN.out; simp only [Fo.nst] at this; omega
        have HM := Lib.hid hmm
        clear hmm
        cases hq : qB h.k with
        | true =>
          have HQ := Lib.hid hq
          have HN := Lib.hid (show qN h = 1 by unfold qN; rw [if_pos hq])
          clear hq
          go_wp2_with (go_at_call 139; refine (l3Quant_is _ _ _ HQ.out).mono ?_; rintro e w' ⟨rfl, rfl⟩)
          go_ret
          exact ⟨ret_int' (by have := HM.out; rw [HN.out]; omega), hbw⟩
        | false =>
          have HQ := Lib.hid hq
          have HN := Lib.hid (show qN h = 0 by unfold qN; rw [if_neg (by rw [hq]; simp)])
          clear hq
          go_wp2_with (go_at_call 139; refine (l3Quant_is _ _ _ HQ.out).mono ?_; rintro e w' ⟨rfl, rfl⟩)
          go_ret
          exact ⟨ret_int' (by have := HM.out; rw [HN.out]; omega), hbw⟩
      | cons h' s' r' =>
        simp only [Fo.len] at hk
        simp only [Fo.size] at hdr
        have hkl : k < f.len := by omega
        have HR := Lib.hid hr.2
        obtain ⟨⟨sl, hrow, hsl⟩, _⟩ := FEl.below hbw (Nat.le_refl _) hlo hb hr
        clear hr
        have HC := Lib.hid (H.out h' s' (by omega) wr lo sl (by omega) hsl)
        have HB := Lib.hid hbw
        have HX := Lib.hid hx2
        obtain ⟨d0, d1, d2, d3, d4, d5, d6, d7, d8, d9⟩ := hrow
        obtain ⟨q, hq⟩ : ∃ q, s'.nst + qN h' = q := ⟨_, rfl⟩
        have hqb : q ≤ s'.size + 1 := by have := nst_le s'; have := qN_le h'; omega
        rw [hq] at HC
        have hq0 : (0 : Int) ≤ q := by omega
        have hq6 : (q : Int) ≤ 1048577 := by omega
        have HQ := Lib.hid hq
        clear hsl hbw hx2 hq
        go_wp2_with fail
        refine HC.out.mono ?_
        rintro e w2 ⟨rfl, hb2⟩
        have HB2 := Lib.hid (below_on HB.out hb2)
        have HX2 := Lib.hid (c10_on HX.out hb2)
        clear c0 c1 c2 c3 c4 c5 c6 c7 c8 c9 d0 d1 d2 d3 d4 d5 d6 d7 d8 d9 hb2
        have HZ := Lib.hid (show max (max m q) r'.nst = f.nst by have := HFIN.out; have := HQ.out; simp only [Fo.nst] at *; omega)
        go_wp2
        all_goals
          go_roundw
          case rel => exact ⟨k + 1, max m q, r', by go_num, by congr 1; omega, by omega, by omega, by omega, HZ.out, by rw [show o + (k + 1) * 10 = o + k * 10 + 10 by omega]; exact HR.out, HB2.out, HX2.out⟩
          case measure => simp [intOf]; omega

theorem neF_any (h : FH) (f : Fo) : NeF h f := by
  have key : ∀ N (h : FH) (f : Fo), f.size ≤ N → NeF h f := by
    intro N
    induction N with
    | zero => intro h f hf; exact neF_of fun h s hs => absurd hs (by omega)
    | succ N ih => intro h f hf; exact neF_of fun h s hs => ih h s (by omega)
  exact key f.size h f (Nat.le_refl _)

end Go.Proofs.Ytcgolbkpfncgpaa
