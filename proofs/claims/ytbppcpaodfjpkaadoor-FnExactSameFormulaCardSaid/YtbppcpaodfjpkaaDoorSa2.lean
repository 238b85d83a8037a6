/- Several texts in one: SaP SaQ SaS LTxS. -/
import Derived.Test.YtbppcpaodfjpkaaDoorFtC
import Derived.Test.YtbppcpaodfjpkaaDoorSa1
import Derived.Test.YtbppcpaodfjpkaaDoorFormI
import Derived.Deep.RegionHeld3
import Derived.BigQuiet

/- SameFormula of the program. -/
namespace Go.Proofs.YtbppcpaodfjpkaaDoor
open Go.RowKit

/-- SameFormula's answer. -/
def smB (h : FH) (f : Fo) (h' : FH) (f' : Fo) : Bool := vfB h f && (fmT h f == fmT h' f')

set_option maxRecDepth 10000 in
set_option maxHeartbeats 2000000 in
theorem SameFormula_any (h : FH) (f : Fo) (h' : FH) (f' : Fo) (w : World) (lo lo' : Nat) (s s' : Value) (hs : FS w lo f s) (hs' : FS w lo' f' s') (hw0 : Words w) (hT0 : Tab w) :
    Calls Tryd.prog 9 #[.agg #[.int .i64 h.k, .int .i64 h.ak, .int .i64 h.am, .int .i64 h.a, .int .i64 h.b, .int .i64 h.c, .int .i64 h.d, .int .i64 h.n, .int .i64 h.v, s], .agg #[.int .i64 h'.k, .int .i64 h'.ak, .int .i64 h'.am, .int .i64 h'.a, .int .i64 h'.b, .int .i64 h'.c, .int .i64 h'.d, .int .i64 h'.n, .int .i64 h'.v, s']] w fun e w' => e = .returned (.bool (smB h f h' f')) ∧ Below w.heap.size w w' := by
  have HI := Lib.hid (fun W hW => FormatFormula_any h f W lo s (FS.below (w := w) hW (Nat.le_refl _) hs) (words_on hw0 hW) (tab_on hT0 hW))
  have HJ := Lib.hid (fun W hW => FormatFormula_any h' f' W lo' s' (FS.below (w := w) hW (Nat.le_refl _) hs') (words_on hw0 hW) (tab_on hT0 hW))
  obtain ⟨sa, sn, sc, rfl⟩ := hs.slice
  obtain ⟨ta, tn, tc, rfl⟩ := hs'.slice
  clear hs hs' hw0 hT0
  have hlist := bs_list
  obtain ⟨T', hT'⟩ : ∃ T, fmT h' f' = T := ⟨_, rfl⟩
  rw [hT'] at HJ
  cases hv : vfB h f with
  | false =>
    have HE := Lib.hid (show smB h f h' f' = false by unfold smB; rw [hv]; rfl)
    rw [show fmT h f = [] by unfold fmT; rw [if_neg (by rw [hv]; simp)]] at HI
    have hemp : ([] : List UInt8).isEmpty = true := rfl
    clear hv hT'
    go_enter Tryd.func9, Tryd.ntmps9
    go_wp2_with fail
    generalize hW : World.alloc _ _ = W
    have hw : Below w.heap.size w W := by subst hW; go_grown
    clear hW
    refine (HI.out _ hw).mono ?_
    rintro e w1 ⟨rfl, hb1⟩
    have hw1 := below_on hw hb1
    go_wp2
    go_ret
    exact ⟨by rw [HE.out]; rfl, hw1⟩
  | true =>
    obtain ⟨T, hT⟩ : ∃ T, fmT h f = T := ⟨_, rfl⟩
    have hne3 : ¬ T = [] := by
      rw [← hT]
      unfold fmT
      rw [if_pos hv]
      unfold txF
      exact fun e => ow_ne (vf_parts hv).1 (List.append_eq_nil_iff.1 e).1
    have hne : T.isEmpty = false := by simpa using hne3
    have hne2 : (T == []) = false := by simpa using hne3
    have HE := Lib.hid (show smB h f h' f' = (T == T') by unfold smB; rw [hv, hT, hT']; rfl)
    rw [hT] at HI
    clear hv hT hT'
    go_enter Tryd.func9, Tryd.ntmps9
    go_wp2_with fail
    generalize hW : World.alloc _ _ = W
    have hw : Below w.heap.size w W := by subst hW; go_grown
    have hy : C10 W (w.heap.size + 1) h' (.slice ta tn tc) := by subst hW; exact (by refine ⟨?_, ?_, ?_, ?_, ?_, ?_, ?_, ?_, ?_, ?_, ?_⟩ <;> first | (simp [go_sem]; done) | (simp; omega))
    clear hW
    refine (HI.out _ hw).mono ?_
    rintro e w1 ⟨rfl, hb1⟩
    have hw1 := below_on hw hb1
    obtain ⟨y0, d0, d1, d2, d3, d4, d5, d6, d7, d8, d9⟩ := c10_on hy hb1
    go_wp2_with fail
    refine (HJ.out _ hw1).mono ?_
    rintro e w2 ⟨rfl, hb2⟩
    have hw2 := below_on hw1 hb2
    go_wp2
    go_ret
    exact ⟨by rw [HE.out]; rfl, hw2⟩

end Go.Proofs.YtbppcpaodfjpkaaDoor

/- SameFormula's answer by structure. -/
namespace Go.Proofs.YtbppcpaodfjpkaaDoor
open Go.RowKit

def fhB (h h' : FH) : Bool := decide (h.k = h'.k) && decide (h.ak = h'.ak ∧ h.am = h'.am ∧ h.a = h'.a ∧ h.b = h'.b ∧ h.c = h'.c ∧ h.d = h'.d ∧ h.n = h'.n) && decide (h.v = h'.v)
def Fo.eqB : Fo → Fo → Bool
  | .nil, .nil => true
  | .cons h s r, .cons h' s' r' => (fhB h h' && s.eqB s') && r.eqB r'
  | .nil, .cons .. => false
  | .cons .., .nil => false
/-- What l3Equal answers. -/
def eqF (h : FH) (f : Fo) (h' : FH) (f' : Fo) : Bool := fhB h h' && f.eqB f'
theorem fhB_iff {h h' : FH} : fhB h h' = true ↔ h = h' := by
  unfold fhB
  constructor
  · intro e
    simp only [Bool.and_eq_true, decide_eq_true_eq] at e
    obtain ⟨⟨e1, e2, e3, e4, e5, e6, e7, e8⟩, e9⟩ := e
    exact fh_ext e1 e2 e3 e4 e5 e6 e7 e8 e9
  · rintro rfl
    simp
theorem eqB_iff : ∀ (f f' : Fo), f.eqB f' = true ↔ f = f' := by
  intro f
  induction f with
  | nil => intro f'; cases f' <;> simp [Fo.eqB]
  | cons h s r ih1 ih2 =>
    intro f'
    cases f' with
    | nil => simp [Fo.eqB]
    | cons h' s' r' => simp only [Fo.eqB, Bool.and_eq_true, fhB_iff, ih1, ih2, Fo.cons.injEq, and_assoc]
theorem eqF_iff {h h' : FH} {f f' : Fo} : eqF h f h' f' = true ↔ h = h' ∧ f = f' := by
  unfold eqF
  rw [Bool.and_eq_true, fhB_iff, eqB_iff]
theorem smB_is (h : FH) (f : Fo) (h' : FH) (f' : Fo) : smB h f h' f' = (vfB h f && vfB h' f' && eqF h f h' f') := by
  unfold smB
  cases hv : vfB h f with
  | false => rfl
  | true =>
    rw [Bool.true_and, Bool.true_and]
    have e1 : fmT h f = txF h f := by unfold fmT; rw [if_pos hv]
    have hne : txF h f ≠ [] := fun e => ow_ne (vf_parts hv).1 (List.append_eq_nil_iff.1 e).1
    cases hv' : vfB h' f' with
    | false =>
      have e2 : fmT h' f' = [] := by unfold fmT; rw [if_neg (by rw [hv']; simp)]
      rw [e1, e2, Bool.false_and]
      simpa using hne
    | true =>
      have e2 : fmT h' f' = txF h' f' := by unfold fmT; rw [if_pos hv']
      rw [e1, e2, Bool.true_and, Bool.eq_iff_iff, beq_iff_eq, eqF_iff]
      exact ⟨fun e => tx_inj atTx hv hv' e, fun ⟨a, b⟩ => by rw [a, b]⟩
theorem Tryd.neq_atoms (k m a b c d n k' m' a' b' c' d' n' : Int) (t : Bool) (h : decide (k = k' ∧ m = m' ∧ a = a' ∧ b = b' ∧ c = c' ∧ d = d' ∧ n = n') = t) (w : World) :
    (binOp .neq 33 (.agg #[.int .i64 k, .int .i64 m, .int .i64 a, .int .i64 b, .int .i64 c, .int .i64 d, .int .i64 n]) (.agg #[.int .i64 k', .int .i64 m', .int .i64 a', .int .i64 b', .int .i64 c', .int .i64 d', .int .i64 n'])).run Tryd.prog w = .ok (.bool (!t)) w := by
  subst h
  by_cases h0 : k = k'
  · by_cases h1 : m = m'
    · by_cases h2 : a = a'
      · by_cases h3 : b = b'
        · by_cases h4 : c = c'
          · by_cases h5 : d = d'
            · by_cases h6 : n = n'
              · subst h0 h1 h2 h3 h4 h5 h6; go_simp
              · subst h0 h1 h2 h3 h4 h5; go_simp
            · subst h0 h1 h2 h3 h4; go_simp
          · subst h0 h1 h2 h3; go_simp
        · subst h0 h1 h2; go_simp
      · subst h0 h1; go_simp
    · subst h0; go_simp
  · go_simp
end Go.Proofs.YtbppcpaodfjpkaaDoor

/- l3Equal and SameFormula of the model. -/
namespace Go.Proofs.YtbppcpaodfjpkaaDoor
open Go.RowKit

def L3E (h : FH) (f : Fo) (h' : FH) (f' : Fo) : Prop := ∀ (w : World) (lo lo' : Nat) (s s' : Value), f.size ≤ 1000 → f'.size ≤ 1000 → FS w lo f s → FS w lo' f' s' → Calls Tryd.prog 23 #[.agg #[.int .i64 h.k, .int .i64 h.ak, .int .i64 h.am, .int .i64 h.a, .int .i64 h.b, .int .i64 h.c, .int .i64 h.d, .int .i64 h.n, .int .i64 h.v, s], .agg #[.int .i64 h'.k, .int .i64 h'.ak, .int .i64 h'.am, .int .i64 h'.a, .int .i64 h'.b, .int .i64 h'.c, .int .i64 h'.d, .int .i64 h'.n, .int .i64 h'.v, s']] w (BoolT (eqF h f h' f') w)
theorem keepE {W W' : World} {x y b b' o o' : Nat} {h h' h1 h2 : FH} {s s' s1 s2 : Value} (hx : C10 W x h s) (hy : C10 W y h' s') (hr : FRow W b o h1 s1) (hr' : FRow W b' o' h2 s2) (hb : b < W.heap.size) (hb' : b' < W.heap.size) (hB : Below W.heap.size W W') :
    Below W.heap.size W W' ∧ W'.cell? ⟨x, 9, none⟩ = some s ∧ W'.cell? ⟨y, 9, none⟩ = some s' ∧ FRow W' b o h1 s1 ∧ FRow W' b' o' h2 s2 := by
  have f : ∀ j, W'.cell? ⟨b, j, none⟩ = W.cell? ⟨b, j, none⟩ := fun j => hB.cell (p := ⟨b, j, none⟩) hb
  have g : ∀ j, W'.cell? ⟨b', j, none⟩ = W.cell? ⟨b', j, none⟩ := fun j => hB.cell (p := ⟨b', j, none⟩) hb'
  obtain ⟨_, _, _, _, _, _, _, _, _, _, hx9⟩ := c10_on hx hB
  obtain ⟨_, _, _, _, _, _, _, _, _, _, hy9⟩ := c10_on hy hB
  exact ⟨hB, hx9, hy9, by simpa only [FRow, f] using hr, by simpa only [FRow, g] using hr'⟩
def L3ER (h : FH) (f : Fo) (h' : FH) (f' : Fo) (b o lo b' o' lo' : Nat) (w : World) (s s' i : Value) (wr : World) : Prop :=
  ∃ (k : Nat) (r r' : Fo), i = .int .i64 k ∧ k + r.len = f.len ∧ k + r'.len = f'.len ∧ r.size ≤ f.size ∧ r'.size ≤ f'.size ∧ f.eqB f' = r.eqB r' ∧ FEl w lo r b (o + k * 10) ∧ FEl w lo' r' b' (o' + k * 10) ∧ Below w.heap.size w wr ∧ C10 wr w.heap.size h s ∧ C10 wr (w.heap.size + 1) h' s'

theorem eqB_len {f f' : Fo} (h : f.len ≠ f'.len) : f.eqB f' = false := by
  cases he : f.eqB f' with
  | false => rfl
  | true => exact absurd (by rw [(eqB_iff _ _).1 he]) h

set_option maxRecDepth 10000 in
set_option maxHeartbeats 2000000 in
theorem l3e_of {h : FH} {f : Fo} {h' : FH} {f' : Fo} (HF : ∀ h1 s1 h2 s2, s1.size < f.size → L3E h1 s1 h2 s2) : L3E h f h' f' := by
  intro w lo lo' s s' hz hz' hs hs'
  have H := Lib.hid HF
  have HS := Lib.hid hs
  have HS' := Lib.hid hs'
  clear HF
  obtain ⟨sa, sn, sc, rfl⟩ := hs.slice
  obtain ⟨ta, tn, tc, rfl⟩ := hs'.slice
  have hn : sn = f.len := by
    rcases hs with ⟨h0, x, cap0, e, _⟩ | ⟨h0, b, o, cap0, e, _⟩
    · injection e with e1 e2 e3; omega
    · injection e with e1 e2 e3
  have hn' : tn = f'.len := by
    rcases hs' with ⟨h0, x, cap0, e, _⟩ | ⟨h0, b, o, cap0, e, _⟩
    · injection e with e1 e2 e3; omega
    · injection e with e1 e2 e3
  subst hn hn'
  clear hs hs'
  by_cases hk : h.k = h'.k
  · have hk1 : (h.k != h'.k) = false := by simpa using hk
    by_cases ha : h.ak = h'.ak ∧ h.am = h'.am ∧ h.a = h'.a ∧ h.b = h'.b ∧ h.c = h'.c ∧ h.d = h'.d ∧ h.n = h'.n
    · have ha1 := Tryd.neq_atoms h.ak h.am h.a h.b h.c h.d h.n h'.ak h'.am h'.a h'.b h'.c h'.d h'.n true (by simpa using ha)
      by_cases hv : h.v = h'.v
      · have hv1 : (h.v != h'.v) = false := by simpa using hv
        have HFH := Lib.hid (show fhB h h' = true by simp [fhB, hk, ha, hv])
        clear hk ha hv
        by_cases hl : f.len = f'.len
        · have hl1 : ((f.len : Int) != (f'.len : Int)) = false := by simp; omega
          have HE0 := Lib.hid (show eqF h f h' f' = f.eqB f' by unfold eqF; rw [HFH.out]; rfl)
          have HL := Lib.hid hl
          clear hl
          go_enter Tryd.func23, Tryd.ntmps23
          go_wp2_with fail
          generalize hW : World.alloc _ _ = W
          have hw : Below w.heap.size w W := by subst hW; go_grown
          have hx : C10 W w.heap.size h (.slice sa f.len sc) := by subst hW; exact (by refine ⟨?_, ?_, ?_, ?_, ?_, ?_, ?_, ?_, ?_, ?_, ?_⟩ <;> first | (simp [go_sem]; done) | (simp; omega))
          have hy : C10 W (w.heap.size + 1) h' (.slice ta f'.len tc) := by subst hW; exact (by refine ⟨?_, ?_, ?_, ?_, ?_, ?_, ?_, ?_, ?_, ?_, ?_⟩ <;> first | (simp [go_sem]; done) | (simp; omega))
          clear hW
          obtain ⟨x0, c0, c1, c2, c3, c4, c5, c6, c7, c8, c9⟩ := id hx
          obtain ⟨y0, d0, d1, d2, d3, d4, d5, d6, d7, d8, d9⟩ := id hy
          by_cases h0 : f.len = 0
          · obtain rfl : f = .nil := Fo.len_zero h0
            obtain rfl : f' = .nil := Fo.len_zero (by rw [← HL.out]; exact h0)
            clear h0
            go_wp2_with fail
            refine wp_loop_rounds 1 ?_
            rw [rounds_succ]
            go_wp2
            go_ret
            exact ⟨by rw [HE0.out]; rfl, hw⟩
          · obtain ⟨b, o, cap0, e, hc1, hc2, hlo, hb, hel⟩ := (HS.out.resolve_left (fun q => h0 q.1)).2
            obtain ⟨b', o', cap0', e', hc1', hc2', hlo', hb', hel'⟩ := (HS'.out.resolve_left (fun q => h0 (HL.out.trans q.1))).2
            injection e with e1 e2 e3
            injection e' with e1' e2' e3'
            subst e1 e3 e1' e3'
            clear e2 e2' h0
            have HST := Lib.hid (show L3ER h f h' f' b o lo b' o' lo' w (.slice (some ⟨b, o, none⟩) f.len sc) (.slice (some ⟨b', o', none⟩) f'.len tc) (.int .i64 0) W from ⟨0, f, f', rfl, by omega, by omega, Nat.le_refl _, Nat.le_refl _, rfl, by simpa using hel, by simpa using hel', hw, hx, hy⟩)
            unfold maxLen at hc2 hc2'
            clear hel hel' hx hy hw HS HS' x0 c0 c1 c2 c3 c4 c5 c6 c7 c8 c9 y0 d0 d1 d2 d3 d4 d5 d6 d7 d8 d9
            go_wp2_with fail
            go_loopw [5] (fun i wr => L3ER h f h' f' b o lo b' o' lo' w (.slice (some ⟨b, o, none⟩) f.len sc) (.slice (some ⟨b', o', none⟩) f'.len tc) i wr) (fun i _ => f.len - (intOf i).toNat)
            case atStart => exact HST.out
            case round =>
              obtain ⟨k, r, r', rfl, hk, hk', hrz, hrz', heq, hr, hr', hbw, hx, hy⟩ := hrel
              have HQ := Lib.hid heq
              clear heq HST
              obtain ⟨x0, c0, c1, c2, c3, c4, c5, c6, c7, c8, c9⟩ := id hx
              cases r with
              | nil =>
                simp only [Fo.len] at hk
                have hkl : ¬ k < f.len := by omega
                obtain rfl : r' = .nil := Fo.len_zero (by have := HL.out; omega)
                have HE := Lib.hid (show eqF h f h' f' = true by rw [HE0.out, HQ.out]; rfl)
                clear hk' hr hr'
                go_wp2
                go_ret
                exact ⟨by rw [HE.out]; rfl, hbw⟩
              | cons h1 s1 q =>
                cases r' with
                | nil =>
                  exfalso
                  simp only [Fo.len] at hk hk'
                  have := HL.out
                  omega
                | cons h2 s2 q' =>
                  simp only [Fo.len] at hk hk'
                  simp only [Fo.size] at hrz hrz'
                  have hkl : k < f.len := by omega
                  have hkl' : k < f'.len := by omega
                  have HR := Lib.hid hr.2
                  have HR' := Lib.hid hr'.2
                  obtain ⟨⟨sl, hrow, hsl⟩, _⟩ := FEl.below hbw (Nat.le_refl _) hlo hb hr
                  obtain ⟨⟨tl, hrow', hsl'⟩, _⟩ := FEl.below hbw (Nat.le_refl _) hlo' hb' hr'
                  have hsw := hbw.size
                  have HC := Lib.hid (fun W hW => H.out h1 s1 h2 s2 (by omega) W lo lo' sl tl (by omega) (by omega) (FS.below (w := wr) hW (Nat.le_refl _) hsl) (FS.below (w := wr) hW (Nat.le_refl _) hsl'))
                  have HKP := Lib.hid (fun W (hW : Below wr.heap.size wr W) => keepE hx hy hrow hrow' (by omega) (by omega) hW)
                  have HB := Lib.hid hbw
                  have HX := Lib.hid hx
                  have HY := Lib.hid hy
                  obtain ⟨t, ht⟩ : ∃ t, eqF h1 s1 h2 s2 = t := ⟨_, rfl⟩
                  have HQ2 := Lib.hid (show f.eqB f' = (t && q.eqB q') by rw [HQ.out, ← ht]; rfl)
                  rw [ht] at HC
                  clear hr hr' hrow hrow' hsl hsl' hbw hx hy ht
                  cases t with
                  | true =>
                    have HQ3 := Lib.hid (show f.eqB f' = q.eqB q' by rw [HQ2.out, Bool.true_and])
                    go_wp2_with fail
                    go_region_held3 (fun w' => Below wr.heap.size wr w' ∧ w'.cell? ⟨w.heap.size, 9, none⟩ = some (.slice (some ⟨b, o, none⟩) f.len sc) ∧ w'.cell? ⟨w.heap.size + 1, 9, none⟩ = some (.slice (some ⟨b', o', none⟩) f'.len tc) ∧ (w'.cell? ⟨b, o + k * 10, none⟩ = some (.int .i64 h1.k) ∧ w'.cell? ⟨b, o + k * 10 + 1, none⟩ = some (.int .i64 h1.ak) ∧ w'.cell? ⟨b, o + k * 10 + 2, none⟩ = some (.int .i64 h1.am) ∧ w'.cell? ⟨b, o + k * 10 + 3, none⟩ = some (.int .i64 h1.a) ∧ w'.cell? ⟨b, o + k * 10 + 4, none⟩ = some (.int .i64 h1.b) ∧ w'.cell? ⟨b, o + k * 10 + 5, none⟩ = some (.int .i64 h1.c) ∧ w'.cell? ⟨b, o + k * 10 + 6, none⟩ = some (.int .i64 h1.d) ∧ w'.cell? ⟨b, o + k * 10 + 7, none⟩ = some (.int .i64 h1.n) ∧ w'.cell? ⟨b, o + k * 10 + 8, none⟩ = some (.int .i64 h1.v) ∧ w'.cell? ⟨b, o + k * 10 + 9, none⟩ = some sl) ∧ (w'.cell? ⟨b', o' + k * 10, none⟩ = some (.int .i64 h2.k) ∧ w'.cell? ⟨b', o' + k * 10 + 1, none⟩ = some (.int .i64 h2.ak) ∧ w'.cell? ⟨b', o' + k * 10 + 2, none⟩ = some (.int .i64 h2.am) ∧ w'.cell? ⟨b', o' + k * 10 + 3, none⟩ = some (.int .i64 h2.a) ∧ w'.cell? ⟨b', o' + k * 10 + 4, none⟩ = some (.int .i64 h2.b) ∧ w'.cell? ⟨b', o' + k * 10 + 5, none⟩ = some (.int .i64 h2.c) ∧ w'.cell? ⟨b', o' + k * 10 + 6, none⟩ = some (.int .i64 h2.d) ∧ w'.cell? ⟨b', o' + k * 10 + 7, none⟩ = some (.int .i64 h2.n) ∧ w'.cell? ⟨b', o' + k * 10 + 8, none⟩ = some (.int .i64 h2.v) ∧ w'.cell? ⟨b', o' + k * 10 + 9, none⟩ = some tl)) (exact HKP.out _ (by go_grown)) (first | (go_at_call 23; refine (HC.out _ (by go_grown)).mono ?_; rintro e w2 ⟨rfl, hb2⟩; have hbb2 := below_on (w := wr) (by go_grown) hb2; have hsb2 : wr.heap.size ≤ w2.heap.size := hbb2.size))
                    have HB2 := Lib.hid (below_on HB.out hbb2)
                    have HX2 := Lib.hid (c10_on HX.out hbb2)
                    have HY2 := Lib.hid (c10_on HY.out hbb2)
                    clear hb2 hbb2
                    go_wp2
                    go_roundw
                    case rel => exact ⟨k + 1, q, q', by go_num, by omega, by omega, by omega, by omega, HQ3.out, by rw [show o + (k + 1) * 10 = o + k * 10 + 10 by omega]; exact HR.out, by rw [show o' + (k + 1) * 10 = o' + k * 10 + 10 by omega]; exact HR'.out, HB2.out, HX2.out, HY2.out⟩
                    case measure => simp [intOf]; omega
                  | false =>
                    have HE := Lib.hid (show eqF h f h' f' = false by rw [HE0.out, HQ2.out, Bool.false_and])
                    go_wp2_with fail
                    go_region_held3 (fun w' => Below wr.heap.size wr w' ∧ w'.cell? ⟨w.heap.size, 9, none⟩ = some (.slice (some ⟨b, o, none⟩) f.len sc) ∧ w'.cell? ⟨w.heap.size + 1, 9, none⟩ = some (.slice (some ⟨b', o', none⟩) f'.len tc) ∧ (w'.cell? ⟨b, o + k * 10, none⟩ = some (.int .i64 h1.k) ∧ w'.cell? ⟨b, o + k * 10 + 1, none⟩ = some (.int .i64 h1.ak) ∧ w'.cell? ⟨b, o + k * 10 + 2, none⟩ = some (.int .i64 h1.am) ∧ w'.cell? ⟨b, o + k * 10 + 3, none⟩ = some (.int .i64 h1.a) ∧ w'.cell? ⟨b, o + k * 10 + 4, none⟩ = some (.int .i64 h1.b) ∧ w'.cell? ⟨b, o + k * 10 + 5, none⟩ = some (.int .i64 h1.c) ∧ w'.cell? ⟨b, o + k * 10 + 6, none⟩ = some (.int .i64 h1.d) ∧ w'.cell? ⟨b, o + k * 10 + 7, none⟩ = some (.int .i64 h1.n) ∧ w'.cell? ⟨b, o + k * 10 + 8, none⟩ = some (.int .i64 h1.v) ∧ w'.cell? ⟨b, o + k * 10 + 9, none⟩ = some sl) ∧ (w'.cell? ⟨b', o' + k * 10, none⟩ = some (.int .i64 h2.k) ∧ w'.cell? ⟨b', o' + k * 10 + 1, none⟩ = some (.int .i64 h2.ak) ∧ w'.cell? ⟨b', o' + k * 10 + 2, none⟩ = some (.int .i64 h2.am) ∧ w'.cell? ⟨b', o' + k * 10 + 3, none⟩ = some (.int .i64 h2.a) ∧ w'.cell? ⟨b', o' + k * 10 + 4, none⟩ = some (.int .i64 h2.b) ∧ w'.cell? ⟨b', o' + k * 10 + 5, none⟩ = some (.int .i64 h2.c) ∧ w'.cell? ⟨b', o' + k * 10 + 6, none⟩ = some (.int .i64 h2.d) ∧ w'.cell? ⟨b', o' + k * 10 + 7, none⟩ = some (.int .i64 h2.n) ∧ w'.cell? ⟨b', o' + k * 10 + 8, none⟩ = some (.int .i64 h2.v) ∧ w'.cell? ⟨b', o' + k * 10 + 9, none⟩ = some tl)) (exact HKP.out _ (by go_grown)) (first | (go_at_call 23; refine (HC.out _ (by go_grown)).mono ?_; rintro e w2 ⟨rfl, hb2⟩; have hbb2 := below_on (w := wr) (by go_grown) hb2; have hsb2 : wr.heap.size ≤ w2.heap.size := hbb2.size))
                    have hbw2 := below_on HB.out hbb2
                    go_wp2
                    go_ret
                    exact ⟨by rw [HE.out]; rfl, hbw2⟩
        · have hl1 : ((f.len : Int) != (f'.len : Int)) = true := by simp; omega
          have HE := Lib.hid (show eqF h f h' f' = false by unfold eqF; rw [eqB_len hl, Bool.and_false])
          clear hl
          go_enter Tryd.func23, Tryd.ntmps23
          go_wp2_with fail
          generalize hW : World.alloc _ _ = W
          have hw : Below w.heap.size w W := by subst hW; go_grown
          have hx : C10 W w.heap.size h (.slice sa f.len sc) := by subst hW; exact (by refine ⟨?_, ?_, ?_, ?_, ?_, ?_, ?_, ?_, ?_, ?_, ?_⟩ <;> first | (simp [go_sem]; done) | (simp; omega))
          have hy : C10 W (w.heap.size + 1) h' (.slice ta f'.len tc) := by subst hW; exact (by refine ⟨?_, ?_, ?_, ?_, ?_, ?_, ?_, ?_, ?_, ?_, ?_⟩ <;> first | (simp [go_sem]; done) | (simp; omega))
          clear hW
          obtain ⟨x0, c0, c1, c2, c3, c4, c5, c6, c7, c8, c9⟩ := id hx
          obtain ⟨y0, d0, d1, d2, d3, d4, d5, d6, d7, d8, d9⟩ := id hy
          go_wp2
          go_ret
          exact ⟨by rw [HE.out]; rfl, hw⟩
      · have hv1 : (h.v != h'.v) = true := by simpa using hv
        have HE := Lib.hid (show eqF h f h' f' = false by simp [eqF, fhB, hv])
        clear hk ha hv
        go_enter Tryd.func23, Tryd.ntmps23
        go_wp2_with fail
        generalize hW : World.alloc _ _ = W
        have hw : Below w.heap.size w W := by subst hW; go_grown
        have hx : C10 W w.heap.size h (.slice sa f.len sc) := by subst hW; exact (by refine ⟨?_, ?_, ?_, ?_, ?_, ?_, ?_, ?_, ?_, ?_, ?_⟩ <;> first | (simp [go_sem]; done) | (simp; omega))
        have hy : C10 W (w.heap.size + 1) h' (.slice ta f'.len tc) := by subst hW; exact (by refine ⟨?_, ?_, ?_, ?_, ?_, ?_, ?_, ?_, ?_, ?_, ?_⟩ <;> first | (simp [go_sem]; done) | (simp; omega))
        clear hW
        obtain ⟨x0, c0, c1, c2, c3, c4, c5, c6, c7, c8, c9⟩ := id hx
        obtain ⟨y0, d0, d1, d2, d3, d4, d5, d6, d7, d8, d9⟩ := id hy
        go_wp2
        go_ret
        exact ⟨by rw [HE.out]; rfl, hw⟩
    · have ha1 := Tryd.neq_atoms h.ak h.am h.a h.b h.c h.d h.n h'.ak h'.am h'.a h'.b h'.c h'.d h'.n false (by simpa using ha)
      have HE := Lib.hid (show eqF h f h' f' = false by unfold eqF fhB; rw [decide_eq_false ha]; simp)
      clear hk ha
      go_enter Tryd.func23, Tryd.ntmps23
      go_wp2_with fail
      generalize hW : World.alloc _ _ = W
      have hw : Below w.heap.size w W := by subst hW; go_grown
      have hx : C10 W w.heap.size h (.slice sa f.len sc) := by subst hW; exact (by refine ⟨?_, ?_, ?_, ?_, ?_, ?_, ?_, ?_, ?_, ?_, ?_⟩ <;> first | (simp [go_sem]; done) | (simp; omega))
      have hy : C10 W (w.heap.size + 1) h' (.slice ta f'.len tc) := by subst hW; exact (by refine ⟨?_, ?_, ?_, ?_, ?_, ?_, ?_, ?_, ?_, ?_, ?_⟩ <;> first | (simp [go_sem]; done) | (simp; omega))
      clear hW
      obtain ⟨x0, c0, c1, c2, c3, c4, c5, c6, c7, c8, c9⟩ := id hx
      obtain ⟨y0, d0, d1, d2, d3, d4, d5, d6, d7, d8, d9⟩ := id hy
      go_wp2
      go_ret
      exact ⟨by rw [HE.out]; rfl, hw⟩
  · have hk1 : (h.k != h'.k) = true := by simpa using hk
    have HE := Lib.hid (show eqF h f h' f' = false by simp [eqF, fhB, hk])
    clear hk
    go_enter Tryd.func23, Tryd.ntmps23
    go_wp2_with fail
    generalize hW : World.alloc _ _ = W
    have hw : Below w.heap.size w W := by subst hW; go_grown
    have hx : C10 W w.heap.size h (.slice sa f.len sc) := by subst hW; exact (by refine ⟨?_, ?_, ?_, ?_, ?_, ?_, ?_, ?_, ?_, ?_, ?_⟩ <;> first | (simp [go_sem]; done) | (simp; omega))
    have hy : C10 W (w.heap.size + 1) h' (.slice ta f'.len tc) := by subst hW; exact (by refine ⟨?_, ?_, ?_, ?_, ?_, ?_, ?_, ?_, ?_, ?_, ?_⟩ <;> first | (simp [go_sem]; done) | (simp; omega))
    clear hW
    obtain ⟨x0, c0, c1, c2, c3, c4, c5, c6, c7, c8, c9⟩ := id hx
    obtain ⟨y0, d0, d1, d2, d3, d4, d5, d6, d7, d8, d9⟩ := id hy
    go_wp2
    go_ret
    exact ⟨by rw [HE.out]; rfl, hw⟩

theorem l3e_any (h : FH) (f : Fo) (h' : FH) (f' : Fo) : L3E h f h' f' := by
  have key : ∀ N (h : FH) (f : Fo) (h' : FH) (f' : Fo), f.size ≤ N → L3E h f h' f' := by
    intro N
    induction N with
    | zero => intro h f h' f' hf; exact l3e_of fun h1 s1 h2 s2 hs => absurd hs (by omega)
    | succ N ih => intro h f h' f' hf; exact l3e_of fun h1 s1 h2 s2 hs => ih h1 s1 h2 s2 (by omega)
  exact key f.size h f h' f' (Nat.le_refl _)

set_option maxRecDepth 10000 in
set_option maxHeartbeats 1000000 in
theorem specSameFormula_any (h : FH) (f : Fo) (h' : FH) (f' : Fo) (w : World) (lo lo' : Nat) (s s' : Value) (hs : FS w lo f s) (hs' : FS w lo' f' s') :
    Calls Tryd.prog 7 #[.agg #[.int .i64 h.k, .int .i64 h.ak, .int .i64 h.am, .int .i64 h.a, .int .i64 h.b, .int .i64 h.c, .int .i64 h.d, .int .i64 h.n, .int .i64 h.v, s], .agg #[.int .i64 h'.k, .int .i64 h'.ak, .int .i64 h'.am, .int .i64 h'.a, .int .i64 h'.b, .int .i64 h'.c, .int .i64 h'.d, .int .i64 h'.n, .int .i64 h'.v, s']] w fun e w' => e = .returned (.bool (smB h f h' f')) ∧ Below w.heap.size w w' := by
  have HV := Lib.hid (fun W hW => specFormulaValid_any h f W lo s (FS.below (w := w) hW (Nat.le_refl _) hs))
  have HV' := Lib.hid (fun W hW => specFormulaValid_any h' f' W lo' s' (FS.below (w := w) hW (Nat.le_refl _) hs'))
  have HE := Lib.hid (fun W hz hz' hW => l3e_any h f h' f' W lo lo' s s' hz hz' (FS.below (w := w) hW (Nat.le_refl _) hs) (FS.below (w := w) hW (Nat.le_refl _) hs'))
  obtain ⟨sa, sn, sc, rfl⟩ := hs.slice
  obtain ⟨ta, tn, tc, rfl⟩ := hs'.slice
  have HI := Lib.hid (smB_is h f h' f')
  clear hs hs'
  have hz1 : vfB h f = true → f.size ≤ 1000 := fun e => by have := (vf_parts e).2.2; omega
  have hz2 : vfB h' f' = true → f'.size ≤ 1000 := fun e => by have := (vf_parts e).2.2; omega
  obtain ⟨t, ht⟩ : ∃ t, eqF h f h' f' = t := ⟨_, rfl⟩
  rw [ht] at HE HI
  obtain ⟨v, hv⟩ : ∃ v, vfB h f = v := ⟨_, rfl⟩
  obtain ⟨v', hv'⟩ : ∃ v', vfB h' f' = v' := ⟨_, rfl⟩
  rw [hv] at HV HI hz1
  rw [hv'] at HV' HI hz2
  clear ht hv hv'
  go_enter Tryd.func7, Tryd.ntmps7
  go_wp2_with fail
  generalize hW : World.alloc _ _ = W
  have hw : Below w.heap.size w W := by subst hW; go_grown
  have hx : C10 W w.heap.size h (.slice sa sn sc) := by subst hW; exact (by refine ⟨?_, ?_, ?_, ?_, ?_, ?_, ?_, ?_, ?_, ?_, ?_⟩ <;> first | (simp [go_sem]; done) | (simp; omega))
  have hy : C10 W (w.heap.size + 1) h' (.slice ta tn tc) := by subst hW; exact (by refine ⟨?_, ?_, ?_, ?_, ?_, ?_, ?_, ?_, ?_, ?_, ?_⟩ <;> first | (simp [go_sem]; done) | (simp; omega))
  clear hW
  refine (HV.out _ hw).mono ?_
  rintro e w1 ⟨rfl, hb1⟩
  have hw1 := below_on hw hb1
  have hx1 := c10_on hx hb1
  have hy1 := c10_on hy hb1
  clear hb1 hx hy hw
  cases v with
  | false =>
    go_wp2
    go_ret
    exact ⟨by rw [HI.out]; rfl, hw1⟩
  | true =>
    obtain ⟨y0, d0, d1, d2, d3, d4, d5, d6, d7, d8, d9⟩ := id hy1
    go_wp2_with fail
    refine (HV'.out _ hw1).mono ?_
    rintro e w2 ⟨rfl, hb2⟩
    have hw2 := below_on hw1 hb2
    have hx2 := c10_on hx1 hb2
    have hy2 := c10_on hy1 hb2
    clear hb2 hx1 hy1 hw1 y0 d0 d1 d2 d3 d4 d5 d6 d7 d8 d9
    cases v' with
    | false =>
      go_wp2
      go_ret
      exact ⟨by rw [HI.out]; rfl, hw2⟩
    | true =>
      obtain ⟨x0, c0, c1, c2, c3, c4, c5, c6, c7, c8, c9⟩ := id hx2
      obtain ⟨y0, d0, d1, d2, d3, d4, d5, d6, d7, d8, d9⟩ := id hy2
      go_wp2_with fail
      refine (HE.out _ (hz1 (by simp)) (hz2 (by simp)) hw2).mono ?_
      rintro e w3 ⟨rfl, hb3⟩
      have hw3 := below_on hw2 hb3
      go_wp2
      go_ret
      exact ⟨by rw [HI.out]; rfl, hw3⟩

end Go.Proofs.YtbppcpaodfjpkaaDoor

/- The walk of the law that says that SameFormula answers as its model does. -/
namespace Go.Proofs.YtbppcpaodfjpkaaDoor
open Go.RowKit

theorem keep20S {W W' : World} {x y : Nat} {h h' : FH} {s s' : Value} (hx : C10 W x h s) (hy : C10 W y h' s') (hB : Below W.heap.size W W') :
    Below W.heap.size W W' ∧ (W'.cell? ⟨x, 0, none⟩ = some (.int .i64 h.k) ∧ W'.cell? ⟨x, 1, none⟩ = some (.int .i64 h.ak) ∧ W'.cell? ⟨x, 2, none⟩ = some (.int .i64 h.am) ∧ W'.cell? ⟨x, 3, none⟩ = some (.int .i64 h.a) ∧ W'.cell? ⟨x, 4, none⟩ = some (.int .i64 h.b) ∧ W'.cell? ⟨x, 5, none⟩ = some (.int .i64 h.c) ∧ W'.cell? ⟨x, 6, none⟩ = some (.int .i64 h.d) ∧ W'.cell? ⟨x, 7, none⟩ = some (.int .i64 h.n) ∧ W'.cell? ⟨x, 8, none⟩ = some (.int .i64 h.v) ∧ W'.cell? ⟨x, 9, none⟩ = some (s)) ∧ (W'.cell? ⟨y, 0, none⟩ = some (.int .i64 h'.k) ∧ W'.cell? ⟨y, 1, none⟩ = some (.int .i64 h'.ak) ∧ W'.cell? ⟨y, 2, none⟩ = some (.int .i64 h'.am) ∧ W'.cell? ⟨y, 3, none⟩ = some (.int .i64 h'.a) ∧ W'.cell? ⟨y, 4, none⟩ = some (.int .i64 h'.b) ∧ W'.cell? ⟨y, 5, none⟩ = some (.int .i64 h'.c) ∧ W'.cell? ⟨y, 6, none⟩ = some (.int .i64 h'.d) ∧ W'.cell? ⟨y, 7, none⟩ = some (.int .i64 h'.n) ∧ W'.cell? ⟨y, 8, none⟩ = some (.int .i64 h'.v) ∧ W'.cell? ⟨y, 9, none⟩ = some (s')) :=
  ⟨hB, (c10_on hx hB).2, (c10_on hy hB).2⟩

set_option maxRecDepth 100000 in
set_option maxHeartbeats 4000000 in
theorem exactSameFormula_walk (h : FH) (f : Fo) (h' : FH) (f' : Fo) (w : World) (lo lo' : Nat) (s s' : Value) (hs : FS w lo f s) (hs' : FS w lo' f' s') (hw0 : Words w) (hT0 : Tab w) :
    Calls Tryd.prog 3 #[.agg #[.int .i64 h.k, .int .i64 h.ak, .int .i64 h.am, .int .i64 h.a, .int .i64 h.b, .int .i64 h.c, .int .i64 h.d, .int .i64 h.n, .int .i64 h.v, s], .agg #[.int .i64 h'.k, .int .i64 h'.ak, .int .i64 h'.am, .int .i64 h'.a, .int .i64 h'.b, .int .i64 h'.c, .int .i64 h'.d, .int .i64 h'.n, .int .i64 h'.v, s']] w fun e w' => e = .returned (.bool true) ∧ Below w.heap.size w w' := by
  have HS := Lib.hid hs
  have HS' := Lib.hid hs'
  have HWD := Lib.hid hw0
  have HTB := Lib.hid hT0
  have HSP := Lib.hid fun W lo lo' s s' hs hs' => specSameFormula_any h f h' f' W lo lo' s s' hs hs'
  have HIM := Lib.hid fun W lo lo' s s' hs hs' h1 h2 => SameFormula_any h f h' f' W lo lo' s s' hs hs' h1 h2
  obtain ⟨sa, sn, sc, rfl⟩ := hs.slice
  obtain ⟨ta, tn, tc, rfl⟩ := hs'.slice
  obtain ⟨B, hB⟩ : ∃ B, smB h f h' f' = B := ⟨_, rfl⟩
  rw [hB] at HSP HIM
  have hBB : (B != B) = false := by simp
  clear hs hs' hw0 hT0 hB
  by_cases hsz : f.size ≤ 1048576
  · have HZ : Hid (szI f.size 1048576 = ((1048576 - f.size : Nat) : Int)) := szI_pos hsz
    obtain ⟨l, hl⟩ : ∃ l : Nat, 1048576 - f.size = l := ⟨_, rfl⟩
    rw [hl] at HZ
    have hl0 : ¬ (l : Int) < 0 := by omega
    by_cases hsz2 : f'.size ≤ l
    · have HZ2 : Hid (szI f'.size l = ((l - f'.size : Nat) : Int)) := szI_pos hsz2
      obtain ⟨m, hm⟩ : ∃ m : Nat, l - f'.size = m := ⟨_, rfl⟩
      rw [hm] at HZ2
      have hm0 : ¬ (m : Int) < 0 := by omega
      have hl1 : l ≤ 1048576 := by omega
      clear hl hm
      go_enter Tryd.func3, Tryd.ntmps3
      go_wp2_with fail
      generalize hW : World.alloc _ _ = W
      have hx : C10 W w.heap.size h (.slice sa sn sc) := by subst hW; exact (by refine ⟨?_, ?_, ?_, ?_, ?_, ?_, ?_, ?_, ?_, ?_, ?_⟩ <;> first | (simp [go_sem]; done) | (simp; omega))
      have hy : C10 W (w.heap.size + 1) h' (.slice ta tn tc) := by subst hW; exact (by refine ⟨?_, ?_, ?_, ?_, ?_, ?_, ?_, ?_, ?_, ?_, ?_⟩ <;> first | (simp [go_sem]; done) | (simp; omega))
      have hw : Below w.heap.size w W := by subst hW; go_grown
      clear hW
      have HSW := Lib.hid (FS.below hw (Nat.le_refl _) HS.out)
      refine (szF_any h f W lo _ 1048576 (Nat.le_refl _) HSW.out).mono ?_
      rintro e w1 ⟨rfl, hb1⟩
      rw [HZ.out]
      have hw1 := below_on hw hb1
      have hx1 := c10_on hx hb1
      have hy1 := c10_on hy hb1
      clear hx hy hw hb1
      obtain ⟨y0, d0, d1, d2, d3, d4, d5, d6, d7, d8, d9⟩ := id hy1
      go_wp2_with fail
      refine (szF_any h' f' w1 lo' _ l (by omega) (FS.below hw1 (Nat.le_refl _) HS'.out)).mono ?_
      rintro e w2 ⟨rfl, hb2⟩
      rw [HZ2.out]
      have hw2 := below_on hw1 hb2
      have hx2 := c10_on hx1 hb2
      have hy2 := c10_on hy1 hb2
      clear hx1 hy1 hw1 hb2 y0 d0 d1 d2 d3 d4 d5 d6 d7 d8 d9
      have HTF := Lib.hid (fun W hW => tF_any h f W lo _ (by omega) (FS.below (w := w2) hW (Nat.le_refl _) (FS.below hw2 (Nat.le_refl _) HS.out)))
      have HTF' := Lib.hid (fun W hW => tF_any h' f' W lo' _ (by omega) (FS.below (w := w2) hW (Nat.le_refl _) (FS.below hw2 (Nat.le_refl _) HS'.out)))
      go_wp2_with fail
      refine wp_region_held_drew (S := (fun w' => Below w2.heap.size w2 w' ∧ (w'.cell? ⟨w.heap.size, 0, none⟩ = some (.int .i64 h.k) ∧ w'.cell? ⟨w.heap.size, 1, none⟩ = some (.int .i64 h.ak) ∧ w'.cell? ⟨w.heap.size, 2, none⟩ = some (.int .i64 h.am) ∧ w'.cell? ⟨w.heap.size, 3, none⟩ = some (.int .i64 h.a) ∧ w'.cell? ⟨w.heap.size, 4, none⟩ = some (.int .i64 h.b) ∧ w'.cell? ⟨w.heap.size, 5, none⟩ = some (.int .i64 h.c) ∧ w'.cell? ⟨w.heap.size, 6, none⟩ = some (.int .i64 h.d) ∧ w'.cell? ⟨w.heap.size, 7, none⟩ = some (.int .i64 h.n) ∧ w'.cell? ⟨w.heap.size, 8, none⟩ = some (.int .i64 h.v) ∧ w'.cell? ⟨w.heap.size, 9, none⟩ = some (.slice sa sn sc)) ∧ (w'.cell? ⟨w.heap.size + 1, 0, none⟩ = some (.int .i64 h'.k) ∧ w'.cell? ⟨w.heap.size + 1, 1, none⟩ = some (.int .i64 h'.ak) ∧ w'.cell? ⟨w.heap.size + 1, 2, none⟩ = some (.int .i64 h'.am) ∧ w'.cell? ⟨w.heap.size + 1, 3, none⟩ = some (.int .i64 h'.a) ∧ w'.cell? ⟨w.heap.size + 1, 4, none⟩ = some (.int .i64 h'.b) ∧ w'.cell? ⟨w.heap.size + 1, 5, none⟩ = some (.int .i64 h'.c) ∧ w'.cell? ⟨w.heap.size + 1, 6, none⟩ = some (.int .i64 h'.d) ∧ w'.cell? ⟨w.heap.size + 1, 7, none⟩ = some (.int .i64 h'.n) ∧ w'.cell? ⟨w.heap.size + 1, 8, none⟩ = some (.int .i64 h'.v) ∧ w'.cell? ⟨w.heap.size + 1, 9, none⟩ = some (.slice ta tn tc)))) (by kernel_rfl) ?_ (fun hHeld => ?_)
      · try dsimp only
        exact keep20S hx2 hy2 (by go_grown)
      refine wpAnyH_take (i := 0) (oi := { dst := some 20, op := Go.Op.load 28 (Go.Operand.tmp 2), type := 28, pos := "exact.go:3403", after := #[], guard := none }) (v := ?_) rfl (by kernel_rfl) (by kernel_rfl) (by kernel_rfl) (fun _ _ _ h => h) (Or.inl ⟨by rfl, ?_⟩) (by assumption) ?_
      rotate_left
      · (intro w hSw; (try dsimp only at hSw); first | (go_simp; done) | (go_simp; with_reducible rfl))
      try simp only [Act.put, List.setIfInBounds_toArray, List.set_cons_zero, List.set_cons_succ]
      refine wpAnyH_take (i := 2) (oi := { dst := some 22, op := Go.Op.load 28 (Go.Operand.tmp 3), type := 28, pos := "exact.go:3403", after := #[], guard := none }) (v := ?_) rfl (by kernel_rfl) (by kernel_rfl) (by kernel_rfl) (fun _ _ _ h => h) (Or.inl ⟨by rfl, ?_⟩) (by assumption) ?_
      rotate_left
      · (intro w hSw; (try dsimp only at hSw); first | (go_simp; done) | (go_simp; with_reducible rfl))
      try simp only [Act.put, List.setIfInBounds_toArray, List.set_cons_zero, List.set_cons_succ]
      refine wpAnyH_ready (rs := [1]) (by kernel_rfl) (by simp) ?_
      refine AllReadyH.cons (o := { dst := some 21, op := Go.Op.call { callee := Go.Callee.value (Go.Operand.func 8), args := #[Go.Operand.tmp 20], argTypes := #[28] }, type := 36, pos := "exact.go:3403", after := #[{ on := 0, ground := Go.Ground.data }], guard := none }) rfl (fun K hK => ?_) AllReadyH.nil
      go_simp
      (go_at_call 8; refine (HTF.out _ (by go_grown)).mono ?_; rintro e w3 ⟨s3, rfl, hs3, hb3⟩; have hbb3 := below_on (w := w2) (by go_grown) hb3; have hsb3 : w2.heap.size ≤ w3.heap.size := hbb3.size)
      (try go_wp2_with fail)
      refine hK.out _ _ ?_ (fun hHeld => ?_)
      · try dsimp only
        exact keep20S hx2 hy2 (by go_grown)
      clear hK K
      try simp only [Act.put, List.setIfInBounds_toArray, List.set_cons_zero, List.set_cons_succ]
      refine wpAnyH_ready (rs := [3]) (by kernel_rfl) (by simp) ?_
      refine AllReadyH.cons (o := { dst := some 23, op := Go.Op.call { callee := Go.Callee.value (Go.Operand.func 8), args := #[Go.Operand.tmp 22], argTypes := #[28] }, type := 36, pos := "exact.go:3403", after := #[{ on := 2, ground := Go.Ground.data }, { on := 1, ground := Go.Ground.chain }], guard := none }) rfl (fun K hK => ?_) AllReadyH.nil
      go_simp
      (go_at_call 8; refine (HTF'.out _ (by go_grown)).mono ?_; rintro e w4 ⟨s4, rfl, hs4, hb4⟩; have hbb4 := below_on (w := w2) (by go_grown) hb4; have hs34 := FS.below hb4 (Nat.le_refl _) hs3; have hsb4 : w2.heap.size ≤ w4.heap.size := hbb4.size)
      (try go_wp2_with fail)
      refine hK.out _ _ ?_ (fun hHeld => ?_)
      · try dsimp only
        exact keep20S hx2 hy2 (by go_grown)
      clear hK K
      try simp only [Act.put, List.setIfInBounds_toArray, List.set_cons_zero, List.set_cons_succ]
      refine wpAnyH_ready (rs := [4]) (by kernel_rfl) (by simp) ?_
      refine AllReadyH.cons (o := { dst := some 24, op := Go.Op.call { callee := Go.Callee.value (Go.Operand.func 7), args := #[Go.Operand.tmp 21, Go.Operand.tmp 23], argTypes := #[36, 36] }, type := 4, pos := "exact.go:3403", after := #[{ on := 1, ground := Go.Ground.data }, { on := 3, ground := Go.Ground.data }, { on := 3, ground := Go.Ground.chain }], guard := none }) rfl (fun K hK => ?_) AllReadyH.nil
      go_simp
      (go_at_call 7; refine (HSP.out _ _ _ _ _ hs34 hs4).mono ?_; rintro e w5 ⟨rfl, hb5⟩; have hbb5 := below_on (w := w2) (by go_grown) hb5; have hsb5 : w2.heap.size ≤ w5.heap.size := hbb5.size)
      (try go_wp2_with fail)
      refine hK.out _ _ ?_ (fun hHeld => ?_)
      · try dsimp only
        exact keep20S hx2 hy2 (by go_grown)
      clear hK K
      try simp only [Act.put, List.setIfInBounds_toArray, List.set_cons_zero, List.set_cons_succ]
      refine wpAnyH_take (i := 5) (oi := { dst := some 6, op := Go.Op.assign (Go.Operand.tmp 24), type := 4, pos := "exact.go:3403", after := #[{ on := 4, ground := Go.Ground.data }, { on := 4, ground := Go.Ground.chain }, { on := 0, ground := Go.Ground.phase }, { on := 1, ground := Go.Ground.phase }, { on := 2, ground := Go.Ground.phase }, { on := 3, ground := Go.Ground.phase }, { on := 4, ground := Go.Ground.phase }], guard := none }) (v := ?_) rfl (by kernel_rfl) (by kernel_rfl) (by kernel_rfl) (fun _ _ _ h => h) (Or.inl ⟨by rfl, ?_⟩) (by assumption) ?_
      rotate_left
      · (intro w hSw; (try dsimp only at hSw); first | (go_simp; done) | (go_simp; with_reducible rfl))
      try simp only [Act.put, List.setIfInBounds_toArray, List.set_cons_zero, List.set_cons_succ]
      refine wpAnyH_done (by kernel_rfl) ?_ _
      have hw5 := below_on hw2 hbb5
      have hx5 := c10_on hx2 hbb5
      have hy5 := c10_on hy2 hbb5
      clear hx2 hy2 hw2 hb3 hb4 hb5 hbb3 hbb4 hbb5 hs3 hs4 hs34 hHeld
      obtain ⟨x0, c0, c1, c2, c3, c4, c5, c6, c7, c8, c9⟩ := id hx5
      go_wp2_with fail
      refine (tF_any h f w5 lo _ (by omega) (FS.below hw5 (Nat.le_refl _) HS.out)).mono ?_
      rintro e w6 ⟨s6, rfl, hs6, hb6⟩
      obtain ⟨pa, pn, pc, rfl⟩ := hs6.slice
      have HS6 := Lib.hid hs6
      have hw6 := below_on hw5 hb6
      have hx6 := c10_on hx5 hb6
      have hy6 := c10_on hy5 hb6
      clear hs6 hx5 hy5 hw5 hb6 c0 c1 c2 c3 c4 c5 c6 c7 c8 c9 x0
      go_upto_region 10 with fail
      generalize hW7 : World.alloc _ _ = w7
      have hb7 : Below w6.heap.size w6 w7 := by subst hW7; go_grown
      have hp7 : C10 w7 w6.heap.size h (.slice pa pn pc) := by subst hW7; exact (by refine ⟨?_, ?_, ?_, ?_, ?_, ?_, ?_, ?_, ?_, ?_, ?_⟩ <;> first | (simp [go_sem]; done) | (simp; omega))
      have hw7 := below_on hw6 hb7
      have hx7 := c10_on hx6 hb7
      have hy7 := c10_on hy6 hb7
      have HS7 := Lib.hid (FS.below hb7 (Nat.le_refl _) HS6.out)
      clear hW7 hb7 hx6 hy6 hw6
      obtain ⟨y0, d0, d1, d2, d3, d4, d5, d6, d7, d8, d9⟩ := id hy7
      go_wp2_with fail
      refine (tF_any h' f' w7 lo' _ (by omega) (FS.below hw7 (Nat.le_refl _) HS'.out)).mono ?_
      rintro e w8 ⟨s8, rfl, hs8, hb8⟩
      obtain ⟨qa, qn, qc, rfl⟩ := hs8.slice
      have HQ8 := Lib.hid hs8
      have hw8 := below_on hw7 hb8
      have hx8 := c10_on hx7 hb8
      have hy8 := c10_on hy7 hb8
      have hp8 := c10_on hp7 hb8
      have HS8 := Lib.hid (FS.below hb8 (Nat.le_refl _) HS7.out)
      clear hs8 hx7 hy7 hp7 hw7 hb8 y0 d0 d1 d2 d3 d4 d5 d6 d7 d8 d9
      go_upto_region 11 with fail
      generalize hW9 : World.alloc _ _ = w9
      have hb9 : Below w8.heap.size w8 w9 := by subst hW9; go_grown
      have hq9 : C10 w9 w8.heap.size h' (.slice qa qn qc) := by subst hW9; exact (by refine ⟨?_, ?_, ?_, ?_, ?_, ?_, ?_, ?_, ?_, ?_, ?_⟩ <;> first | (simp [go_sem]; done) | (simp; omega))
      have hw9 := below_on hw8 hb9
      have hx9 := c10_on hx8 hb9
      have hy9 := c10_on hy8 hb9
      have hp9 := c10_on hp8 hb9
      have HS9 := Lib.hid (FS.below hb9 (Nat.le_refl _) HS8.out)
      have HQ9 := Lib.hid (FS.below hb9 (Nat.le_refl _) HQ8.out)
      clear hW9 hb9 hx8 hy8 hp8 hw8
      obtain ⟨x0, c0, c1, c2, c3, c4, c5, c6, c7, c8, c9⟩ := id hp9
      obtain ⟨y0, d0, d1, d2, d3, d4, d5, d6, d7, d8, d9⟩ := id hq9
      go_wp2_with fail
      refine (HIM.out _ _ _ _ _ HS9.out HQ9.out (words_on HWD.out hw9) (tab_on HTB.out hw9)).mono ?_
      rintro e w10 ⟨rfl, hb10⟩
      have hw10 := below_on hw9 hb10
      have hx10 := c10_on hx9 hb10
      have hy10 := c10_on hy9 hb10
      have hp10 := c10_on hp9 hb10
      have hq10 := c10_on hq9 hb10
      have HS10 := Lib.hid (FS.below hb10 (Nat.le_refl _) HS9.out)
      have HQ10 := Lib.hid (FS.below hb10 (Nat.le_refl _) HQ9.out)
      clear hx9 hy9 hp9 hq9 hw9 hb10 c0 c1 c2 c3 c4 c5 c6 c7 c8 c9 x0 y0 d0 d1 d2 d3 d4 d5 d6 d7 d8 d9
      have HT1 := Lib.hid (fun W hW => tF_any h f W lo _ (by omega) (FS.below (w := w10) hW (Nat.le_refl _) (FS.below hw10 (Nat.le_refl _) HS.out)))
      have HE1 := Lib.hid (fun W lo' s' hW hs' => eqF_any h f W _ lo' _ s' (FS.below (w := w10) hW (Nat.le_refl _) HS10.out) hs')
      go_wp2_with fail
      refine wp_region_held_drew (S := (fun w' => Below w10.heap.size w10 w' ∧ (w'.cell? ⟨w.heap.size, 0, none⟩ = some (.int .i64 h.k) ∧ w'.cell? ⟨w.heap.size, 1, none⟩ = some (.int .i64 h.ak) ∧ w'.cell? ⟨w.heap.size, 2, none⟩ = some (.int .i64 h.am) ∧ w'.cell? ⟨w.heap.size, 3, none⟩ = some (.int .i64 h.a) ∧ w'.cell? ⟨w.heap.size, 4, none⟩ = some (.int .i64 h.b) ∧ w'.cell? ⟨w.heap.size, 5, none⟩ = some (.int .i64 h.c) ∧ w'.cell? ⟨w.heap.size, 6, none⟩ = some (.int .i64 h.d) ∧ w'.cell? ⟨w.heap.size, 7, none⟩ = some (.int .i64 h.n) ∧ w'.cell? ⟨w.heap.size, 8, none⟩ = some (.int .i64 h.v) ∧ w'.cell? ⟨w.heap.size, 9, none⟩ = some (.slice sa sn sc)) ∧ (w'.cell? ⟨w6.heap.size, 0, none⟩ = some (.int .i64 h.k) ∧ w'.cell? ⟨w6.heap.size, 1, none⟩ = some (.int .i64 h.ak) ∧ w'.cell? ⟨w6.heap.size, 2, none⟩ = some (.int .i64 h.am) ∧ w'.cell? ⟨w6.heap.size, 3, none⟩ = some (.int .i64 h.a) ∧ w'.cell? ⟨w6.heap.size, 4, none⟩ = some (.int .i64 h.b) ∧ w'.cell? ⟨w6.heap.size, 5, none⟩ = some (.int .i64 h.c) ∧ w'.cell? ⟨w6.heap.size, 6, none⟩ = some (.int .i64 h.d) ∧ w'.cell? ⟨w6.heap.size, 7, none⟩ = some (.int .i64 h.n) ∧ w'.cell? ⟨w6.heap.size, 8, none⟩ = some (.int .i64 h.v) ∧ w'.cell? ⟨w6.heap.size, 9, none⟩ = some (.slice pa pn pc)))) (by kernel_rfl) ?_ (fun hHeld => ?_)
      · try dsimp only
        exact keep20S hx10 hp10 (by go_grown)
      refine wpAnyH_take (i := 0) (oi := { dst := some 35, op := Go.Op.load 36 (Go.Operand.tmp 7), type := 36, pos := "exact.go:3410", after := #[], guard := none }) (v := ?_) rfl (by kernel_rfl) (by kernel_rfl) (by kernel_rfl) (fun _ _ _ h => h) (Or.inl ⟨by rfl, ?_⟩) (by assumption) ?_
      rotate_left
      · (intro w hSw; (try dsimp only at hSw); first | (go_simp; done) | (go_simp; with_reducible rfl))
      try simp only [Act.put, List.setIfInBounds_toArray, List.set_cons_zero, List.set_cons_succ]
      refine wpAnyH_take (i := 1) (oi := { dst := some 36, op := Go.Op.load 28 (Go.Operand.tmp 2), type := 28, pos := "exact.go:3410", after := #[], guard := none }) (v := ?_) rfl (by kernel_rfl) (by kernel_rfl) (by kernel_rfl) (fun _ _ _ h => h) (Or.inl ⟨by rfl, ?_⟩) (by assumption) ?_
      rotate_left
      · (intro w hSw; (try dsimp only at hSw); first | (go_simp; done) | (go_simp; with_reducible rfl))
      try simp only [Act.put, List.setIfInBounds_toArray, List.set_cons_zero, List.set_cons_succ]
      refine wpAnyH_ready (rs := [2]) (by kernel_rfl) (by simp) ?_
      refine AllReadyH.cons (o := { dst := some 37, op := Go.Op.call { callee := Go.Callee.value (Go.Operand.func 8), args := #[Go.Operand.tmp 36], argTypes := #[28] }, type := 36, pos := "exact.go:3410", after := #[{ on := 1, ground := Go.Ground.data }], guard := none }) rfl (fun K hK => ?_) AllReadyH.nil
      go_simp
      (go_at_call 8; refine (HT1.out _ (by go_grown)).mono ?_; rintro e w11 ⟨s11, rfl, hs11, hb11⟩; have hbb11 := below_on (w := w10) (by go_grown) hb11; have hsb11 : w10.heap.size ≤ w11.heap.size := hbb11.size)
      (try go_wp2_with fail)
      refine hK.out _ _ ?_ (fun hHeld => ?_)
      · try dsimp only
        exact keep20S hx10 hp10 (by go_grown)
      clear hK K
      try simp only [Act.put, List.setIfInBounds_toArray, List.set_cons_zero, List.set_cons_succ]
      refine wpAnyH_ready (rs := [3]) (by kernel_rfl) (by simp) ?_
      refine AllReadyH.cons (o := { dst := some 38, op := Go.Op.call { callee := Go.Callee.value (Go.Operand.func 10), args := #[Go.Operand.tmp 35, Go.Operand.tmp 37], argTypes := #[36, 36] }, type := 4, pos := "exact.go:3410", after := #[{ on := 0, ground := Go.Ground.data }, { on := 2, ground := Go.Ground.data }, { on := 2, ground := Go.Ground.chain }], guard := none }) rfl (fun K hK => ?_) AllReadyH.nil
      go_simp
      (go_at_call 10; refine (HE1.out _ _ _ (by go_grown) hs11).mono ?_; rintro e w12 ⟨rfl, hb12⟩; have hbb12 := below_on hbb11 hb12; have hsb12 : w10.heap.size ≤ w12.heap.size := hbb12.size)
      (try go_wp2_with fail)
      refine hK.out _ _ ?_ (fun hHeld => ?_)
      · try dsimp only
        exact keep20S hx10 hp10 (by go_grown)
      clear hK K
      try simp only [Act.put, List.setIfInBounds_toArray, List.set_cons_zero, List.set_cons_succ]
      refine wpAnyH_take (i := 4) (oi := { dst := some 39, op := Go.Op.unOp Go.UnOp.not 4 (Go.Operand.tmp 38), type := 4, pos := "exact.go:3410", after := #[{ on := 3, ground := Go.Ground.data }], guard := none }) (v := ?_) rfl (by kernel_rfl) (by kernel_rfl) (by kernel_rfl) (fun _ _ _ h => h) (Or.inl ⟨by rfl, ?_⟩) (by assumption) ?_
      rotate_left
      · (intro w hSw; (try dsimp only at hSw); first | (go_simp; done) | (go_simp; with_reducible rfl))
      try simp only [Act.put, List.setIfInBounds_toArray, List.set_cons_zero, List.set_cons_succ]
      refine wpAnyH_done (by kernel_rfl) ?_ _
      have hw12 := below_on hw10 hbb12
      have hy12 := c10_on hy10 hbb12
      have hq12 := c10_on hq10 hbb12
      have HQ12 := Lib.hid (FS.below hbb12 (Nat.le_refl _) HQ10.out)
      clear hx10 hy10 hp10 hq10 hw10 hb11 hb12 hbb11 hbb12 hs11 hHeld
      have HT2 := Lib.hid (fun W hW => tF_any h' f' W lo' _ (by omega) (FS.below (w := w12) hW (Nat.le_refl _) (FS.below hw12 (Nat.le_refl _) HS'.out)))
      have HE2 := Lib.hid (fun W lo' s' hW hs' => eqF_any h' f' W _ lo' _ s' (FS.below (w := w12) hW (Nat.le_refl _) HQ12.out) hs')
      go_wp2_with fail
      refine wp_region_held_drew (S := (fun w' => Below w12.heap.size w12 w' ∧ (w'.cell? ⟨w.heap.size + 1, 0, none⟩ = some (.int .i64 h'.k) ∧ w'.cell? ⟨w.heap.size + 1, 1, none⟩ = some (.int .i64 h'.ak) ∧ w'.cell? ⟨w.heap.size + 1, 2, none⟩ = some (.int .i64 h'.am) ∧ w'.cell? ⟨w.heap.size + 1, 3, none⟩ = some (.int .i64 h'.a) ∧ w'.cell? ⟨w.heap.size + 1, 4, none⟩ = some (.int .i64 h'.b) ∧ w'.cell? ⟨w.heap.size + 1, 5, none⟩ = some (.int .i64 h'.c) ∧ w'.cell? ⟨w.heap.size + 1, 6, none⟩ = some (.int .i64 h'.d) ∧ w'.cell? ⟨w.heap.size + 1, 7, none⟩ = some (.int .i64 h'.n) ∧ w'.cell? ⟨w.heap.size + 1, 8, none⟩ = some (.int .i64 h'.v) ∧ w'.cell? ⟨w.heap.size + 1, 9, none⟩ = some (.slice ta tn tc)) ∧ (w'.cell? ⟨w8.heap.size, 0, none⟩ = some (.int .i64 h'.k) ∧ w'.cell? ⟨w8.heap.size, 1, none⟩ = some (.int .i64 h'.ak) ∧ w'.cell? ⟨w8.heap.size, 2, none⟩ = some (.int .i64 h'.am) ∧ w'.cell? ⟨w8.heap.size, 3, none⟩ = some (.int .i64 h'.a) ∧ w'.cell? ⟨w8.heap.size, 4, none⟩ = some (.int .i64 h'.b) ∧ w'.cell? ⟨w8.heap.size, 5, none⟩ = some (.int .i64 h'.c) ∧ w'.cell? ⟨w8.heap.size, 6, none⟩ = some (.int .i64 h'.d) ∧ w'.cell? ⟨w8.heap.size, 7, none⟩ = some (.int .i64 h'.n) ∧ w'.cell? ⟨w8.heap.size, 8, none⟩ = some (.int .i64 h'.v) ∧ w'.cell? ⟨w8.heap.size, 9, none⟩ = some (.slice qa qn qc)))) (by kernel_rfl) ?_ (fun hHeld => ?_)
      · try dsimp only
        exact keep20S hy12 hq12 (by go_grown)
      refine wpAnyH_take (i := 0) (oi := { dst := some 40, op := Go.Op.load 36 (Go.Operand.tmp 8), type := 36, pos := "exact.go:3413", after := #[], guard := none }) (v := ?_) rfl (by kernel_rfl) (by kernel_rfl) (by kernel_rfl) (fun _ _ _ h => h) (Or.inl ⟨by rfl, ?_⟩) (by assumption) ?_
      rotate_left
      · (intro w hSw; (try dsimp only at hSw); first | (go_simp; done) | (go_simp; with_reducible rfl))
      try simp only [Act.put, List.setIfInBounds_toArray, List.set_cons_zero, List.set_cons_succ]
      refine wpAnyH_take (i := 1) (oi := { dst := some 41, op := Go.Op.load 28 (Go.Operand.tmp 3), type := 28, pos := "exact.go:3413", after := #[], guard := none }) (v := ?_) rfl (by kernel_rfl) (by kernel_rfl) (by kernel_rfl) (fun _ _ _ h => h) (Or.inl ⟨by rfl, ?_⟩) (by assumption) ?_
      rotate_left
      · (intro w hSw; (try dsimp only at hSw); first | (go_simp; done) | (go_simp; with_reducible rfl))
      try simp only [Act.put, List.setIfInBounds_toArray, List.set_cons_zero, List.set_cons_succ]
      refine wpAnyH_ready (rs := [2]) (by kernel_rfl) (by simp) ?_
      refine AllReadyH.cons (o := { dst := some 42, op := Go.Op.call { callee := Go.Callee.value (Go.Operand.func 8), args := #[Go.Operand.tmp 41], argTypes := #[28] }, type := 36, pos := "exact.go:3413", after := #[{ on := 1, ground := Go.Ground.data }], guard := none }) rfl (fun K hK => ?_) AllReadyH.nil
      go_simp
      (go_at_call 8; refine (HT2.out _ (by go_grown)).mono ?_; rintro e w13 ⟨s13, rfl, hs13, hb13⟩; have hbb13 := below_on (w := w12) (by go_grown) hb13; have hsb13 : w12.heap.size ≤ w13.heap.size := hbb13.size)
      (try go_wp2_with fail)
      refine hK.out _ _ ?_ (fun hHeld => ?_)
      · try dsimp only
        exact keep20S hy12 hq12 (by go_grown)
      clear hK K
      try simp only [Act.put, List.setIfInBounds_toArray, List.set_cons_zero, List.set_cons_succ]
      refine wpAnyH_ready (rs := [3]) (by kernel_rfl) (by simp) ?_
      refine AllReadyH.cons (o := { dst := some 43, op := Go.Op.call { callee := Go.Callee.value (Go.Operand.func 10), args := #[Go.Operand.tmp 40, Go.Operand.tmp 42], argTypes := #[36, 36] }, type := 4, pos := "exact.go:3413", after := #[{ on := 0, ground := Go.Ground.data }, { on := 2, ground := Go.Ground.data }, { on := 2, ground := Go.Ground.chain }], guard := none }) rfl (fun K hK => ?_) AllReadyH.nil
      go_simp
      (go_at_call 10; refine (HE2.out _ _ _ (by go_grown) hs13).mono ?_; rintro e w14 ⟨rfl, hb14⟩; have hbb14 := below_on hbb13 hb14; have hsb14 : w12.heap.size ≤ w14.heap.size := hbb14.size)
      (try go_wp2_with fail)
      refine hK.out _ _ ?_ (fun hHeld => ?_)
      · try dsimp only
        exact keep20S hy12 hq12 (by go_grown)
      clear hK K
      try simp only [Act.put, List.setIfInBounds_toArray, List.set_cons_zero, List.set_cons_succ]
      refine wpAnyH_take (i := 4) (oi := { dst := some 44, op := Go.Op.unOp Go.UnOp.not 4 (Go.Operand.tmp 43), type := 4, pos := "exact.go:3413", after := #[{ on := 3, ground := Go.Ground.data }], guard := none }) (v := ?_) rfl (by kernel_rfl) (by kernel_rfl) (by kernel_rfl) (fun _ _ _ h => h) (Or.inl ⟨by rfl, ?_⟩) (by assumption) ?_
      rotate_left
      · (intro w hSw; (try dsimp only at hSw); first | (go_simp; done) | (go_simp; with_reducible rfl))
      try simp only [Act.put, List.setIfInBounds_toArray, List.set_cons_zero, List.set_cons_succ]
      refine wpAnyH_done (by kernel_rfl) ?_ _
      have hw14 := below_on hw12 hbb14
      go_wp2
      go_ret
      exact ⟨rfl, hw14⟩
    · have HZ2 : Hid (szI f'.size l = -1) := szI_neg (by omega)
      have hl1 : l ≤ 1048576 := by omega
      clear hl
      go_enter Tryd.func3, Tryd.ntmps3
      go_wp2_with fail
      generalize hW : World.alloc _ _ = W
      have hx : C10 W w.heap.size h (.slice sa sn sc) := by subst hW; exact (by refine ⟨?_, ?_, ?_, ?_, ?_, ?_, ?_, ?_, ?_, ?_, ?_⟩ <;> first | (simp [go_sem]; done) | (simp; omega))
      have hy : C10 W (w.heap.size + 1) h' (.slice ta tn tc) := by subst hW; exact (by refine ⟨?_, ?_, ?_, ?_, ?_, ?_, ?_, ?_, ?_, ?_, ?_⟩ <;> first | (simp [go_sem]; done) | (simp; omega))
      have hw : Below w.heap.size w W := by subst hW; go_grown
      clear hW
      have HSW := Lib.hid (FS.below hw (Nat.le_refl _) HS.out)
      refine (szF_any h f W lo _ 1048576 (Nat.le_refl _) HSW.out).mono ?_
      rintro e w1 ⟨rfl, hb1⟩
      rw [HZ.out]
      have hw1 := below_on hw hb1
      have hx1 := c10_on hx hb1
      have hy1 := c10_on hy hb1
      clear hx hy hw hb1
      obtain ⟨y0, d0, d1, d2, d3, d4, d5, d6, d7, d8, d9⟩ := id hy1
      go_wp2_with fail
      refine (szF_any h' f' w1 lo' _ l (by omega) (FS.below hw1 (Nat.le_refl _) HS'.out)).mono ?_
      rintro e w2 ⟨rfl, hb2⟩
      rw [HZ2.out]
      have hw2 := below_on hw1 hb2
      have hx2 := c10_on hx1 hb2
      have hy2 := c10_on hy1 hb2
      clear hx1 hy1 hw1 hb2 y0 d0 d1 d2 d3 d4 d5 d6 d7 d8 d9
      go_wp2
      go_ret
      exact ⟨rfl, hw2⟩
  · have HZ : Hid (szI f.size 1048576 = -1) := szI_neg (by omega)
    go_enter Tryd.func3, Tryd.ntmps3
    go_wp2_with fail
    generalize hW : World.alloc _ _ = W
    have hx : C10 W w.heap.size h (.slice sa sn sc) := by subst hW; exact (by refine ⟨?_, ?_, ?_, ?_, ?_, ?_, ?_, ?_, ?_, ?_, ?_⟩ <;> first | (simp [go_sem]; done) | (simp; omega))
    have hy : C10 W (w.heap.size + 1) h' (.slice ta tn tc) := by subst hW; exact (by refine ⟨?_, ?_, ?_, ?_, ?_, ?_, ?_, ?_, ?_, ?_, ?_⟩ <;> first | (simp [go_sem]; done) | (simp; omega))
    have hw : Below w.heap.size w W := by subst hW; go_grown
    clear hW
    have HSW := Lib.hid (FS.below hw (Nat.le_refl _) HS.out)
    refine (szF_any h f W lo _ 1048576 (Nat.le_refl _) HSW.out).mono ?_
    rintro e w1 ⟨rfl, hb1⟩
    rw [HZ.out]
    have hw1 := below_on hw hb1
    have hx1 := c10_on hx hb1
    have hy1 := c10_on hy hb1
    clear hx hy hw hb1
    go_wp2
    go_ret
    exact ⟨rfl, hw1⟩

end Go.Proofs.YtbppcpaodfjpkaaDoor
