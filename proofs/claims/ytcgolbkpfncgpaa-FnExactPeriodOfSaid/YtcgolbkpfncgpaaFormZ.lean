/- IsNegNormal of the program and of the model: no negation among the nodes. -/
import Derived.Test.YtcgolbkpfncgpaaFormS
import Derived.Test.YtcgolbkpfncgpaaFormI
namespace Go.Proofs.Ytcgolbkpfncgpaa
open Go.RowKit

/-- No negation in formulas. -/
def Fo.plB : Fo → Bool
  | .nil => true
  | .cons h s r => (s.plB && decide (h.k ≠ 3)) && r.plB
def plF (h : FH) (f : Fo) : Bool := f.plB && decide (h.k ≠ 3)
def ngB (h : FH) (f : Fo) : Bool := vfB h f && plF h f

theorem ne3 (k : Int) : decide (k ≠ 3) = (k != 3) := by by_cases e : k = 3 <;> simp [e]
def isNot (p : FH × List Value) : Bool := decide (p.1.k = 3)
theorem fl2_pl (f : Fo) : f.fl2.any isNot = !f.plB := by
  induction f with
  | nil => rfl
  | cons h s r ih1 ih2 =>
    simp only [Fo.fl2, Fo.plB, List.any_cons, List.any_append, ih1, ih2, isNot]
    by_cases e : h.k = 3
    · simp [e]
    · simp [e]
theorem fl2_plF (h : FH) (f : Fo) (L : List Value) : ((h, L) :: f.fl2).any isNot = !plF h f := by
  simp only [List.any_cons, fl2_pl, plF, isNot]
  by_cases e : h.k = 3
  · simp [e]
  · simp [e]

def PlF (h : FH) (f : Fo) : Prop := ∀ (w : World) (lo : Nat) (s : Value), FS w lo f s → Calls Try.prog 143 #[.agg #[.int .i64 h.k, .int .i64 h.ak, .int .i64 h.am, .int .i64 h.a, .int .i64 h.b, .int .i64 h.c, .int .i64 h.d, .int .i64 h.n, .int .i64 h.v, s]] w (BoolT (plF h f) w)

def PlR (h : FH) (f : Fo) (b o lo : Nat) (w : World) (s i : Value) (wr : World) : Prop :=
  ∃ (k : Nat) (r : Fo), i = .int .i64 k ∧ k + r.len = f.len ∧ r.size ≤ f.size ∧ r.plB = f.plB ∧ FEl w lo r b (o + k * 10) ∧ Below w.heap.size w wr ∧ C10 wr w.heap.size h s

set_option maxHeartbeats 2000000 in
theorem plF_of {h : FH} {f : Fo} (HF : ∀ h s, s.size < f.size → PlF h s) : PlF h f := by
  intro w lo s hs
  have H := Lib.hid HF
  clear HF
  rcases hs with ⟨h0, x, cap, rfl, _, _⟩ | ⟨h0, b, o, cap, rfl, hc1, hc2, hlo, hb, hel⟩
  · obtain rfl : f = .nil := Fo.len_zero h0
    clear h0
    have HN := Lib.hid (show plF h Fo.nil = decide (h.k ≠ 3) from by simp [plF, Fo.plB])
    rw [ne3] at HN
    go_enter Try.func143, Try.ntmps143
    go_wp2
    refine wp_loop_rounds 1 ?_
    rw [rounds_succ]
    go_wp2
    go_ret
    exact ⟨va_bool (by rw [HN.out]), by go_grown⟩
  · have HEL := Lib.hid hel
    unfold maxLen at hc2
    clear hel
    go_enter Try.func143, Try.ntmps143
    go_wp2_with fail
    generalize hW : World.alloc _ _ = W
    have hx : C10 W w.heap.size h (.slice (some ⟨b, o, none⟩) f.len cap) := by subst hW; exact (by refine ⟨?_, ?_, ?_, ?_, ?_, ?_, ?_, ?_, ?_, ?_, ?_⟩ <;> first | (simp [go_sem]; done) | (simp; omega))
    have hw : Below w.heap.size w W := by subst hW; go_grown
    clear hW
    have HST := Lib.hid (show PlR h f b o lo w (.slice (some ⟨b, o, none⟩) f.len cap) (.int .i64 0) W from ⟨0, f, rfl, by omega, Nat.le_refl _, rfl, by simpa using HEL.out, hw, hx⟩)
    clear hx hw
    go_loopw [3] (fun i wr => PlR h f b o lo w (.slice (some ⟨b, o, none⟩) f.len cap) i wr) (fun i _ => f.len - (intOf i).toNat)
    case atStart => exact HST.out
    case round =>
      obtain ⟨k, r, rfl, hk, hdr, hfin, hr, hbw, hx2⟩ := hrel
      have HFIN := Lib.hid hfin
      clear hfin HST
      obtain ⟨x0, c0, c1, c2, c3, c4, c5, c6, c7, c8, c9⟩ := id hx2
      cases r with
      | nil =>
        simp only [Fo.len] at hk
        have hkl : ¬ k < f.len := by omega
        have HN := Lib.hid (show plF h f = decide (h.k ≠ 3) from by rw [plF, ← HFIN.out]; simp [Fo.plB])
        rw [ne3] at HN
        go_wp2
        go_ret
        exact ⟨va_bool (by rw [HN.out]), hbw⟩
      | cons h' s' r' =>
        simp only [Fo.len] at hk
        simp only [Fo.size] at hdr
        have hkl : k < f.len := by omega
        have HR := Lib.hid hr.2
        obtain ⟨⟨sl, hrow, hsl⟩, _⟩ := FEl.below hbw (Nat.le_refl _) hlo hb hr
        clear hr
        have HC := Lib.hid (H.out h' s' (by omega) wr lo sl hsl)
        have HB := Lib.hid hbw
        have HX := Lib.hid hx2
        obtain ⟨d0, d1, d2, d3, d4, d5, d6, d7, d8, d9⟩ := hrow
        cases hq : plF h' s' with
        | false =>
          have HN := Lib.hid (show plF h f = false from by
            have e : f.plB = (plF h' s' && r'.plB) := by rw [← HFIN.out]; rfl
            rw [plF, e, hq]; rfl)
          rw [hq] at HC
          clear hsl hbw hx2 hq
          go_wp2_with fail
          refine HC.out.mono ?_
          rintro e w2 ⟨rfl, hb2⟩
          go_wp2
          go_ret
          exact ⟨va_bool (by rw [HN.out]), below_on HB.out hb2⟩
        | true =>
          have HZ := Lib.hid (show r'.plB = f.plB from by
            have e : f.plB = (plF h' s' && r'.plB) := by rw [← HFIN.out]; rfl
            rw [e, hq]; rfl)
          rw [hq] at HC
          clear hsl hbw hx2 hq
          go_wp2_with fail
          refine HC.out.mono ?_
          rintro e w2 ⟨rfl, hb2⟩
          have HB2 := Lib.hid (below_on HB.out hb2)
          have HX2 := Lib.hid (c10_on HX.out hb2)
          clear c0 c1 c2 c3 c4 c5 c6 c7 c8 c9 d0 d1 d2 d3 d4 d5 d6 d7 d8 d9 hb2
          go_wp2
          go_roundw
          case rel => exact ⟨k + 1, r', by go_num, by omega, by omega, HZ.out, by rw [show o + (k + 1) * 10 = o + k * 10 + 10 by omega]; exact HR.out, HB2.out, HX2.out⟩
          case measure => simp [intOf]; omega

theorem plF_any (h : FH) (f : Fo) : PlF h f := by
  have key : ∀ N (h : FH) (f : Fo), f.size ≤ N → PlF h f := by
    intro N
    induction N with
    | zero => intro h f hf; exact plF_of fun h s hs => absurd hs (by omega)
    | succ N ih => intro h f hf; exact plF_of fun h s hs => ih h s (by omega)
  exact key f.size h f (Nat.le_refl _)

theorem specIsNegNormal_any (h : FH) (f : Fo) (w : World) (lo : Nat) (s : Value) (hs : FS w lo f s) :
    Calls Try.prog 115 #[.agg #[.int .i64 h.k, .int .i64 h.ak, .int .i64 h.am, .int .i64 h.a, .int .i64 h.b, .int .i64 h.c, .int .i64 h.d, .int .i64 h.n, .int .i64 h.v, s]] w (BoolT (ngB h f) w) := by
  have HC := Lib.hid (fun W hW => specFormulaValid_any h f W lo s (FS.below (w := w) hW (Nat.le_refl _) hs))
  have HN := Lib.hid (fun W hW => plF_any h f W lo s (FS.below (w := w) hW (Nat.le_refl _) hs))
  obtain ⟨sa, sn, sc, rfl⟩ := hs.slice
  clear hs
  cases hv : vfB h f with
  | true =>
    have HI := Lib.hid (show ngB h f = plF h f by unfold ngB; rw [hv]; rfl)
    rw [hv] at HC
    clear hv
    go_enter Try.func115, Try.ntmps115
    go_wp2_with fail
    generalize hW : World.alloc _ _ = W
    have hx : C10 W w.heap.size h (.slice sa sn sc) := by subst hW; exact (by refine ⟨?_, ?_, ?_, ?_, ?_, ?_, ?_, ?_, ?_, ?_, ?_⟩ <;> first | (simp [go_sem]; done) | (simp; omega))
    have hw : Below w.heap.size w W := by subst hW; go_grown
    clear hW
    refine (HC.out _ hw).mono ?_
    rintro e w1 ⟨rfl, hb1⟩
    have hw1 := below_on hw hb1
    obtain ⟨x0, c0, c1, c2, c3, c4, c5, c6, c7, c8, c9⟩ := c10_on hx hb1
    go_wp2_with fail
    refine (HN.out _ hw1).mono ?_
    rintro e w2 ⟨rfl, hb2⟩
    go_wp2
    go_ret
    exact ⟨va_bool (by rw [HI.out]), below_on hw1 hb2⟩
  | false =>
    have HI := Lib.hid (show ngB h f = false by unfold ngB; rw [hv]; rfl)
    rw [hv] at HC
    clear hv
    go_enter Try.func115, Try.ntmps115
    go_wp2_with fail
    refine (HC.out _ (by go_grown)).mono ?_
    rintro e w1 ⟨rfl, hb1⟩
    go_wp2
    go_ret
    exact ⟨va_bool HI.out.symm, below_on (by go_grown) hb1⟩

theorem kind_n' (x : Array Value) (w : World) : Calls Try.prog 194 #[.agg x] w (IntT 3 w) := by
  go_enter Try.func194, Try.ntmps194
  go_wp2
  go_ret
  exact ⟨rfl, by go_grown⟩
theorem kind_p' (b : Bool) (x y : Value) (w : World) : Calls Try.prog 192 #[.agg #[.bool b, x, y]] w (IntT (if b then 4 else 5) w) := by
  cases b
  · go_enter Try.func192, Try.ntmps192
    go_wp2
    go_ret
    exact ⟨rfl, by go_grown⟩
  · go_enter Try.func192, Try.ntmps192
    go_wp2
    go_ret
    exact ⟨rfl, by go_grown⟩
theorem kind_b' (b : Bool) (v : Int) (x : Value) (w : World) : Calls Try.prog 188 #[.agg #[.bool b, .int .i64 v, x]] w (IntT (if b then 6 else 7) w) := by
  cases b
  · go_enter Try.func188, Try.ntmps188
    go_wp2
    go_ret
    exact ⟨rfl, by go_grown⟩
  · go_enter Try.func188, Try.ntmps188
    go_wp2
    go_ret
    exact ⟨rfl, by go_grown⟩

set_option maxHeartbeats 2000000 in
/-- The closure that asks whether a node is a negation. -/
theorem neg1_any (p : FH × List Value) (w : World) : Calls Try.prog 146 #[ndP p] w (BoolT (isNot p) w) := by
  obtain ⟨⟨k, ak, am, a, b, c, d, n, u⟩, l⟩ := p
  unfold ndP nd1 isNot
  dsimp only
  generalize l.getD 0 undef = x
  generalize l.getD 1 undef = y
  by_cases h0 : k = 0
  · subst h0
    have HK := Lib.hid fun W => (show Calls Try.prog 190 #[.agg #[.bool true]] W (IntT 0 W) from kind_t true W)
    go_enter Try.func146, Try.ntmps146
    go_wp2_with (go_at_call 190; refine (HK.out _).mono ?_; rintro e w1 ⟨rfl, hb1⟩)
    go_ret
    exact ⟨rfl, hb1⟩
  rw [if_neg h0]
  by_cases h1 : k = 1
  · subst h1
    have HK := Lib.hid fun W => (show Calls Try.prog 190 #[.agg #[.bool false]] W (IntT 1 W) from kind_t false W)
    go_enter Try.func146, Try.ntmps146
    go_wp2_with (go_at_call 190; refine (HK.out _).mono ?_; rintro e w1 ⟨rfl, hb1⟩)
    go_ret
    exact ⟨rfl, hb1⟩
  rw [if_neg h1]
  by_cases h3 : k = 3
  · subst h3
    have HK := Lib.hid fun W => (show Calls Try.prog 194 #[.agg #[x]] W (IntT 3 W) from kind_n' _ W)
    go_enter Try.func146, Try.ntmps146
    go_wp2_with (go_at_call 194; refine (HK.out _).mono ?_; rintro e w1 ⟨rfl, hb1⟩)
    go_ret
    exact ⟨rfl, hb1⟩
  rw [if_neg h3]
  by_cases h4 : k = 4
  · subst h4
    have HK := Lib.hid fun W => (show Calls Try.prog 192 #[.agg #[.bool true, x, y]] W (IntT 4 W) from kind_p' true x y W)
    go_enter Try.func146, Try.ntmps146
    go_wp2_with (go_at_call 192; refine (HK.out _).mono ?_; rintro e w1 ⟨rfl, hb1⟩)
    go_ret
    exact ⟨rfl, hb1⟩
  rw [if_neg h4]
  by_cases h5 : k = 5
  · subst h5
    have HK := Lib.hid fun W => (show Calls Try.prog 192 #[.agg #[.bool false, x, y]] W (IntT 5 W) from kind_p' false x y W)
    go_enter Try.func146, Try.ntmps146
    go_wp2_with (go_at_call 192; refine (HK.out _).mono ?_; rintro e w1 ⟨rfl, hb1⟩)
    go_ret
    exact ⟨rfl, hb1⟩
  rw [if_neg h5]
  by_cases h6 : k = 6
  · subst h6
    have HK := Lib.hid fun W => (show Calls Try.prog 188 #[.agg #[.bool true, .int .i64 u, x]] W (IntT 6 W) from kind_b' true u x W)
    go_enter Try.func146, Try.ntmps146
    go_wp2_with (go_at_call 188; refine (HK.out _).mono ?_; rintro e w1 ⟨rfl, hb1⟩)
    go_ret
    exact ⟨rfl, hb1⟩
  rw [if_neg h6]
  by_cases h7 : k = 7
  · subst h7
    have HK := Lib.hid fun W => (show Calls Try.prog 188 #[.agg #[.bool false, .int .i64 u, x]] W (IntT 7 W) from kind_b' false u x W)
    go_enter Try.func146, Try.ntmps146
    go_wp2_with (go_at_call 188; refine (HK.out _).mono ?_; rintro e w1 ⟨rfl, hb1⟩)
    go_ret
    exact ⟨rfl, hb1⟩
  rw [if_neg h7]
  have HE := Lib.hid (show decide (k = 3) = false from decide_eq_false h3)
  have HK := Lib.hid fun W => (show Calls Try.prog 186 #[.agg #[.int .i64 ak, .int .i64 am, .int .i64 a, .int .i64 b, .int .i64 c, .int .i64 d, .int .i64 n]] W (IntT 2 W) from kind_a _ W)
  rw [HE.out]
  clear h0 h1 h3 h4 h5 h6 h7
  go_enter Try.func146, Try.ntmps146
  go_wp2_with (go_at_call 186; refine (HK.out _).mono ?_; rintro e w1 ⟨rfl, hb1⟩)
  go_ret
  exact ⟨rfl, hb1⟩

/-- The list v holds the nodes P. -/
def RdN (w : World) (v : Value) (P : List (FH × List Value)) : Prop := ∃ g cap, v = .slice (some ⟨g, 0, none⟩) P.length cap ∧ P.length ≤ cap ∧ cap ≤ maxLen ∧ g < w.heap.size ∧ ∀ j, j < P.length → w.cell? ⟨g, j, none⟩ = (P.map ndP)[j]?

theorem any_at {P : List (FH × List Value)} {k : Nat} {p : FH × List Value} (h : P[k]? = some p) (hp : isNot p = true) : P.any isNot = true := by
  rw [List.any_eq_true]
  exact ⟨p, List.mem_of_getElem? h, hp⟩
theorem any_of {P : List (FH × List Value)} (h : ∀ (i : Nat) (x : FH × List Value), i < P.length → P[i]? = some x → isNot x = false) : P.any isNot = false := by
  rw [List.any_eq_false]
  intro x hx
  obtain ⟨i, hi, e⟩ := List.mem_iff_getElem.1 hx
  rw [h i x hi (by rw [List.getElem?_eq_getElem hi, e])]
  simp

def IdxT (b : Bool) (w : World) (e : Ending) (w' : World) : Prop := ∃ r : Int, e = .returned (.int .i64 r) ∧ decide (r ≥ 0) = b ∧ Below w.heap.size w w'

set_option maxHeartbeats 1000000 in
theorem idx_any (v : Value) (P : List (FH × List Value)) (w : World) (h : RdN w v P) : Calls Try.prog 159 #[v, .func (.func 146) #[] #[]] w (IdxT (P.any isNot) w) := by
  obtain ⟨g, cap, rfl, hc1, hc2, hg, hcells⟩ := h
  obtain ⟨N, hN⟩ : ∃ N, P.length = N := ⟨_, rfl⟩
  have HN := Lib.hid hN
  have HCL := Lib.hid hcells
  unfold maxLen at hc2
  rw [hN] at hc1 ⊢
  clear hN hcells
  go_enter Try.func159, Try.ntmps159
  go_wp2
  go_loopw [8] (fun i wr => ∃ k : Nat, i = .int .i64 k ∧ k ≤ N ∧ Below w.heap.size w wr ∧ ∀ (i : Nat) (x : FH × List Value), i < k → P[i]? = some x → isNot x = false) (fun i _ => N - (intOf i).toNat)
  case atStart => exact ⟨0, rfl, Nat.zero_le _, Below.refl _ _, fun i x h0 => absurd h0 (by omega)⟩
  case round =>
    obtain ⟨k, rfl, hk, hbw, hall⟩ := hrel
    have HA := Lib.hid hall
    have HB := Lib.hid hbw
    clear hall
    by_cases hlt : k < N
    · have hk' : (k : Int) < (N : Int) := by omega
      obtain ⟨p, hp⟩ : ∃ p, P[k]? = some p := ⟨_, List.getElem?_eq_getElem (by rw [HN.out]; exact hlt)⟩
      have hcell := (hbw.cell (p := ⟨g, k, none⟩) hg).trans (HCL.out k (by rw [HN.out]; exact hlt))
      rw [List.getElem?_map, hp, Option.map_some] at hcell
      have HY := Lib.hid hp
      obtain ⟨t, ht⟩ : ∃ t, isNot p = t := ⟨_, rfl⟩
      have HT := Lib.hid ht
      have HC := Lib.hid (fun W => neg1_any p W)
      obtain ⟨ti, y, e⟩ := nd1_iface p.1 p.2
      have e' : ndP p = .iface ti y := e
      rw [e'] at hcell HC
      rw [ht] at HC
      clear hp hbw ht e e'
      cases t with
      | true =>
        go_wp2_with (go_at_call 146; refine (HC.out _).mono ?_; rintro e w2 ⟨rfl, hb2⟩)
        go_ret
        exact ⟨_, rfl, by rw [any_at HY.out HT.out]; exact decide_eq_true (by omega), below_on HB.out hb2⟩
      | false =>
        go_wp2_with (go_at_call 146; refine (HC.out _).mono ?_; rintro e w2 ⟨rfl, hb2⟩)
        have HB2 := Lib.hid (below_on HB.out hb2)
        go_roundw
        case rel => exact ⟨k + 1, by go_num, by omega, HB2.out, fun i x h1 h2 => by
          by_cases hik : i < k
          · exact HA.out i x hik h2
          · obtain rfl : i = k := by omega
            have e := HY.out
            rw [h2] at e
            obtain rfl := Option.some.inj e
            exact HT.out⟩
        case measure => simp [intOf]; omega
    · have hk' : ¬ (k : Int) < (N : Int) := by omega
      obtain rfl : k = N := by omega
      go_wp2
      go_ret
      exact ⟨_, rfl, by rw [any_of (fun i x h1 h2 => HA.out i x (by rw [← HN.out]; exact h1) h2)]; rfl, hbw⟩

theorem con_any (v : Value) (P : List (FH × List Value)) (w : World) (h : RdN w v P) : Calls Try.prog 145 #[v, .func (.func 146) #[] #[]] w (BoolT (P.any isNot) w) := by
  have H := Lib.hid (idx_any v P w h)
  obtain ⟨g, cap, rfl, _⟩ := h
  go_enter Try.func145, Try.ntmps145
  go_wp2_with fail
  refine H.out.mono ?_
  rintro e w1 ⟨r, rfl, hr, hb⟩
  go_wp2
  go_ret
  exact ⟨rfl, hb⟩

theorem IsNegNormal_any (h : FH) (f : Fo) (w : World) (lo : Nat) (s : Value) (hs : FS w lo f s) :
    Calls Try.prog 119 #[.agg #[.int .i64 h.k, .int .i64 h.ak, .int .i64 h.am, .int .i64 h.a, .int .i64 h.b, .int .i64 h.c, .int .i64 h.d, .int .i64 h.n, .int .i64 h.v, s]] w (BoolT (ngB h f) w) := by
  have HC := Lib.hid (fun W hW => nodeOf_any h f W lo s (FS.below (w := w) hW (Nat.le_refl _) hs))
  obtain ⟨sa, sn, sc, rfl⟩ := hs.slice
  clear hs
  cases hv : vfB h f with
  | false =>
    have HI := Lib.hid (show ngB h f = false by unfold ngB; rw [hv]; rfl)
    have HV := Lib.hid (show ndV h f = .tuple #[.nilIface, .bool false] by unfold ndV; rw [if_neg (by rw [hv]; simp)])
    clear hv
    go_enter Try.func119, Try.ntmps119
    go_wp2_with fail
    refine (HC.out _ (by go_grown)).mono ?_
    rintro e w1 ⟨rfl, hb1⟩
    rw [HV.out]
    go_wp2
    go_ret
    exact ⟨va_bool HI.out.symm, below_on (by go_grown) hb1⟩
  | true =>
    obtain ⟨h1, h2, h3⟩ := vf_parts hv
    obtain ⟨P, hP⟩ : ∃ P, P = (h, f.nds) :: f.fl2 := ⟨_, rfl⟩
    have hlen : P.length = f.size + 1 := by
      have := flat_len f
      rw [fl2_flat, List.length_map] at this
      rw [hP, List.length_cons, this]
    have hL : nd1 h f.nds :: f.flat = P.map ndP := by rw [hP, fl2_flat]; rfl
    have HN := Lib.hid (fun W => nodesIn_any _ _ W (by simp [flat_len]; omega) (an_any f.size h f (Nat.le_refl _) h1 h2))
    rw [hL] at HN
    have HI := Lib.hid (show ngB h f = !P.any isNot by unfold ngB; rw [hv, hP, fl2_plF]; simp)
    have HV := Lib.hid (show ndV h f = .tuple #[nd1 h f.nds, .bool true] by unfold ndV; rw [if_pos hv])
    have hP0 : 0 < P.length := by omega
    clear hv h1 h2 h3 hL hP hlen
    go_enter Try.func119, Try.ntmps119
    go_wp2_with fail
    refine (HC.out _ (by go_grown)).mono ?_
    rintro e w1 ⟨rfl, hb1⟩
    rw [HV.out]
    have hw1 : Below w.heap.size w w1 := below_on (by go_grown) hb1
    clear hb1
    go_wp2_with fail
    refine (HN.out _).mono ?_
    rintro e w2 ⟨v2, rfl, ho2, hb2⟩
    rw [List.length_map] at ho2
    have hw2 := below_on hw1 hb2
    obtain ⟨g, cap, rfl, hcap1, hcap2, hg0, hg, hcells⟩ := own_read ho2 hP0
    have HR := Lib.hid (show RdN w2 (.slice (some ⟨g, 0, none⟩) P.length cap) P from ⟨g, cap, rfl, hcap1, hcap2, hg, hcells⟩)
    clear ho2 hb2 hcells
    go_wp2_with fail
    refine (con_any _ P _ HR.out).mono ?_
    rintro e w3 ⟨rfl, hb3⟩
    go_wp2
    go_ret
    exact ⟨va_bool (by rw [HI.out]), below_on hw2 hb3⟩

end Go.Proofs.Ytcgolbkpfncgpaa
