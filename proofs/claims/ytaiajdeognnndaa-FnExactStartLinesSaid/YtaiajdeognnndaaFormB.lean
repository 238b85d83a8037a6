/- Contracts of the laws' own functions on formulas: toFormulaS, toFormula (a copy in new memory), eqFormulaS, eqFormula (of equal formulas). -/
import Derived.Test.YtaiajdeognnndaaFormA
import Derived.Test.YtaiajdeognnndaaAtC
import Derived.Deep.RegionWith
namespace Go.Proofs.Ytaiajdeognnndaa
open Go.RowKit

def EqS (f : Fo) : Prop := ∀ (w : World) (lo lo' : Nat) (s s' : Value), FS w lo f s → FS w lo' f s' →
  Calls Try.prog 49 #[s, s'] w fun e w' => e = .returned (.bool true) ∧ Below w.heap.size w w'

def EqF (h : FH) (f : Fo) : Prop := ∀ (w : World) (lo lo' : Nat) (s s' : Value), FS w lo f s → FS w lo' f s' →
  Calls Try.prog 24 #[.agg #[.int .i64 h.k, .int .i64 h.ak, .int .i64 h.am, .int .i64 h.a, .int .i64 h.b, .int .i64 h.c, .int .i64 h.d, .int .i64 h.n, .int .i64 h.v, s], .agg #[.int .i64 h.k, .int .i64 h.ak, .int .i64 h.am, .int .i64 h.a, .int .i64 h.b, .int .i64 h.c, .int .i64 h.d, .int .i64 h.n, .int .i64 h.v, s']] w fun e w' => e = .returned (.bool true) ∧ Below w.heap.size w w'

/-- The ten cells of a box with a formula. -/
def C10 (w : World) (x : Nat) (h : FH) (s : Value) : Prop := x < w.heap.size ∧ w.cell? ⟨x, 0, none⟩ = some (.int .i64 h.k) ∧ w.cell? ⟨x, 1, none⟩ = some (.int .i64 h.ak) ∧ w.cell? ⟨x, 2, none⟩ = some (.int .i64 h.am) ∧
  w.cell? ⟨x, 3, none⟩ = some (.int .i64 h.a) ∧ w.cell? ⟨x, 4, none⟩ = some (.int .i64 h.b) ∧ w.cell? ⟨x, 5, none⟩ = some (.int .i64 h.c) ∧ w.cell? ⟨x, 6, none⟩ = some (.int .i64 h.d) ∧ w.cell? ⟨x, 7, none⟩ = some (.int .i64 h.n) ∧ w.cell? ⟨x, 8, none⟩ = some (.int .i64 h.v) ∧ w.cell? ⟨x, 9, none⟩ = some s
theorem c10_on {W w' : World} {x : Nat} {h : FH} {s : Value} (hc : C10 W x h s) (hb : Below W.heap.size W w') : C10 w' x h s := by
  have f : ∀ o, w'.cell? ⟨x, o, none⟩ = W.cell? ⟨x, o, none⟩ := fun o => (bcell hb).1 x o hc.1
  obtain ⟨h0, h1⟩ := hc
  exact ⟨Nat.lt_of_lt_of_le h0 hb.size, by simpa only [f] using h1⟩

set_option maxHeartbeats 1000000 in
theorem eqF_of {h : FH} {f : Fo} (HS : EqS f) : EqF h f := by
  intro w lo lo' s s' hs hs'
  have H := Lib.hid HS
  have HF := Lib.hid hs
  have HF' := Lib.hid hs'
  clear HS hs hs'
  go_enter Try.func24, Try.ntmps24
  go_wp2_with fail
  generalize hW : (w.alloc (.cells #[.int .i64 h.k, .int .i64 h.ak, .int .i64 h.am, .int .i64 h.a, .int .i64 h.b, .int .i64 h.c, .int .i64 h.d, .int .i64 h.n, .int .i64 h.v, s] 52)).alloc (.cells #[.int .i64 h.k, .int .i64 h.ak, .int .i64 h.am, .int .i64 h.a, .int .i64 h.b, .int .i64 h.c, .int .i64 h.d, .int .i64 h.n, .int .i64 h.v, s'] 52) = W
  have hx : C10 W w.heap.size h s := by subst hW; exact (by refine ⟨?_, ?_, ?_, ?_, ?_, ?_, ?_, ?_, ?_, ?_, ?_⟩ <;> first | (simp [go_sem]; done) | (simp; omega))
  have hy : C10 W (w.heap.size + 1) h s' := by subst hW; exact (by refine ⟨?_, ?_, ?_, ?_, ?_, ?_, ?_, ?_, ?_, ?_, ?_⟩ <;> first | (simp [go_sem]; done) | (simp; omega))
  have hw : Below w.heap.size w W := by subst hW; go_grown
  clear hW
  refine (eqAtom_same _ _ _ _ _ _ _ _).mono ?_
  rintro e w1 ⟨rfl, hb1⟩
  have hw1 := below_on hw hb1
  obtain ⟨x0, c0, c1, c2, c3, c4, c5, c6, c7, c8, c9⟩ := c10_on hx hb1
  obtain ⟨y0, d0, d1, d2, d3, d4, d5, d6, d7, d8, d9⟩ := c10_on hy hb1
  go_wp2_with fail
  refine (H.out w1 lo lo' s s' (FS.below hw1 (Nat.le_refl _) HF.out) (FS.below hw1 (Nat.le_refl _) HF'.out)).mono ?_
  rintro e w2 ⟨rfl, hb2⟩
  go_wp2
  go_ret
  exact ⟨rfl, below_on hw1 hb2⟩

def EqR (f : Fo) (b o b' o' lo lo' : Nat) (w : World) (i : Value) (wr : World) : Prop :=
  ∃ (k : Nat) (r : Fo), i = .int .i64 k ∧ k + r.len = f.len ∧ r.size ≤ f.size ∧ FEl wr lo r b (o + k * 10) ∧ FEl wr lo' r b' (o' + k * 10) ∧ Below w.heap.size w wr

set_option maxHeartbeats 1000000 in
theorem eqS_of {f : Fo} (HF : ∀ h s, s.size < f.size → EqF h s) : EqS f := by
  intro w lo lo' s s' hs hs'
  have H := Lib.hid HF
  clear HF
  rcases hs with ⟨h0, x, cap, rfl, _, _⟩ | ⟨h0, b, o, cap, rfl, hc1, hc2, hlo, hb, hel⟩
  · obtain rfl : f = .nil := Fo.len_zero h0
    rcases hs' with ⟨_, x', cap', rfl, _, _⟩ | ⟨h0', _⟩
    · clear h0
      go_enter Try.func49, Try.ntmps49
      go_wp2
      refine wp_loop_rounds 1 ?_
      rw [rounds_succ]
      go_wp2
      go_ret
      exact ⟨rfl, Below.refl _ _⟩
    · exact absurd h0' (by simp [Fo.len])
  · rcases hs' with ⟨h1, _⟩ | ⟨_, b', o', cap', rfl, hc1', hc2', hlo', hb', hel'⟩
    · exact absurd h1 (by omega)
    · have HST := Lib.hid (show EqR f b o b' o' lo lo' w (.int .i64 0) w from ⟨0, f, rfl, by omega, Nat.le_refl _, by simpa using hel, by simpa using hel', Below.refl _ _⟩)
      unfold maxLen at hc2 hc2'
      clear hel hel'
      go_enter Try.func49, Try.ntmps49
      go_wp2
      go_loopw [5] (fun i wr => EqR f b o b' o' lo lo' w i wr) (fun i _ => f.len - (intOf i).toNat)
      case atStart => exact HST.out
      case round =>
        obtain ⟨k, r, rfl, hk, hdr, hr, hr', hbw⟩ := hrel
        clear HST
        cases r with
        | nil =>
          simp only [Fo.len] at hk
          have hkl : ¬ k < f.len := by omega
          go_wp2
          go_ret
          exact ⟨rfl, hbw⟩
        | cons h' s' r' =>
          simp only [Fo.len] at hk
          simp only [Fo.size] at hdr
          have hkl : k < f.len := by omega
          have hkl0 : (0 : Int) ≤ k := by omega
          have hkl1 : (k : Int) < f.len := by omega
          obtain ⟨⟨sl, hrow, hsl⟩, hrest⟩ := hr
          obtain ⟨⟨sl', hrow', hsl'⟩, hrest'⟩ := hr'
          have HC := Lib.hid (fun W hW => H.out h' s' (by omega) W lo lo' sl sl' (FS.below (w := wr) hW (Nat.le_refl _) hsl) (FS.below (w := wr) hW (Nat.le_refl _) hsl'))
          have HB := Lib.hid hbw
          have HR := Lib.hid hrest
          have HR' := Lib.hid hrest'
          obtain ⟨c0, c1, c2, c3, c4, c5, c6, c7, c8, c9⟩ := hrow
          obtain ⟨d0, d1, d2, d3, d4, d5, d6, d7, d8, d9⟩ := hrow'
          clear hsl hrest hsl' hrest' hbw
          go_wp2_with fail
          go_region_with (go_at_call 24; (with_reducible refine (HC.out _ (by go_grown)).mono ?_); rintro e w1 ⟨rfl, hb1⟩)
          all_goals
            have hb2 : Below wr.heap.size wr w1 := below_on (by go_grown) hb1
            have HR1 := Lib.hid (FEl.below hb2 (Nat.le_refl _) hlo (Nat.lt_of_lt_of_le hb HB.out.size) HR.out)
            have HR1' := Lib.hid (FEl.below hb2 (Nat.le_refl _) hlo' (Nat.lt_of_lt_of_le hb' HB.out.size) HR'.out)
            have HB1 := Lib.hid (below_on HB.out hb2)
            clear c0 c1 c2 c3 c4 c5 c6 c7 c8 c9 d0 d1 d2 d3 d4 d5 d6 d7 d8 d9 hb1 hb2
            go_wp2
            go_roundw
            case rel => exact ⟨k + 1, r', by go_num, by omega, by omega, by rw [show o + (k + 1) * 10 = o + k * 10 + 10 by omega]; exact HR1.out, by rw [show o' + (k + 1) * 10 = o' + k * 10 + 10 by omega]; exact HR1'.out, HB1.out⟩
            case measure => simp [intOf]; omega

theorem eqS_any (f : Fo) : EqS f := by
  have key : ∀ N (f : Fo), f.size ≤ N → EqS f := by
    intro N
    induction N with
    | zero => intro f hf; exact eqS_of fun h s hs => absurd hs (by omega)
    | succ N ih => intro f hf; exact eqS_of fun h s hs => eqF_of (ih s (by omega))
  exact key f.size f (Nat.le_refl _)
theorem eqF_any (h : FH) (f : Fo) : EqF h f := eqF_of (eqS_any f)

end Go.Proofs.Ytaiajdeognnndaa
