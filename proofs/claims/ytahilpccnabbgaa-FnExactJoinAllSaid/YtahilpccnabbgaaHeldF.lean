/- A forest whose heads are marks; the contract of heldFormulaS and heldFormula. -/
import Derived.Test.YtahilpccnabbgaaFormP
namespace Go.Proofs.Ytahilpccnabbgaa
open Go.RowKit

/-- The forest with marks from k on in its heads. -/
def Fo.mk : Int → Fo → Fo
  | _, .nil => .nil
  | k, .cons _ s r => .cons ⟨k, k + 1, k + 1 + 1, k + 1 + 1 + 1, k + 1 + 1 + 1 + 1, k + 1 + 1 + 1 + 1 + 1, k + 1 + 1 + 1 + 1 + 1 + 1, k + 1 + 1 + 1 + 1 + 1 + 1 + 1, k + 1 + 1 + 1 + 1 + 1 + 1 + 1 + 1⟩ (s.mk (k + 1 + 1 + 1 + 1 + 1 + 1 + 1 + 1 + 1)) (r.mk (k + 1 + 1 + 1 + 1 + 1 + 1 + 1 + 1 + 1 + ((s.size * 9 : Nat) : Int)))
theorem mk_len (f : Fo) : ∀ k, (f.mk k).len = f.len := by
  induction f with
  | nil => intro _; rfl
  | cons h s r _ ih => intro k; simp only [Fo.mk, Fo.len, ih]
theorem mk_size (f : Fo) : ∀ k, (f.mk k).size = f.size := by
  induction f with
  | nil => intro _; rfl
  | cons h s r ih1 ih2 => intro k; simp only [Fo.mk, Fo.size, ih1, ih2]

def HeS (f : Fo) : Prop := ∀ (w : World) (lo : Nat) (s : Value) (k : Int), FS w lo (f.mk k) s → 0 ≤ k → k + ((f.size * 9 : Nat) : Int) ≤ 20000000 →
  Calls Try.prog 39 #[s, .int .i64 k] w fun e w' => e = .returned (.int .i64 (k + ((f.size * 9 : Nat) : Int))) ∧ Below w.heap.size w w'

def HeR (f : Fo) (lo b o : Nat) (k : Int) (w : World) (i kv : Value) (wr : World) : Prop :=
  ∃ (j : Nat) (r : Fo) (q : Int), i = .int .i64 j ∧ j + r.len = f.len ∧ r.size ≤ f.size ∧ kv = .int .i64 q ∧ q = k + (((f.size - r.size) * 9 : Nat) : Int) ∧ FEl w lo (r.mk q) b (o + j * 10) ∧ Below w.heap.size w wr

set_option maxRecDepth 10000 in
set_option maxHeartbeats 2000000 in
theorem heS_of {f : Fo} (HF : ∀ s : Fo, s.size < f.size → HeS s) : HeS f := by
  intro w lo s k hs k0 k1
  have H := Lib.hid HF
  clear HF
  unfold FS at hs
  rw [mk_len] at hs
  rcases hs with ⟨h0, x, cap, rfl, _, _⟩ | ⟨h0, b, o, cap, rfl, hc1, hc2, hlo, hb, hel⟩
  · obtain rfl : f = .nil := Fo.len_zero h0
    clear h0
    have HK := Lib.hid (show k + ((Fo.nil.size * 9 : Nat) : Int) = k by simp [Fo.size])
    clear k1
    go_enter Try.func39, Try.ntmps39
    go_wp2
    refine wp_loop_rounds 1 ?_
    rw [rounds_succ]
    go_wp2
    go_ret
    exact ⟨ret_int' HK.out.symm, Below.refl _ _⟩
  · have HST := Lib.hid (show HeR f lo b o k w (.int .i64 0) (.int .i64 k) w from ⟨0, f, k, rfl, by omega, Nat.le_refl _, rfl, by simp, by simpa using hel, Below.refl _ _⟩)
    unfold maxLen at hc2
    clear hel
    go_enter Try.func39, Try.ntmps39
    go_wp2
    go_loopw [5, 1] (fun i kv wr => HeR f lo b o k w i kv wr) (fun i _ _ => f.len - (intOf i).toNat)
    case atStart => exact HST.out
    case round =>
      obtain ⟨j, r, q, rfl, hj, hdr, rfl, hq, hr, hbw⟩ := hrel
      clear HST
      have HB := Lib.hid hbw
      have HQ := Lib.hid hq
      cases r with
      | nil =>
        simp only [Fo.len] at hj
        have hkl : ¬ j < f.len := by omega
        have HE := Lib.hid (show q = k + ((f.size * 9 : Nat) : Int) by rw [hq]; simp [Fo.size])
        clear hbw hq hr
        go_wp2
        go_ret
        exact ⟨ret_int' HE.out, HB.out⟩
      | cons h' s' r' =>
        simp only [Fo.len] at hj
        simp only [Fo.size] at hdr
        have hkl : j < f.len := by omega
        have hsz2 : (Fo.cons h' s' r').size = s'.size + r'.size + 1 := rfl
        have hq0 : 0 ≤ q := by omega
        have hq1 : q + 9 + ((s'.size * 9 : Nat) : Int) ≤ 20000000 := by omega
        have hq9 : q + 9 ≤ 20000000 := by omega
        have HR := Lib.hid hr.2
        obtain ⟨⟨sl, hrow, hsl⟩, _⟩ := FEl.below hbw (Nat.le_refl _) hlo hb hr
        have HC := Lib.hid (H.out s' (by omega) wr lo sl _ hsl (by omega) (by omega))
        obtain ⟨c0, c1, c2, c3, c4, c5, c6, c7, c8, c9⟩ := hrow
        obtain ⟨q', hq'⟩ : ∃ q', q + 1 + 1 + 1 + 1 + 1 + 1 + 1 + 1 + 1 + ((s'.size * 9 : Nat) : Int) = q' := ⟨_, rfl⟩
        have HQ' := Lib.hid hq'
        have hqp : 0 ≤ q' := by omega
        rw [hq'] at HC
        clear hsl hr hbw hq hsz2 hq1 hq'
        go_wp2_with fail
        refine HC.out.mono ?_
        rintro e w2 ⟨rfl, hb2⟩
        have HB2 := Lib.hid (below_on HB.out hb2)
        clear c0 c1 c2 c3 c4 c5 c6 c7 c8 c9 hb2 HC
        go_wp2
        go_roundw
        case rel =>
          have hqq := HQ.out
          have hqq' := HQ'.out
          have hsz2 : (Fo.cons h' s' r').size = s'.size + r'.size + 1 := rfl
          rw [hsz2] at hqq
          refine ⟨j + 1, r', q', by go_num, by omega, by omega, rfl, by omega, ?_, HB2.out⟩
          rw [show o + (j + 1) * 10 = o + j * 10 + 10 by omega, ← hqq']
          exact HR.out
        case measure => simp [intOf]; omega

theorem heS_any (f : Fo) : HeS f := by
  have key : ∀ N (f : Fo), f.size ≤ N → HeS f := by
    intro N
    induction N with
    | zero => intro f hf; exact heS_of fun s hs => absurd hs (by omega)
    | succ N ih => intro f hf; exact heS_of fun s hs => ih s (by omega)
  exact key f.size f (Nat.le_refl _)

set_option maxHeartbeats 1000000 in
theorem heF_any (h : FH) (f : Fo) (w : World) (lo : Nat) (s : Value) (k : Int) (hs : FS w lo (f.mk k) s) (k0 : 0 ≤ k) (k1 : k + ((f.size * 9 : Nat) : Int) ≤ 20000000) :
    Calls Try.prog 17 #[.agg #[.int .i64 h.k, .int .i64 h.ak, .int .i64 h.am, .int .i64 h.a, .int .i64 h.b, .int .i64 h.c, .int .i64 h.d, .int .i64 h.n, .int .i64 h.v, s], .int .i64 k] w fun e w' => e = .returned (.int .i64 (k + ((f.size * 9 : Nat) : Int))) ∧ Below w.heap.size w w' := by
  have HS := Lib.hid fun W (hb : Below w.heap.size w W) => heS_any f W lo _ k (FS.below hb (Nat.le_refl _) hs) k0 k1
  obtain ⟨sa, sn, sc, rfl⟩ := hs.slice
  obtain ⟨N, hN⟩ : ∃ N : Int, k + ((f.size * 9 : Nat) : Int) = N := ⟨_, rfl⟩
  have HN := Lib.hid hN
  have hN0 : 0 ≤ N := by omega
  clear hs hN
  go_enter Try.func17, Try.ntmps17
  go_wp2_with fail
  generalize hW : World.alloc _ _ = W
  have hw : Below w.heap.size w W := by subst hW; go_grown
  have hx : C10 W w.heap.size h (.slice sa sn sc) := by subst hW; exact (by refine ⟨?_, ?_, ?_, ?_, ?_, ?_, ?_, ?_, ?_, ?_, ?_⟩ <;> first | (simp [go_sem]; done) | (simp; omega))
  obtain ⟨x0, c0, c1, c2, c3, c4, c5, c6, c7, c8, c9⟩ := id hx
  clear hW
  refine (HS.out W hw).mono ?_
  rintro e w1 ⟨rfl, hb1⟩
  have hw1 := below_on hw hb1
  rw [HN.out]
  go_wp2
  go_ret
  exact ⟨ret_int' HN.out.symm, hw1⟩

end Go.Proofs.Ytahilpccnabbgaa
