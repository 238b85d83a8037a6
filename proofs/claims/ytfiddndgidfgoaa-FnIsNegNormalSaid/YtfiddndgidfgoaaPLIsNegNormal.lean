import Derived.Test.YtfiddndgidfgoaaDrQ
import Derived.Test.YtfiddndgidfgoaaFormS
import Derived.Test.YtfiddndgidfgoaaFormI
import Derived.Test.YtfiddndgidfgoaaNlv
import Derived.Test.YtfiddndgidfgoaaFormZ
import Derived.Test.YtfiddndgidfgoaaLiftA
import Derived.JoinedOf
import Derived.JoinedAt
import Derived.RowKit3

/- The walk of the law on the nodes of a formula. -/
namespace Go.Proofs.Ytfiddndgidfgoaa
open Go.RowKit

theorem atL_le (h : FH) (f : Fo) : (atL h f).length ≤ f.size + 1 := by
  unfold atL
  split
  · exact atF_len h f
  · simp

theorem sub_valid {h' : FH} {s' r' : Fo} (hok : (Fo.cons h' s' r').okB = true) (hz : s'.size + 1 ≤ 600) : vfB h' s' = true ∧ r'.okB = true := by
  simp only [Fo.okB, Bool.and_eq_true] at hok
  exact ⟨by unfold vfB; simp [hok.1.1, hok.1.2, hz], hok.2⟩

def NsR (f : Fo) (b o lo : Nat) (W : World) (x : Nat) (h : FH) (s sum i : Value) (wr : World) : Prop :=
  ∃ (k m : Nat) (r : Fo), i = .int .i64 k ∧ sum = .int .i64 m ∧ k + r.len = f.len ∧ r.okB = true ∧ r.size ≤ f.size ∧ m + r.size = 1 + f.size ∧ FEl W lo r b (o + k * 10) ∧ Below W.heap.size W wr ∧ C10 wr x h s

end Go.Proofs.Ytfiddndgidfgoaa

/- What the model draws for the law on formulas without negations. -/
namespace Go.Proofs.Ytfiddndgidfgoaa
open Go.RowKit

/-- A drawn formula, or its normal form. -/
def NegForm (w : World) (e : Ending) (w' : World) : Prop := ∃ (h : FH) (f : Fo) (s : Value), e = .returned (.agg #[.int .i64 h.k, .int .i64 h.ak, .int .i64 h.am, .int .i64 h.a, .int .i64 h.b, .int .i64 h.c, .int .i64 h.d, .int .i64 h.n, .int .i64 h.v, s]) ∧ FS w' w.heap.size f s ∧ Below w.heap.size w w'

set_option maxRecDepth 10000 in
set_option maxHeartbeats 2000000 in
theorem DrawIsNegNormal_t (sp : Option Addr) (n cap : Nat) (w : World) (h : Code w sp n cap) : Calls Try.prog 6 #[.slice sp n cap] w (NegForm w) := by
  have H := Lib.hid h
  clear h
  go_enter Try.func6, Try.ntmps6
  go_wp2_with fail
  generalize hW : World.alloc _ _ = W
  have hz : C10 W w.heap.size ⟨0, 0, 0, 0, 0, 0, 0, 0, 0⟩ (.slice none 0 0) := by subst hW; exact (by refine ⟨?_, ?_, ?_, ?_, ?_, ?_, ?_, ?_, ?_, ?_, ?_⟩ <;> first | (simp [go_sem]; done) | (simp; omega))
  have fz : ∀ o, W.frozen? ⟨w.heap.size, o, none⟩ = false := by intro o; subst hW; simp [go_sem]
  have hb0 : Below w.heap.size w W := by subst hW; go_grown
  clear hW
  refine (l17Open_t sp n cap W (code_on H.out hb0)).mono ?_
  rintro e w1 ⟨r, rfl, hr, hR, hb1⟩
  have HR := Lib.hid hR
  clear hR
  go_wp2_with fail
  refine (l3Open_t r 0 w1 HR.out (by omega)).mono ?_
  rintro e w2 ⟨h3, f3, s3, rfl, hs3, hsz3, ht⟩
  have hr1 : r < w1.heap.size := rd_lt HR.out
  have hb2 : Below W.heap.size W w2 := hb1.trans (below_only ht.1 hb1.size hr)
  have hz0 := hz.1
  have hs12 := hb1.size
  have hs02 := ht.1.size
  have hx2 := c10_on hz hb2
  have fz2 : ∀ o, w2.frozen? ⟨w.heap.size, o, none⟩ = false := fun o => ((bcell hb2).2 _ o hz.1).trans (fz o)
  have hw2 := below_on hb0 hb2
  have HS3 := Lib.hid hs3
  obtain ⟨_, q2, q20, q21, hR2⟩ := ht
  have HR2 := Lib.hid hR2
  obtain ⟨a3, n3, c3, rfl⟩ := hs3.slice
  clear hs3 hz hR2 fz hb2
  go_wp2_with fail
  generalize hW : World.alloc _ _ = W3
  have hxf : C10 W3 w2.heap.size h3 (.slice a3 n3 c3) := by subst hW; exact (by refine ⟨?_, ?_, ?_, ?_, ?_, ?_, ?_, ?_, ?_, ?_, ?_⟩ <;> first | (simp [go_sem]; done) | (simp; omega))
  have hb3 : Below w2.heap.size w2 W3 := by subst hW; go_grown
  clear hW
  have hs23 := hb3.size
  have hx3 := c10_on hx2 hb3
  have fz3 : ∀ o, W3.frozen? ⟨w.heap.size, o, none⟩ = false := fun o => ((bcell hb3).2 _ o hx2.1).trans (fz2 o)
  have hw3 := below_on hw2 hb3
  have HF3 := Lib.hid (FS.below hb3 (Nat.le_refl _) HS3.out)
  have HRw3 := Lib.hid (rd_on HR2.out hb3)
  have HSP := Lib.hid (fun V lo s hs => specNegNormal_any h3 f3 V lo s (by omega) hs)
  obtain ⟨q, hq⟩ : ∃ q, okQ (nnB h3 f3) (ngF false h3 f3).1 (ngF false h3 f3).2 = q := ⟨_, rfl⟩
  obtain ⟨tt, htt⟩ : ∃ tt, nnB h3 f3 = tt := ⟨_, rfl⟩
  rw [hq, htt] at HSP
  clear hq htt hb3 hx2 fz2 hw2 HS3 HR2
  have hlt3 := hxf.1
  refine (HSP.out W3 _ _ HF3.out).mono ?_
  rintro e w4 ⟨s4, rfl, hs4, hb4⟩
  obtain ⟨a4, n4, c4, rfl⟩ := hs4.slice
  have hs34 := hb4.size
  have hxf4 := c10_on hxf hb4
  have hx4 := c10_on hx3 hb4
  have fz4 : ∀ o, w4.frozen? ⟨w.heap.size, o, none⟩ = false := fun o => ((bcell hb4).2 _ o hx3.1).trans (fz3 o)
  have hw4 := below_on hw3 hb4
  have HF4 := Lib.hid (FS.below hb4 (Nat.le_refl _) HF3.out)
  have HG4 := Lib.hid (SF.fs (Nat.le_refl _) hs4)
  have HRw4 := Lib.hid (rd_on HRw3.out hb4)
  clear hs4 hb4 hxf hx3 fz3 hw3 HF3 HRw3 HSP
  go_upto_region 4 with fail
  generalize hW : World.alloc _ _ = W5
  have hxg : C10 W5 w4.heap.size q.1 (.slice a4 n4 c4) := by subst hW; exact (by refine ⟨?_, ?_, ?_, ?_, ?_, ?_, ?_, ?_, ?_, ?_, ?_⟩ <;> first | (simp [go_sem]; done) | (simp; omega))
  have hb5 : Below w4.heap.size w4 W5 := by subst hW; go_grown
  clear hW
  have hs45 := hb5.size
  have hxf5 := c10_on hxf4 hb5
  have hx5 := c10_on hx4 hb5
  have fz5 : ∀ o, W5.frozen? ⟨w.heap.size, o, none⟩ = false := fun o => ((bcell hb5).2 _ o hx4.1).trans (fz4 o)
  have hw5 := below_on hw4 hb5
  have HF5 := Lib.hid (FS.below hb5 (Nat.le_refl _) HF4.out)
  have HG5 := Lib.hid (FS.below hb5 (Nat.le_refl _) HG4.out)
  have HRw5 := Lib.hid (rd_on HRw4.out hb5)
  clear hb5 hxf4 hx4 fz4 hw4 HF4 HG4 HRw4
  cases tt with
  | false =>
    obtain ⟨u0, u1, u2, u3, u4, u5, u6, u7, u8, u9, u10⟩ := id hx5
    obtain ⟨f0, f1, f2, fx3, f4, f5, f6, f7, f8, f9, f10⟩ := id hxf5
    go_upto_region 16 with fail
    (generalize hW9 : World.setCell _ _ _ = W9)
    obtain ⟨⟨z0, y0, y1, y2, y3, y4, y5, y6, y7, y8, y9⟩, hk9, hs9, _⟩ := ten_put (g := h3) hx5 hW9
    have hb9 : Below w.heap.size w W9 := by
      subst hW9
      exact ((((((((((hw5.setCell (Nat.le_refl _) _).setCell (Nat.le_refl _) _).setCell (Nat.le_refl _) _).setCell (Nat.le_refl _) _).setCell (Nat.le_refl _) _).setCell (Nat.le_refl _) _).setCell (Nat.le_refl _) _).setCell (Nat.le_refl _) _).setCell (Nat.le_refl _) _).setCell (Nat.le_refl _) _)
    clear hW9 u0 u1 u2 u3 u4 u5 u6 u7 u8 u9 u10
    go_wp2
    refine bodyPost_ret (v := .agg #[.int .i64 h3.k, .int .i64 h3.ak, .int .i64 h3.am, .int .i64 h3.a, .int .i64 h3.b, .int .i64 h3.c, .int .i64 h3.d, .int .i64 h3.n, .int .i64 h3.v, .slice a3 n3 c3]) (by simp [results, Try.results6, go_sem, y0, y1, y2, y3, y4, y5, y6, y7, y8, y9]) rfl ⟨h3, f3, .slice a3 n3 c3, rfl, FS.mono (by omega) (FS.kept (Nat.le_of_eq hs9.symm) (fun k hk _ => hk9 k (by omega)) HF5.out), hb9⟩
  | true =>
    go_wp2_with fail
    refine (pick_t r q2 2 W5 HRw5.out (by omega)).mono ?_
    rintro e w6 ⟨x, rfl, _, _, ht6⟩
    have hs56 := ht6.1.size
    have hxf6 := c10_only hxf5 ht6.1 (by omega)
    have hxg6 := c10_only hxg ht6.1 (by omega)
    have hx6 := c10_only hx5 ht6.1 (by omega)
    have fz6 : ∀ o, w6.frozen? ⟨w.heap.size, o, none⟩ = false := fun o => (frozen_only ht6.1 hx5.1 (by omega)).trans (fz5 o)
    have hw6 : Below w.heap.size w w6 := hw5.trans (below_only ht6.1 (by omega) (by omega))
    have HF6 := Lib.hid (fs_turned HF5.out ht6 (by omega))
    have HG6 := Lib.hid (fs_turned HG5.out ht6 (by omega))
    clear ht6 hxf5 hxg hx5 fz5 hw5 HF5 HG5 HRw5
    obtain ⟨u0, u1, u2, u3, u4, u5, u6, u7, u8, u9, u10⟩ := id hx6
    by_cases hx0 : x = 0
    · subst hx0
      obtain ⟨g0, g1, g2, g3, g4, g5, g6, g7, g8, g9, g10⟩ := id hxg6
      go_upto_region 16 with fail
      (generalize hW9 : World.setCell _ _ _ = W9)
      obtain ⟨⟨z0, y0, y1, y2, y3, y4, y5, y6, y7, y8, y9⟩, hk9, hs9, _⟩ := ten_put (g := q.1) hx6 hW9
      have hb9 : Below w.heap.size w W9 := by
        subst hW9
        exact ((((((((((hw6.setCell (Nat.le_refl _) _).setCell (Nat.le_refl _) _).setCell (Nat.le_refl _) _).setCell (Nat.le_refl _) _).setCell (Nat.le_refl _) _).setCell (Nat.le_refl _) _).setCell (Nat.le_refl _) _).setCell (Nat.le_refl _) _).setCell (Nat.le_refl _) _).setCell (Nat.le_refl _) _)
      clear hW9 u0 u1 u2 u3 u4 u5 u6 u7 u8 u9 u10
      go_wp2
      refine bodyPost_ret (v := .agg #[.int .i64 q.1.k, .int .i64 q.1.ak, .int .i64 q.1.am, .int .i64 q.1.a, .int .i64 q.1.b, .int .i64 q.1.c, .int .i64 q.1.d, .int .i64 q.1.n, .int .i64 q.1.v, .slice a4 n4 c4]) (by simp [results, Try.results6, go_sem, y0, y1, y2, y3, y4, y5, y6, y7, y8, y9]) rfl ⟨q.1, q.2, .slice a4 n4 c4, rfl, FS.mono (by omega) (FS.kept (Nat.le_of_eq hs9.symm) (fun k hk _ => hk9 k (by omega)) HG6.out), hb9⟩
    · have e0 : (x == 0) = false := by simpa using hx0
      obtain ⟨f0, f1, f2, fx3, f4, f5, f6, f7, f8, f9, f10⟩ := id hxf6
      go_upto_region 16 with fail
      (generalize hW9 : World.setCell _ _ _ = W9)
      obtain ⟨⟨z0, y0, y1, y2, y3, y4, y5, y6, y7, y8, y9⟩, hk9, hs9, _⟩ := ten_put (g := h3) hx6 hW9
      have hb9 : Below w.heap.size w W9 := by
        subst hW9
        exact ((((((((((hw6.setCell (Nat.le_refl _) _).setCell (Nat.le_refl _) _).setCell (Nat.le_refl _) _).setCell (Nat.le_refl _) _).setCell (Nat.le_refl _) _).setCell (Nat.le_refl _) _).setCell (Nat.le_refl _) _).setCell (Nat.le_refl _) _).setCell (Nat.le_refl _) _).setCell (Nat.le_refl _) _)
      clear hW9 u0 u1 u2 u3 u4 u5 u6 u7 u8 u9 u10
      go_wp2
      refine bodyPost_ret (v := .agg #[.int .i64 h3.k, .int .i64 h3.ak, .int .i64 h3.am, .int .i64 h3.a, .int .i64 h3.b, .int .i64 h3.c, .int .i64 h3.d, .int .i64 h3.n, .int .i64 h3.v, .slice a3 n3 c3]) (by simp [results, Try.results6, go_sem, y0, y1, y2, y3, y4, y5, y6, y7, y8, y9]) rfl ⟨h3, f3, .slice a3 n3 c3, rfl, FS.mono (by omega) (FS.kept (Nat.le_of_eq hs9.symm) (fun k hk _ => hk9 k (by omega)) HF6.out), hb9⟩

end Go.Proofs.Ytfiddndgidfgoaa

/- The walk of the law on formulas without negations. -/
namespace Go.Proofs.Ytfiddndgidfgoaa
open Go.RowKit

def NgR (h : FH) (f : Fo) (b o lo : Nat) (W : World) (x : Nat) (s all i : Value) (wr : World) : Prop :=
  ∃ (k : Nat) (q : Bool) (r : Fo), i = .int .i64 k ∧ all = .bool q ∧ k + r.len = f.len ∧ r.okB = true ∧ r.size ≤ f.size ∧ (q && r.plB) = plF h f ∧ FEl W lo r b (o + k * 10) ∧ Below W.heap.size W wr ∧ C10 wr x h s

theorem pl_nil {q : Bool} {c : Bool} (h : (q && Fo.nil.plB) = c) : q = c := by rw [← h]; simp [Fo.plB]
theorem pl_cons {q c : Bool} {h' : FH} {s' r' : Fo} (h : (q && (Fo.cons h' s' r').plB) = c) : ((q && plF h' s') && r'.plB) = c := by rw [← h]; simp only [Fo.plB, plF, Bool.and_assoc]

set_option maxRecDepth 10000 in
set_option maxHeartbeats 4000000 in
theorem isNegNormal_walk (sp : Option Addr) (n cap : Nat) (w : World) (hcode : Code w sp n cap) :
    Calls Try.prog 3 #[.slice sp n cap] w fun e w' => e = .returned (.bool true) ∧ Below w.heap.size w w' := by
  have hc1 := hcode.1
  have hc2 := hcode.2.1
  have H := Lib.hid hcode
  clear hcode
  by_cases hn : n ≤ 1048576
  · have hn' : ¬ (1048576 : Int) < (n : Int) := by omega
    go_enter Try.func3, Try.ntmps3
    go_wp2_with fail
    refine (DrawIsNegNormal_t sp n cap w H.out).mono ?_
    rintro e w1 ⟨h, f, s, rfl, hs, hb1⟩
    have HS := Lib.hid hs
    obtain ⟨sa, sn, sc, rfl⟩ := hs.slice
    clear hs
    go_wp2_with fail
    generalize hW : World.alloc _ _ = W
    have hx : C10 W w1.heap.size h (.slice sa sn sc) := by subst hW; exact (by refine ⟨?_, ?_, ?_, ?_, ?_, ?_, ?_, ?_, ?_, ?_, ?_⟩ <;> first | (simp [go_sem]; done) | (simp; omega))
    have hbW : Below w1.heap.size w1 W := by subst hW; go_grown
    have hw0 := below_on hb1 hbW
    have HSW := Lib.hid (FS.below hbW (Nat.le_refl _) HS.out)
    have HF := Lib.hid (fun V (hV : Below W.heap.size W V) => FS.below hV (Nat.le_refl _) HSW.out)
    clear hW hb1 hbW
    refine (IsNegNormal_any h f W _ _ HSW.out).mono ?_
    rintro e w2 ⟨rfl, hb2⟩
    obtain ⟨x0, c0, c1, c2, c3, c4, c5, c6, c7, c8, c9⟩ := c10_on hx hb2
    have HC := Lib.hid (fun V hV => specIsNegNormal_any h f V _ _ (HF.out V hV))
    have HV := Lib.hid (fun V hV => FormulaValid_any h f V _ _ (HF.out V hV))
    cases hv : vfB h f with
    | false =>
      have hI : ngB h f = false := by unfold ngB; rw [hv]; rfl
      rw [hI] at HC ⊢
      rw [hv] at HV
      clear hI hv
      go_wp2_with fail
      refine (HC.out _ hb2).mono ?_
      rintro e w3 ⟨rfl, hb3⟩
      have hb3 := below_on hb2 hb3
      obtain ⟨x0, c0, c1, c2, c3, c4, c5, c6, c7, c8, c9⟩ := c10_on hx hb3
      go_wp2_with fail
      refine (HV.out _ hb3).mono ?_
      rintro e w4 ⟨rfl, hb4⟩
      have hb4 := below_on hb3 hb4
      obtain ⟨x0, c0, c1, c2, c3, c4, c5, c6, c7, c8, c9⟩ := c10_on hx hb4
      go_wp2_with fail
      refine (HC.out _ hb4).mono ?_
      rintro e w5 ⟨rfl, hb5⟩
      have hb5 := below_on hb4 hb5
      obtain ⟨x0, c0, c1, c2, c3, c4, c5, c6, c7, c8, c9⟩ := c10_on hx hb5
      go_wp2_with fail
      refine (HV.out _ hb5).mono ?_
      rintro e w6 ⟨rfl, hb6⟩
      have hb6 := below_on hb5 hb6
      go_wp2
      go_ret
      exact ⟨rfl, below_on hw0 hb6⟩
    | true =>
      obtain ⟨hown, hok, h6⟩ := vf_parts hv
      have hI : ngB h f = plF h f := by unfold ngB; rw [hv]; rfl
      obtain ⟨t, ht⟩ : ∃ t : Bool, plF h f = t := ⟨_, rfl⟩
      rw [hI, ht] at HC ⊢
      rw [hv] at HV
      have hbb : (t != t) = false := by cases t <;> rfl
      have HT := Lib.hid ht
      have HOK := Lib.hid hok
      clear hI hv hown hok ht
      go_wp2_with fail
      refine (HC.out _ hb2).mono ?_
      rintro e w3 ⟨rfl, hb3⟩
      have hb3 := below_on hb2 hb3
      obtain ⟨x0, c0, c1, c2, c3, c4, c5, c6, c7, c8, c9⟩ := c10_on hx hb3
      go_wp2_with fail
      refine (HV.out _ hb3).mono ?_
      rintro e w4 ⟨rfl, hb4⟩
      have hb4 := below_on hb3 hb4
      have hx4 := c10_on hx hb4
      clear x0 c0 c1 c2 c3 c4 c5 c6 c7 c8 c9 hb3 hb2
      obtain ⟨x0, c0, c1, c2, c3, c4, c5, c6, c7, c8, c9⟩ := id hx4
      go_wp2_with fail
      rcases HSW.out with ⟨h0, y, cp, e, _, _⟩ | ⟨h0, b, o, cp, e, hcp1, hcp2, hlo, hb, hel⟩
      · obtain rfl : f = .nil := Fo.len_zero h0
        injection e with e1 e2 e3
        subst e1 e2 e3
        have HB := Lib.hid hb4
        refine wp_loop_rounds 1 ?_
        rw [rounds_succ]
        go_wp2
        go_ret
        have ht := HT.out
        refine ⟨?_, below_on hw0 HB.out⟩
        rw [← ht, plF, ne3]
        simp [Fo.plB]
      · injection e with e1 e2 e3
        subst e1 e2 e3
        have HST := Lib.hid (show NgR h f b o w.heap.size W w1.heap.size (.slice (some ⟨b, o, none⟩) f.len sc) (.bool (h.k != 3)) (.int .i64 0) w4 from ⟨0, h.k != 3, f, rfl, rfl, by omega, HOK.out, Nat.le_refl _, by rw [plF, ne3, Bool.and_comm], by simpa using hel, hb4, hx4⟩)
        unfold maxLen at hcp2
        clear hel hx4 x0 c0 c1 c2 c3 c4 c5 c6 c7 c8 c9 hb4
        go_loopw [5, 6] (fun all i wr => NgR h f b o w.heap.size W w1.heap.size (.slice (some ⟨b, o, none⟩) f.len sc) all i wr) (fun _ i _ => f.len - (intOf i).toNat)
        case atStart => exact HST.out
        case round =>
          obtain ⟨k, q, r, rfl, rfl, hk, hrok, hdr, hmx, hr, hbw, hx2⟩ := hrel
          clear HST
          obtain ⟨x0, c0, c1, c2, c3, c4, c5, c6, c7, c8, c9⟩ := id hx2
          cases r with
          | nil =>
            simp only [Fo.len] at hk
            have hkl : ¬ k < f.len := by omega
            have hq : q = t := (pl_nil hmx).trans HT.out
            subst hq
            have HB := Lib.hid hbw
            clear hbw hmx
            go_wp2
            go_ret
            exact ⟨by simp, below_on hw0 HB.out⟩
          | cons h' s' r' =>
            simp only [Fo.len] at hk
            simp only [Fo.size] at hdr
            have hkl : k < f.len := by omega
            have hz' : s'.size + 1 ≤ 600 := by omega
            obtain ⟨hv', hok'⟩ := sub_valid hrok hz'
            have HR := Lib.hid hr.2
            have HK := Lib.hid hok'
            have HMX := Lib.hid (pl_cons hmx)
            have HB := Lib.hid hbw
            have HX := Lib.hid hx2
            cases q with
            | false =>
              clear hbw hx2 hv' hok' hrok hmx hr
              go_wp2
              go_roundw
              case rel => exact ⟨k + 1, false, r', by go_num, rfl, by omega, HK.out, by omega, HMX.out, by rw [show o + (k + 1) * 10 = o + k * 10 + 10 by omega]; exact HR.out, HB.out, HX.out⟩
              case measure => simp [intOf]; omega
            | true =>
              obtain ⟨⟨sl, hrow, hsl⟩, _⟩ := FEl.below hbw (Nat.le_refl _) hlo hb hr
              have hI' : ngB h' s' = plF h' s' := by unfold ngB; rw [hv']; rfl
              have HC' := Lib.hid (IsNegNormal_any h' s' wr w.heap.size sl hsl)
              rw [hI'] at HC'
              obtain ⟨d0, d1, d2, d3, d4, d5, d6, d7, d8, d9⟩ := hrow
              clear hsl hbw hx2 hI' hv' hok' hrok hmx hr
              go_wp2_with fail
              refine HC'.out.mono ?_
              rintro e w5 ⟨rfl, hb5⟩
              have HB5 := Lib.hid (below_on HB.out hb5)
              have HX5 := Lib.hid (c10_on HX.out hb5)
              clear x0 c0 c1 c2 c3 c4 c5 c6 c7 c8 c9 d0 d1 d2 d3 d4 d5 d6 d7 d8 d9 hb5
              go_wp2
              go_roundw
              case rel => exact ⟨k + 1, plF h' s', r', by go_num, rfl, by omega, HK.out, by omega, by simpa using HMX.out, by rw [show o + (k + 1) * 10 = o + k * 10 + 10 by omega]; exact HR.out, HB5.out, HX5.out⟩
              case measure => simp [intOf]; omega
  · have hn' : (1048576 : Int) < (n : Int) := by omega
    go_enter Try.func3, Try.ntmps3
    go_wp2
    go_ret
    exact ⟨rfl, Below.refl _ _⟩

end Go.Proofs.Ytfiddndgidfgoaa

/- The law on formulas without negations holds for all bytes. No condition. -/
namespace Go.Proofs.Ytfiddndgidfgoaa
open Go.ChangeShapes Go.WideShapes Go.ChangeAt Go.RowKit Go.Joins

set_option maxRecDepth 100000 in
theorem fnIsNegNormal_lifted (os : Os) (started : os.Started) (H : Type) (enc : TypeId × Value → H) :
    ReturnsInHanded {} Try.checked os 3 .any (Rows.fnIsNegNormalSpec.pre6 enc Try.prog Try.f3 Rows.fnIsNegNormalRow.domain false) (Rows.fnIsNegNormalSpec.post enc Try.prog Try.f3 false true false false) := by
  refine returnsInHanded_of_change (C := Try.checked) Try.own started (by kernel_rfl) Try.func3
    (ChangeSpec.witness6 (enc := enc) (C := Try.checked) false ⟨#[], #[.slice none 0 0], []⟩ 8 (by kernel_rfl) (by kernel_rfl) (by kernel_rfl) (by kernel_rfl)) ?_
  intro W base args ds gs before hval0 hW _ _
  have hval : ∀ (j : Nat) t v, Try.f3.params[j]? = some t → args[j]? = some v → Value.okWide Try.prog W .any base t v := hval0
  have hW' := hW
  obtain ⟨p, q, hA0, hV, rfl, _, _⟩ := hW
  have hA : DataW.TrodAll enc Try.prog W 0 (fun _ => true) true Try.f3.params.toList args.toList ds p := hA0
  rw [Try.params3] at hA hval
  obtain ⟨v0, d0, rfl, rfl, h0⟩ := trodAll_one hA
  obtain ⟨rfl, rfl⟩ := trodVars_none hV
  obtain ⟨sp, n, cap, rfl, hcode⟩ := code_of Try.underlying22 Try.underlying5 (by kernel_rfl) (hval 0 22 v0 rfl rfl) h0
  clear hA0 hval0
  refine (isNegNormal_walk sp n cap W hcode).mono fun e W' ⟨he, hb⟩ => ⟨_, he, ?_⟩
  exact law_post Try.laidOut (by kernel_rfl) rfl rfl Try.underlying4 hW' rfl hb

theorem fnIsNegNormal_holds : Rows.FnIsNegNormalSaid :=
  OpenClaim.holds_of_wide 3 Try.f3 rfl rfl rfl rfl rfl rfl rfl ⟨rfl, rfl, rfl, rfl, rfl⟩ rfl rfl rfl rfl rfl (by kernel_rfl) Try.func3 (by show joinedFacts Try.prog 3 Try.f3 Rows.fnIsNegNormalSpec Rows.fnIsNegNormalRow = true; unfold joinedFacts; rw [Try.mayEnterT, Try.liftsFinalF, Try.makeC]; kernel_rfl)
    (of_decide_eq_true (by kernel_rfl)) (by unfold Func.isWrapper; rw [if_neg (by decide +kernel)]; exact ⟨rfl, rfl⟩)
    (fun os started H enc _ => fnIsNegNormal_lifted os started H enc)

end Go.Proofs.Ytfiddndgidfgoaa
