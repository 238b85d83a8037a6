/- Exact marks: the contracts of markFormulaS and markFormula at formulas that lie apart. -/
import Derived.Test.YtahilpccnabbgaaSep
namespace Go.Proofs.Ytahilpccnabbgaa
open Go.RowKit

theorem app_assoc3 (f g r : Fo) : (f.app g).app r = f.app (g.app r) := by
  induction f with
  | nil => rfl
  | cons h s t _ ih => simp only [Fo.app, ih]
theorem len_app3 (f g : Fo) : (f.app g).len = f.len + g.len := by
  induction f with
  | nil => simp [Fo.app, Fo.len]
  | cons h s t _ ih => simp only [Fo.app, Fo.len, ih]; omega

/-- What exact marks do. -/
def XkT (f : Fo) (lo hi : Nat) (s : Value) (k : Int) (w : World) (e : Ending) (w' : World) : Prop :=
  e = .returned (.int .i64 (k + ((f.size * 9 : Nat) : Int))) ∧ Keeps lo hi w w' ∧ SF w' lo hi (f.mk k) s
def XkS (f : Fo) : Prop := ∀ (w : World) (lo hi : Nat) (s : Value) (k : Int), SF w lo hi f s → hi ≤ w.heap.size → 0 ≤ k → k + ((f.size * 9 : Nat) : Int) ≤ 20000000 → Calls Try.prog 15 #[s, .int .i64 k] w (XkT f lo hi s k w)

def XkR (f : Fo) (lo hi b : Nat) (k : Int) (w : World) (i kv : Value) (wr : World) : Prop :=
  ∃ (j : Nat) (r done : Fo) (q : Int) (m : Nat), i = .int .i64 j ∧ j + r.len = f.len ∧ done.len = j ∧ r.size ≤ f.size ∧ kv = .int .i64 q ∧ q = k + (((f.size - r.size) * 9 : Nat) : Int) ∧ done.app (r.mk q) = f.mk k ∧ lo ≤ m ∧ m ≤ hi ∧ TEl wr done b 0 lo m ∧ TEl wr r b j m hi ∧ Keeps lo hi w wr

set_option maxRecDepth 10000 in
set_option maxHeartbeats 2000000 in
theorem xkS_of {f : Fo} (HF : ∀ s : Fo, s.size < f.size → XkS s) : XkS f := by
  intro w lo hi s k hs hhi k0 k1
  have H := Lib.hid HF
  clear HF
  rcases hs with ⟨h0, x, cap, rfl, g1, g2⟩ | ⟨h0, b, cap, rfl, hc1, hc2, hlo, hb, hfz, hel⟩
  · obtain rfl : f = .nil := Fo.len_zero h0
    clear h0
    have HK := Lib.hid (show k + ((Fo.nil.size * 9 : Nat) : Int) = k by simp [Fo.size])
    have HSF := Lib.hid (show SF w lo hi (Fo.nil.mk k) (.slice x 0 cap) from .inl ⟨rfl, x, cap, rfl, g1, g2⟩)
    clear k1
    go_enter Try.func15, Try.ntmps15
    go_wp2
    refine wp_loop_rounds 1 ?_
    rw [rounds_succ]
    go_wp2
    go_ret
    exact ⟨ret_int' HK.out.symm, Keeps.refl _ _ _, HSF.out⟩
  · have HST := Lib.hid (show XkR f lo hi b k w (.int .i64 0) (.int .i64 k) w from ⟨0, f, .nil, k, lo, rfl, by omega, rfl, Nat.le_refl _, rfl, by simp, rfl, Nat.le_refl _, by omega, trivial, hel, Keeps.refl _ _ _⟩)
    have HFZ := Lib.hid hfz
    have HC := Lib.hid (And.intro hc1 hc2)
    unfold maxLen at hc2
    clear hel hfz
    go_enter Try.func15, Try.ntmps15
    go_wp2
    go_loopw [5, 1] (fun i kv wr => XkR f lo hi b k w i kv wr) (fun i _ _ => f.len - (intOf i).toNat)
    case atStart => exact HST.out
    case round =>
      obtain ⟨j, r, done, q, m, rfl, hj, hdl, hdr, rfl, hq, hfm, hlm, hmh, hdn, hr, hkw⟩ := hrel
      clear HST
      have HKW := Lib.hid hkw
      have HQ := Lib.hid hq
      have HFM := Lib.hid hfm
      have HDN := Lib.hid hdn
      have hfz : ∀ o, wr.frozen? ⟨b, o, none⟩ = false := fun o => (hkw.froz b o hlo hb).trans (HFZ.out o)
      have hszw := hkw.size
      clear hkw hfm hdn
      cases r with
      | nil =>
        simp only [Fo.len] at hj
        have hkl : ¬ j < f.len := by omega
        have HE := Lib.hid (show q = k + ((f.size * 9 : Nat) : Int) by rw [hq]; simp [Fo.size])
        have HSF : Hid (SF wr lo hi (f.mk k) (.slice (some ⟨b, 0, none⟩) f.len cap)) := by
          show TSl wr lo hi (f.mk k).len _ _
          rw [mk_len]
          refine .inr ⟨h0, b, cap, rfl, HC.out.1, HC.out.2, hlo, hb, hfz, ?_⟩
          have e := HFM.out
          simp only [Fo.mk] at e
          have e2 : done.app .nil = done := by
            clear e hdl HDN HFM
            induction done with
            | nil => rfl
            | cons _ _ _ _ ih => simp only [Fo.app, ih]
          rw [e2] at e
          rw [← e]
          exact TEl.mono done b 0 lo m lo hi (Nat.le_refl _) hmh HDN.out
        clear hfz hq hr
        go_wp2
        go_ret
        exact ⟨ret_int' HE.out, HKW.out, HSF.out⟩
      | cons h' s' r' =>
        simp only [Fo.len] at hj
        simp only [Fo.size] at hdr
        have hkl : j < f.len := by omega
        obtain ⟨l, m2, ha1, ha2, ha3, ha4, ⟨sl, hrow, hsl⟩, hrest⟩ := hr
        have hsz2 : (Fo.cons h' s' r').size = s'.size + r'.size + 1 := rfl
        have hq0 : 0 ≤ q := by omega
        have hq1 : q + 9 + ((s'.size * 9 : Nat) : Int) ≤ 20000000 := by omega
        obtain ⟨ga, gn, gc, rfl⟩ : ∃ a n c, sl = .slice a n c := by
          rcases hsl with ⟨_, x, cap, e, _⟩ | ⟨_, b', cap, e, _⟩
          · exact ⟨_, _, _, e⟩
          · exact ⟨_, _, _, e⟩
        have HSL := Lib.hid (show SF wr l m2 s' (.slice ga gn gc) from hsl)
        have HREST := Lib.hid hrest
        have HROW := Lib.hid hrow
        obtain ⟨c0, c1, c2, c3, c4, c5, c6, c7, c8, c9⟩ := hrow
        have hq9 : q + 9 ≤ 20000000 := by omega
        clear hsl hq hsz2 hq1 hrest
        go_wp2_with fail
        generalize hW2 : World.setCell _ _ _ = W2
        have hk9 := keeps9 hlo hb HROW.out hW2
        obtain ⟨hrow2, hcell2, hblk2⟩ := set9 HROW.out hW2
        have HROW2 := Lib.hid hrow2
        have HK2 := Lib.hid (HKW.out.trans hk9)
        have HD2 := Lib.hid (TEl.same done b 0 lo m (fun x _ _ hx => hblk2 x hx) (fun o _ ho => hcell2 o (.inl (by omega))) HDN.out)
        have HR2 := Lib.hid (TEl.same r' b (j + 1) m2 hi (fun x _ _ hx => hblk2 x hx) (fun o ho _ => hcell2 o (.inr (by omega))) HREST.out)
        have HS2 := Lib.hid (SF.same (fun x _ _ => hblk2 x (by omega)) HSL.out)
        have hs2 := HK2.out.size
        have hqq := HQ.out
        have hsz2 : (Fo.cons h' s' r').size = s'.size + r'.size + 1 := rfl
        have HCALL := Lib.hid (H.out s' (by omega) W2 l m2 _ (q + 1 + 1 + 1 + 1 + 1 + 1 + 1 + 1 + 1) HS2.out (by omega) (by omega) (by rw [hsz2] at hqq; omega))
        obtain ⟨q', hq'⟩ : ∃ q', q + 1 + 1 + 1 + 1 + 1 + 1 + 1 + 1 + 1 + ((s'.size * 9 : Nat) : Int) = q' := ⟨_, rfl⟩
        have HQ' := Lib.hid hq'
        unfold XkT at HCALL
        rw [hq'] at HCALL
        clear hW2 hk9 hfz c0 c1 c2 c3 c4 c5 c6 c7 c8 c9 hqq hsz2 hrow2 hcell2 hblk2 hq'
        refine HCALL.out.mono ?_
        rintro e w3 ⟨rfl, hk3, hs3⟩
        have hcb : ∀ x, x < W2.heap.size → (x < l ∨ m2 ≤ x) → w3.heap[x]? = W2.heap[x]? := hk3.block
        have hbW : b < W2.heap.size := by omega
        have HK3 : Hid (Keeps lo hi w w3) := by
          refine HK2.out.trans ⟨?_, ?_, ?_, hk3.os, hk3.tape, hk3.output, hk3.size, fun x h1 h2 => hk3.block x h1 (by omega)⟩
          · intro x o h1 h2
            by_cases hx : l ≤ x ∧ x < m2
            · exact hk3.last x o hx.1 hx.2
            · exact World.cell?_of_block (a := ⟨x, _, none⟩) (hcb x (by omega) (by omega))
          · intro x o t h1 h2 h3 v hv
            by_cases hx : l ≤ x ∧ x < m2
            · exact hk3.ints x o t hx.1 hx.2 h3 v hv
            · exact ⟨v, (World.cell?_of_block (a := ⟨x, _, none⟩) (hcb x (by omega) (by omega))).trans hv⟩
          · intro x o h1 h2
            by_cases hx : l ≤ x ∧ x < m2
            · exact hk3.froz x o hx.1 hx.2
            · exact World.frozen?_of_block (a := ⟨x, o, none⟩) (hcb x (by omega) (by omega))
        have hbb := hcb b hbW (by omega)
        have HD3 : Hid (TEl w3 (done.app (.cons ⟨q, q + 1, q + 1 + 1, q + 1 + 1 + 1, q + 1 + 1 + 1 + 1, q + 1 + 1 + 1 + 1 + 1, q + 1 + 1 + 1 + 1 + 1 + 1, q + 1 + 1 + 1 + 1 + 1 + 1 + 1, q + 1 + 1 + 1 + 1 + 1 + 1 + 1 + 1⟩ (s'.mk (q + 1 + 1 + 1 + 1 + 1 + 1 + 1 + 1 + 1)) .nil)) b 0 lo m2) := by
          refine TEl.app done _ 0 lo m m2 hlm (by omega) (TEl.same done b 0 lo m (fun x _ h2 _ => hcb x (by omega) (by omega)) (fun o _ _ => World.cell?_of_block (a := ⟨b, o, none⟩) hbb) HD2.out) ?_
          rw [Nat.zero_add, hdl]
          obtain ⟨r0, r1, r2, r3, r4, r5, r6, r7, r8, r9⟩ := HROW2.out
          have g : ∀ o, w3.cell? ⟨b, o, none⟩ = W2.cell? ⟨b, o, none⟩ := fun o => World.cell?_of_block (a := ⟨b, o, none⟩) hbb
          exact ⟨l, m2, ha1, ha2, Nat.le_refl _, ha4, ⟨_, ⟨(g _).trans r0, (g _).trans r1, (g _).trans r2, (g _).trans r3, (g _).trans r4, (g _).trans r5, (g _).trans r6, (g _).trans r7, (g _).trans r8, (g _).trans r9⟩, hs3⟩, trivial⟩
        have HR3 := Lib.hid (TEl.same r' b (j + 1) m2 hi (fun x h1 h2 _ => hcb x (by omega) (by omega)) (fun o _ _ => World.cell?_of_block (a := ⟨b, o, none⟩) hbb) HR2.out)
        have HF3 : Hid ((done.app (.cons ⟨q, q + 1, q + 1 + 1, q + 1 + 1 + 1, q + 1 + 1 + 1 + 1, q + 1 + 1 + 1 + 1 + 1, q + 1 + 1 + 1 + 1 + 1 + 1, q + 1 + 1 + 1 + 1 + 1 + 1 + 1, q + 1 + 1 + 1 + 1 + 1 + 1 + 1 + 1⟩ (s'.mk (q + 1 + 1 + 1 + 1 + 1 + 1 + 1 + 1 + 1)) .nil)).app (r'.mk q') = f.mk k) := by
          show _ = _
          rw [app_assoc3, ← HFM.out, ← HQ'.out]
          rfl
        have hq0' : 0 ≤ q' := by have := HQ'.out; omega
        clear hk3 hs3 HCALL hcb hbb
        go_wp2
        go_roundw
        case rel =>
          have hqq := HQ.out
          have hqq' := HQ'.out
          have hsz2 : (Fo.cons h' s' r').size = s'.size + r'.size + 1 := rfl
          rw [hsz2] at hqq
          exact ⟨j + 1, r', _, q', m2, by go_num, by omega, by rw [len_app3, hdl]; rfl, by omega, rfl, by omega, HF3.out, by omega, ha3, HD3.out, HR3.out, HK3.out⟩
        case measure => simp [intOf]; omega

theorem xkS_any (f : Fo) : XkS f := by
  have key : ∀ N (f : Fo), f.size ≤ N → XkS f := by
    intro N
    induction N with
    | zero => intro f hf; exact xkS_of fun s hs => absurd hs (by omega)
    | succ N ih => intro f hf; exact xkS_of fun s hs => ih s (by omega)
  exact key f.size f (Nat.le_refl _)

set_option maxHeartbeats 1000000 in
theorem xkF_any (h : FH) (f : Fo) (w : World) (lo hi : Nat) (s : Value) (k : Int) (hs : SF w lo hi f s) (hhi : hi ≤ w.heap.size) (k0 : 0 ≤ k) (k1 : k + ((f.size * 9 : Nat) : Int) ≤ 20000000) :
    Calls Try.prog 16 #[.agg #[.int .i64 h.k, .int .i64 h.ak, .int .i64 h.am, .int .i64 h.a, .int .i64 h.b, .int .i64 h.c, .int .i64 h.d, .int .i64 h.n, .int .i64 h.v, s], .int .i64 k] w (XkT f lo hi s k w) := by
  obtain ⟨sa, sn, sc, rfl⟩ : ∃ a n c, s = .slice a n c := by
    rcases hs with ⟨_, x, cap, e, _⟩ | ⟨_, b', cap, e, _⟩
    · exact ⟨_, _, _, e⟩
    · exact ⟨_, _, _, e⟩
  have HS := Lib.hid fun W (hb : Below w.heap.size w W) => xkS_any f W lo hi _ k (SF.below hb hhi hs) (Nat.le_trans hhi hb.size) k0 k1
  obtain ⟨N, hN⟩ : ∃ N : Int, k + ((f.size * 9 : Nat) : Int) = N := ⟨_, rfl⟩
  have HN := Lib.hid hN
  unfold XkT at HS ⊢
  rw [hN] at HS ⊢
  clear hs hN
  go_enter Try.func16, Try.ntmps16
  go_wp2_with fail
  generalize hW : World.alloc _ _ = W
  have hw : Below w.heap.size w W := by subst hW; go_grown
  have HK := Lib.hid (Keeps.of_below (lo := lo) hw hhi)
  clear hW
  refine (HS.out W hw).mono ?_
  rintro e w1 ⟨rfl, hk, hs1⟩
  have HK1 := Lib.hid (HK.out.trans hk)
  have HS1 := Lib.hid hs1
  clear hk hs1
  go_wp2
  go_ret
  exact ⟨rfl, HK1.out, HS1.out⟩

end Go.Proofs.Ytahilpccnabbgaa
