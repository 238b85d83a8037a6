/- The marks on a formula's parts: what they keep; contracts of toFormulaS, toFormula that tell that the copy can be marked; contracts of markFormulaS, markFormula. -/
import Derived.Test.YtahilpccnabbgaaFormC
namespace Go.Proofs.Ytahilpccnabbgaa
open Go.RowKit

/-- A slice that can be marked: its elements begin at the head of a block. -/
def NSl (w : World) (lo hi len : Nat) (P : Nat → Nat → Prop) (s : Value) : Prop :=
  (len = 0 ∧ ∃ x cap, s = .slice x 0 cap) ∨ (0 < len ∧ ∃ b cap, s = .slice (some ⟨b, 0, none⟩) len cap ∧ len ≤ cap ∧ cap ≤ maxLen ∧ lo ≤ b ∧ b < hi ∧ (∀ o, w.frozen? ⟨b, o, none⟩ = false) ∧ P b 0)
/-- The rows of a forest's heads, whatever the heads are. -/
def NEl (w : World) (lo hi : Nat) : Fo → Nat → Nat → Prop
  | .nil, _, _ => True
  | .cons _ s r, b, i => (∃ hh sl, FRow w b (i * 10) hh sl ∧ NSl w lo hi s.len (NEl w lo hi s) sl) ∧ NEl w lo hi r b (i + 1)
def NS (w : World) (lo hi : Nat) (f : Fo) (s : Value) : Prop := NSl w lo hi f.len (NEl w lo hi f) s

theorem NEl.mono {w : World} {lo lo' hi hi' : Nat} (hl : lo' ≤ lo) (hh : hi ≤ hi') : ∀ (f : Fo) (b i : Nat), NEl w lo hi f b i → NEl w lo' hi' f b i := by
  intro f
  induction f with
  | nil => intro _ _ _; trivial
  | cons h s r ihs ihr =>
    intro b i hf
    obtain ⟨⟨hd, sl, hr, hsl⟩, hrest⟩ := hf
    refine ⟨⟨hd, sl, hr, ?_⟩, ihr b (i + 1) hrest⟩
    rcases hsl with h0 | ⟨h0, b', cap, e, h1, h2, h3, h4, h5, h6⟩
    · exact .inl h0
    · exact .inr ⟨h0, b', cap, e, h1, h2, by omega, by omega, h5, ihs b' 0 h6⟩
theorem NS.mono {w : World} {lo lo' hi hi' : Nat} (hl : lo' ≤ lo) (hh : hi ≤ hi') {f : Fo} {s : Value} (h : NS w lo hi f s) : NS w lo' hi' f s := by
  rcases h with h0 | ⟨h0, b', cap, e, h1, h2, h3, h4, h5, h6⟩
  · exact .inl h0
  · exact .inr ⟨h0, b', cap, e, h1, h2, by omega, by omega, h5, NEl.mono hl hh f b' 0 h6⟩

/-- What marks keep in the blocks from lo to hi: each tenth cell, and that the others are ints. -/
structure Keeps (lo hi : Nat) (w w' : World) : Prop where
  last : ∀ b o, lo ≤ b → b < hi → w'.cell? ⟨b, o * 10 + 9, none⟩ = w.cell? ⟨b, o * 10 + 9, none⟩
  ints : ∀ b o j, lo ≤ b → b < hi → j < 9 → ∀ v, w.cell? ⟨b, o * 10 + j, none⟩ = some (.int .i64 v) → ∃ v', w'.cell? ⟨b, o * 10 + j, none⟩ = some (.int .i64 v')
  froz : ∀ b o, lo ≤ b → b < hi → w'.frozen? ⟨b, o, none⟩ = w.frozen? ⟨b, o, none⟩
  os : w'.os = w.os
  tape : w'.tape = w.tape
  output : w'.output = w.output
  size : w.heap.size ≤ w'.heap.size
  block : ∀ k, k < w.heap.size → (k < lo ∨ hi ≤ k) → w'.heap[k]? = w.heap[k]?

theorem Keeps.refl (lo hi : Nat) (w : World) : Keeps lo hi w w := ⟨fun _ _ _ _ => rfl, fun _ _ _ _ _ _ v h => ⟨v, h⟩, fun _ _ _ _ => rfl, rfl, rfl, rfl, Nat.le_refl _, fun _ _ _ => rfl⟩
theorem Keeps.trans {lo hi : Nat} {a b c : World} (h : Keeps lo hi a b) (k : Keeps lo hi b c) : Keeps lo hi a c :=
  ⟨fun x o h1 h2 => (k.last x o h1 h2).trans (h.last x o h1 h2), fun x o j h1 h2 h3 v hv => by obtain ⟨v', e⟩ := h.ints x o j h1 h2 h3 v hv; exact k.ints x o j h1 h2 h3 v' e,
    fun x o h1 h2 => (k.froz x o h1 h2).trans (h.froz x o h1 h2), k.os.trans h.os, k.tape.trans h.tape, k.output.trans h.output, Nat.le_trans h.size k.size,
    fun x h1 h2 => (k.block x (Nat.lt_of_lt_of_le h1 h.size) h2).trans (h.block x h1 h2)⟩
theorem Keeps.below {lo hi : Nat} {w w' : World} (h : Keeps lo hi w w') (hl : lo ≤ w.heap.size) : Below lo w w' := ⟨h.os, h.tape, h.output, h.size, fun k hk => h.block k (by omega) (.inl hk)⟩
theorem Keeps.of_below {lo hi : Nat} {w w' : World} (hb : Below w.heap.size w w') (hh : hi ≤ w.heap.size) : Keeps lo hi w w' :=
  ⟨fun _ _ _ h => hb.cell (by dsimp only; omega), fun b o j _ h _ v hv => ⟨v, (hb.cell (p := ⟨b, o * 10 + j, none⟩) (by dsimp only; omega)).trans hv⟩, fun _ _ _ h => hb.frozen (by dsimp only; omega), hb.os, hb.tape, hb.output, hb.size, fun k hk _ => hb.block k hk⟩
theorem keeps_set {lo hi : Nat} {w : World} {b i t : Nat} {u v : Int} (hl : lo ≤ b) (hh : b < hi) (ht : t < 9) (hc : w.cell? ⟨b, i * 10 + t, none⟩ = some (.int .i64 u)) : Keeps lo hi w (w.setCell ⟨b, i * 10 + t, none⟩ (.int .i64 v)) := by
  refine ⟨?_, ?_, ?_, rfl, rfl, rfl, by simp [World.setCell], ?_⟩
  · intro b' o _ _
    refine World.cell?_setCell_other w _ _ _ (fun e => ?_)
    injection e with e1 e2 e3
    omega
  · intro b' o j _ _ hj v' hv
    by_cases e : (⟨b, i * 10 + t, none⟩ : Addr) = ⟨b', o * 10 + j, none⟩
    · rw [← e]
      exact ⟨v, World.cell?_setCell_same w _ _ hc⟩
    · exact ⟨v', (World.cell?_setCell_other w _ _ _ (by first | exact e | exact fun h => e h.symm)).trans hv⟩
  · intro b' o _ _
    simp [go_sem]
  · intro k _ hk
    exact Below.heap_setCell _ _ _ _ (by dsimp only; omega)

theorem NEl.keeps {lo hi : Nat} {w w' : World} (hk : Keeps lo hi w w') : ∀ (f : Fo) (b i : Nat), lo ≤ b → b < hi → NEl w lo hi f b i → NEl w' lo hi f b i := by
  intro f
  induction f with
  | nil => intro _ _ _ _ _; trivial
  | cons h s r ihs ihr =>
    intro b i hl hh hf
    obtain ⟨⟨hd, sl, hr, hsl⟩, hrest⟩ := hf
    obtain ⟨r0, r1, r2, r3, r4, r5, r6, r7, r8, r9⟩ := hr
    obtain ⟨a0, e0⟩ := hk.ints b i 0 hl hh (by omega) _ r0
    obtain ⟨a1, e1⟩ := hk.ints b i 1 hl hh (by omega) _ r1
    obtain ⟨a2, e2⟩ := hk.ints b i 2 hl hh (by omega) _ r2
    obtain ⟨a3, e3⟩ := hk.ints b i 3 hl hh (by omega) _ r3
    obtain ⟨a4, e4⟩ := hk.ints b i 4 hl hh (by omega) _ r4
    obtain ⟨a5, e5⟩ := hk.ints b i 5 hl hh (by omega) _ r5
    obtain ⟨a6, e6⟩ := hk.ints b i 6 hl hh (by omega) _ r6
    obtain ⟨a7, e7⟩ := hk.ints b i 7 hl hh (by omega) _ r7
    obtain ⟨a8, e8⟩ := hk.ints b i 8 hl hh (by omega) _ r8
    refine ⟨⟨⟨a0, a1, a2, a3, a4, a5, a6, a7, a8⟩, sl, ⟨e0, e1, e2, e3, e4, e5, e6, e7, e8, (hk.last b i hl hh).trans r9⟩, ?_⟩, ihr b (i + 1) hl hh hrest⟩
    rcases hsl with h0 | ⟨h0, b', cap, e, h1, h2, h3, h4, h5, h6⟩
    · exact .inl h0
    · exact .inr ⟨h0, b', cap, e, h1, h2, h3, h4, fun o => (hk.froz b' o h3 h4).trans (h5 o), ihs b' 0 h3 h4 h6⟩
theorem NS.keeps {lo hi : Nat} {w w' : World} (hk : Keeps lo hi w w') {f : Fo} {s : Value} (h : NS w lo hi f s) : NS w' lo hi f s := by
  rcases h with h0 | ⟨h0, b', cap, e, h1, h2, h3, h4, h5, h6⟩
  · exact .inl h0
  · exact .inr ⟨h0, b', cap, e, h1, h2, h3, h4, fun o => (hk.froz b' o h3 h4).trans (h5 o), NEl.keeps hk f b' 0 h3 h4 h6⟩
theorem NEl.same {lo hi : Nat} {w w' : World} (hk : ∀ x, lo ≤ x → x < hi → w'.heap[x]? = w.heap[x]?) : ∀ (f : Fo) (b i : Nat), (∀ j, i * 10 ≤ j → j < (i + f.len) * 10 → w'.cell? ⟨b, j, none⟩ = w.cell? ⟨b, j, none⟩) → NEl w lo hi f b i → NEl w' lo hi f b i := by
  intro f
  induction f with
  | nil => intro _ _ _ _; trivial
  | cons h s r ihs ihr =>
    intro b i hc hf
    simp only [Fo.len] at hc
    obtain ⟨⟨hd, sl, hr, hsl⟩, hrest⟩ := hf
    obtain ⟨r0, r1, r2, r3, r4, r5, r6, r7, r8, r9⟩ := hr
    refine ⟨⟨hd, sl, ⟨(hc _ (by omega) (by omega)).trans r0, (hc _ (by omega) (by omega)).trans r1, (hc _ (by omega) (by omega)).trans r2, (hc _ (by omega) (by omega)).trans r3, (hc _ (by omega) (by omega)).trans r4, (hc _ (by omega) (by omega)).trans r5, (hc _ (by omega) (by omega)).trans r6, (hc _ (by omega) (by omega)).trans r7, (hc _ (by omega) (by omega)).trans r8, (hc _ (by omega) (by omega)).trans r9⟩, ?_⟩, ihr b (i + 1) (fun j h1 h2 => hc j (by omega) (by omega)) hrest⟩
    rcases hsl with h0 | ⟨h0, b', cap, e, h1, h2, h3, h4, h5, h6⟩
    · exact .inl h0
    · exact .inr ⟨h0, b', cap, e, h1, h2, h3, h4, fun o => (World.frozen?_of_block (a := ⟨b', o, none⟩) (hk b' h3 h4)).trans (h5 o), ihs b' 0 (fun j _ _ => World.cell?_of_block (a := ⟨b', j, none⟩) (hk b' h3 h4)) h6⟩
theorem NS.same {lo hi : Nat} {w w' : World} (hk : ∀ x, lo ≤ x → x < hi → w'.heap[x]? = w.heap[x]?) {f : Fo} {s : Value} (h : NS w lo hi f s) : NS w' lo hi f s := by
  rcases h with h0 | ⟨h0, b', cap, e, h1, h2, h3, h4, h5, h6⟩
  · exact .inl h0
  · exact .inr ⟨h0, b', cap, e, h1, h2, h3, h4, fun o => (World.frozen?_of_block (a := ⟨b', o, none⟩) (hk b' h3 h4)).trans (h5 o), NEl.same hk f b' 0 (fun j _ _ => World.cell?_of_block (a := ⟨b', j, none⟩) (hk b' h3 h4)) h6⟩
theorem NEl.app {w : World} {lo hi b : Nat} : ∀ (f g : Fo) (i : Nat), NEl w lo hi f b i → NEl w lo hi g b (i + f.len) → NEl w lo hi (f.app g) b i := by
  intro f
  induction f with
  | nil => intro g i _ h; simpa [Fo.app, Fo.len] using h
  | cons h s r _ ih =>
    intro g i hf hg
    refine ⟨hf.1, ih g (i + 1) hf.2 ?_⟩
    have e : i + (Fo.cons h s r).len = i + 1 + r.len := by simp only [Fo.len]; omega
    rwa [e] at hg

theorem keeps9 {lo hi : Nat} {w W : World} {b i : Nat} {hd : FH} {sl : Value} {v0 v1 v2 v3 v4 v5 v6 v7 v8 : Int} (hl : lo ≤ b) (hh : b < hi) (hr : FRow w b (i * 10) hd sl) (hW : (((((((((w.setCell ⟨b, i * 10, none⟩ (.int .i64 v0)).setCell ⟨b, i * 10 + 1, none⟩ (.int .i64 v1)).setCell ⟨b, i * 10 + 2, none⟩ (.int .i64 v2)).setCell ⟨b, i * 10 + 3, none⟩ (.int .i64 v3)).setCell ⟨b, i * 10 + 4, none⟩ (.int .i64 v4)).setCell ⟨b, i * 10 + 5, none⟩ (.int .i64 v5)).setCell ⟨b, i * 10 + 6, none⟩ (.int .i64 v6)).setCell ⟨b, i * 10 + 7, none⟩ (.int .i64 v7)).setCell ⟨b, i * 10 + 8, none⟩ (.int .i64 v8)) = W) : Keeps lo hi w W := by
  subst hW
  obtain ⟨r0, r1, r2, r3, r4, r5, r6, r7, r8, r9⟩ := hr
  have k0 := keeps_set (v := v0) (t := 0) hl hh (by omega) r0
  obtain ⟨u1, e1⟩ := k0.ints b i 1 hl hh (by omega) _ r1
  have k1 := k0.trans (keeps_set (v := v1) (t := 1) hl hh (by omega) e1)
  obtain ⟨u2, e2⟩ := k1.ints b i 2 hl hh (by omega) _ r2
  have k2 := k1.trans (keeps_set (v := v2) (t := 2) hl hh (by omega) e2)
  obtain ⟨u3, e3⟩ := k2.ints b i 3 hl hh (by omega) _ r3
  have k3 := k2.trans (keeps_set (v := v3) (t := 3) hl hh (by omega) e3)
  obtain ⟨u4, e4⟩ := k3.ints b i 4 hl hh (by omega) _ r4
  have k4 := k3.trans (keeps_set (v := v4) (t := 4) hl hh (by omega) e4)
  obtain ⟨u5, e5⟩ := k4.ints b i 5 hl hh (by omega) _ r5
  have k5 := k4.trans (keeps_set (v := v5) (t := 5) hl hh (by omega) e5)
  obtain ⟨u6, e6⟩ := k5.ints b i 6 hl hh (by omega) _ r6
  have k6 := k5.trans (keeps_set (v := v6) (t := 6) hl hh (by omega) e6)
  obtain ⟨u7, e7⟩ := k6.ints b i 7 hl hh (by omega) _ r7
  have k7 := k6.trans (keeps_set (v := v7) (t := 7) hl hh (by omega) e7)
  obtain ⟨u8, e8⟩ := k7.ints b i 8 hl hh (by omega) _ r8
  have k8 := k7.trans (keeps_set (v := v8) (t := 8) hl hh (by omega) e8)
  exact k8

/-- How many marks. -/
def MkT (f : Fo) (lo hi : Nat) (k : Int) (w : World) (e : Ending) (w' : World) : Prop := e = .returned (.int .i64 (k + ((f.size * 9 : Nat) : Int))) ∧ Keeps lo hi w w'
def MkS (f : Fo) : Prop := ∀ (w : World) (lo hi : Nat) (s : Value) (k : Int), NS w lo hi f s → hi ≤ w.heap.size → 0 ≤ k → k + ((f.size * 9 : Nat) : Int) ≤ 20000000 → Calls Try.prog 15 #[s, .int .i64 k] w (MkT f lo hi k w)

def MkR (f : Fo) (lo hi b : Nat) (k : Int) (w : World) (i kv : Value) (wr : World) : Prop :=
  ∃ (j : Nat) (r : Fo), i = .int .i64 j ∧ j + r.len = f.len ∧ r.size ≤ f.size ∧ kv = .int .i64 (k + (((f.size - r.size) * 9 : Nat) : Int)) ∧ NEl wr lo hi r b j ∧ Keeps lo hi w wr

set_option maxRecDepth 10000 in
set_option maxHeartbeats 2000000 in
theorem mkS_of {f : Fo} (HF : ∀ s : Fo, s.size < f.size → MkS s) : MkS f := by
  intro w lo hi s k hs hhi k0 k1
  have H := Lib.hid HF
  clear HF
  rcases hs with ⟨h0, x, cap, rfl⟩ | ⟨h0, b, cap, rfl, hc1, hc2, hlo, hb, hfz, hel⟩
  · obtain rfl : f = .nil := Fo.len_zero h0
    clear h0
    have HK := Lib.hid (show k + ((Fo.nil.size * 9 : Nat) : Int) = k by simp [Fo.size])
    clear k1
    go_enter Try.func15, Try.ntmps15
    go_wp2
    refine wp_loop_rounds 1 ?_
    rw [rounds_succ]
    go_wp2
    go_ret
    exact ⟨ret_int' HK.out.symm, Keeps.refl _ _ _⟩
  · have HST := Lib.hid (show MkR f lo hi b k w (.int .i64 0) (.int .i64 k) w from ⟨0, f, rfl, by omega, Nat.le_refl _, by simp, hel, Keeps.refl _ _ _⟩)
    have HFZ := Lib.hid hfz
    unfold maxLen at hc2
    clear hel hfz
    go_enter Try.func15, Try.ntmps15
    go_wp2
    go_loopw [5, 1] (fun i kv wr => MkR f lo hi b k w i kv wr) (fun i _ _ => f.len - (intOf i).toNat)
    case atStart => exact HST.out
    case round =>
      obtain ⟨j, r, rfl, hj, hdr, rfl, hr, hkw⟩ := hrel
      clear HST
      have HKW := Lib.hid hkw
      have hfz : ∀ o, wr.frozen? ⟨b, o, none⟩ = false := fun o => (hkw.froz b o hlo hb).trans (HFZ.out o)
      have hszw := hkw.size
      clear hkw
      cases r with
      | nil =>
        simp only [Fo.len] at hj
        have hkl : ¬ j < f.len := by omega
        have HE := Lib.hid (show k + (((f.size - Fo.nil.size) * 9 : Nat) : Int) = k + ((f.size * 9 : Nat) : Int) by simp [Fo.size])
        clear hfz
        go_wp2
        go_ret
        exact ⟨ret_int' HE.out, HKW.out⟩
      | cons h' s' r' =>
        simp only [Fo.len] at hj
        simp only [Fo.size] at hdr
        have hkl : j < f.len := by omega
        have HR := Lib.hid hr.2
        obtain ⟨hd, sl, hrow, hsl⟩ := hr.1
        obtain ⟨q, hq⟩ : ∃ q : Int, k + (((f.size - (Fo.cons h' s' r').size) * 9 : Nat) : Int) = q := ⟨_, rfl⟩
        have hsz2 : (Fo.cons h' s' r').size = s'.size + r'.size + 1 := rfl
        have hq0 : 0 ≤ q := by omega
        have hq1 : q + 9 + ((s'.size * 9 : Nat) : Int) ≤ 20000000 := by omega
        have HQ := Lib.hid hq
        obtain ⟨ga, gn, gc, rfl⟩ : ∃ a n c, sl = .slice a n c := by
          rcases hsl with ⟨_, x, cap, e⟩ | ⟨_, b', cap, e, _⟩
          · exact ⟨_, _, _, e⟩
          · exact ⟨_, _, _, e⟩
        have HSL := Lib.hid (show NS wr lo hi s' (.slice ga gn gc) from hsl)
        obtain ⟨c0, c1, c2, c3, c4, c5, c6, c7, c8, c9⟩ := hrow
        have HROW := Lib.hid (show FRow wr b (j * 10) hd (.slice ga gn gc) from ⟨c0, c1, c2, c3, c4, c5, c6, c7, c8, c9⟩)
        have hq9 : q + 9 ≤ 20000000 := by omega
        rw [hq]
        clear hsl hr hq hsz2 hq1
        go_wp2_with fail
        generalize hW2 : World.setCell _ _ _ = W2
        have hk9 := keeps9 hlo hb HROW.out hW2
        have HK2 := Lib.hid (HKW.out.trans hk9)
        have HR2 := Lib.hid (NEl.keeps hk9 _ _ _ hlo hb HR.out)
        have HS2 := Lib.hid (NS.keeps hk9 HSL.out)
        have hs2 := HK2.out.size
        have hqq := HQ.out
        have hsz2 : (Fo.cons h' s' r').size = s'.size + r'.size + 1 := rfl
        have HCALL := Lib.hid (H.out s' (by omega) W2 lo hi _ (q + 1 + 1 + 1 + 1 + 1 + 1 + 1 + 1 + 1) HS2.out (by omega) (by omega) (by rw [hsz2] at hqq; omega))
        have HV := Lib.hid (show q + 1 + 1 + 1 + 1 + 1 + 1 + 1 + 1 + 1 + ((s'.size * 9 : Nat) : Int) = k + (((f.size - r'.size) * 9 : Nat) : Int) by rw [hsz2] at hqq; omega)
        clear hW2 hk9 hfz c0 c1 c2 c3 c4 c5 c6 c7 c8 c9 hqq hsz2
        refine HCALL.out.mono ?_
        rintro e w3 ⟨rfl, hk3⟩
        have HK3 := Lib.hid (HK2.out.trans hk3)
        have HR3 := Lib.hid (NEl.keeps hk3 _ _ _ hlo hb HR2.out)
        rw [HV.out]
        clear hk3 HCALL
        go_wp2
        go_roundw
        case rel => exact ⟨j + 1, r', by go_num, by omega, by omega, rfl, HR3.out, HK3.out⟩
        case measure => simp [intOf]; omega

theorem mkS_any (f : Fo) : MkS f := by
  have key : ∀ N (f : Fo), f.size ≤ N → MkS f := by
    intro N
    induction N with
    | zero => intro f hf; exact mkS_of fun s hs => absurd hs (by omega)
    | succ N ih => intro f hf; exact mkS_of fun s hs => ih s (by omega)
  exact key f.size f (Nat.le_refl _)

set_option maxHeartbeats 1000000 in
theorem mkF_any (h : FH) (f : Fo) (w : World) (lo hi : Nat) (s : Value) (k : Int) (hs : NS w lo hi f s) (hhi : hi ≤ w.heap.size) (k0 : 0 ≤ k) (k1 : k + ((f.size * 9 : Nat) : Int) ≤ 20000000) :
    Calls Try.prog 16 #[.agg #[.int .i64 h.k, .int .i64 h.ak, .int .i64 h.am, .int .i64 h.a, .int .i64 h.b, .int .i64 h.c, .int .i64 h.d, .int .i64 h.n, .int .i64 h.v, s], .int .i64 k] w (MkT f lo hi k w) := by
  obtain ⟨sa, sn, sc, rfl⟩ : ∃ a n c, s = .slice a n c := by
    rcases hs with ⟨_, x, cap, e⟩ | ⟨_, b', cap, e, _⟩
    · exact ⟨_, _, _, e⟩
    · exact ⟨_, _, _, e⟩
  have HS := Lib.hid fun W (hb : Below w.heap.size w W) => mkS_any f W lo hi _ k (NS.keeps (Keeps.of_below hb hhi) hs) (Nat.le_trans hhi hb.size) k0 k1
  obtain ⟨N, hN⟩ : ∃ N : Int, k + ((f.size * 9 : Nat) : Int) = N := ⟨_, rfl⟩
  have HN := Lib.hid hN
  clear hs hN
  go_enter Try.func16, Try.ntmps16
  go_wp2_with fail
  generalize hW : World.alloc _ _ = W
  have hw : Below w.heap.size w W := by subst hW; go_grown
  have HK := Lib.hid (Keeps.of_below (lo := lo) hw hhi)
  clear hW
  refine (HS.out W hw).mono ?_
  rintro e w1 ⟨rfl, hk⟩
  have HK1 := Lib.hid (HK.out.trans hk)
  rw [HN.out]
  clear hk
  go_wp2
  go_ret
  exact ⟨ret_int' HN.out.symm, HK1.out⟩

end Go.Proofs.Ytahilpccnabbgaa
