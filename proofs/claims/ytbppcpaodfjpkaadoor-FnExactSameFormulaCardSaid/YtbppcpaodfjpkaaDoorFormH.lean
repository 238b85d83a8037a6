/- The contract of limitedNode: the node of a formula, and what is taken off the count. -/
import Derived.Test.YtbppcpaodfjpkaaDoorFormF
import Derived.Test.YtbppcpaodfjpkaaDoorFormG
import Derived.Laws.AppendOwn
namespace Go.Proofs.YtbppcpaodfjpkaaDoor
open Go.RowKit

theorem okB_app (f g : Fo) : (f.app g).okB = (f.okB && g.okB) := by
  induction f with
  | nil => simp [Fo.app, Fo.okB]
  | cons h s r _ ih => simp only [Fo.app, Fo.okB, ih, Bool.and_assoc]
theorem size_app (f g : Fo) : (f.app g).size = f.size + g.size := by
  induction f with
  | nil => simp [Fo.app, Fo.size]
  | cons h s r _ ih => simp only [Fo.app, Fo.size, ih]; omega
theorem nds_app (f g : Fo) : (f.app g).nds = f.nds ++ g.nds := by
  induction f with
  | nil => rfl
  | cons h s r _ ih => simp only [Fo.app, Fo.nds, ih, List.cons_append]

/-- Only block p has turned, and its cell 0 holds q. -/
def Cnt (p : Nat) (w w' : World) (q : Int) : Prop := w.grownBy w' (some p) ∧ w'.cell? ⟨p, 0, none⟩ = some (.int .i64 q) ∧ w'.frozen? ⟨p, 0, none⟩ = false

def LimPost (h : FH) (f : Fo) (p q : Nat) (w : World) (e : Ending) (w' : World) : Prop :=
  if (ownB h f.len && f.okB) = true ∧ f.size + 1 ≤ q then e = .returned (.tuple #[nd1 h f.nds, .bool true]) ∧ Cnt p w w' ((q - (f.size + 1) : Nat) : Int)
  else e = .returned (.tuple #[.nilIface, .bool false]) ∧ w.grownBy w' (some p)

def Lim (h : FH) (f : Fo) : Prop := ∀ (w0 w : World) (lo p q : Nat) (s : Value), FS w0 lo f s → Below w0.heap.size w0 w → w0.heap.size ≤ p → p < w.heap.size → q ≤ 600 →
  w.cell? ⟨p, 0, none⟩ = some (.int .i64 q) → w.frozen? ⟨p, 0, none⟩ = false →
  Calls Tryd.prog 66 #[.agg #[.int .i64 h.k, .int .i64 h.ak, .int .i64 h.am, .int .i64 h.a, .int .i64 h.b, .int .i64 h.c, .int .i64 h.d, .int .i64 h.n, .int .i64 h.v, s], .pointer (some ⟨p, 0, none⟩)] w (LimPost h f p q w)

theorem lim_no {h : FH} {f : Fo} {p q : Nat} {w w' : World} {e : Ending} (hn : ¬ ((ownB h f.len && f.okB) = true ∧ f.size + 1 ≤ q)) (he : e = .returned (.tuple #[.nilIface, .bool false])) (hg : w.grownBy w' (some p)) : LimPost h f p q w e w' := by
  unfold LimPost
  rw [if_neg hn]
  exact ⟨he, hg⟩

theorem gp_set (w : World) (p : Nat) (v : Value) (o : Obj) : w.grownBy ((w.setCell ⟨p, 0, none⟩ v).alloc o) (some p) :=
  ⟨rfl, rfl, rfl, by simp [World.setCell], fun k hk hne => (Below.heap_alloc _ _ _ (by simpa [World.setCell] using hk)).trans (Below.heap_setCell _ _ _ _ (fun e => hne (by rw [e])))⟩
theorem gp_trans {p : Nat} {a b c : World} (h1 : a.grownBy b (some p)) (h2 : b.grownBy c (some p)) : a.grownBy c (some p) :=
  ⟨h2.os.trans h1.os, h2.tape.trans h1.tape, h2.output.trans h1.output, Nat.le_trans h1.size h2.size, fun k hk hne => (h2.block k (Nat.lt_of_lt_of_le hk h1.size) hne).trans (h1.block k hk hne)⟩
theorem gp_below {p : Nat} {a b c : World} (h1 : a.grownBy b (some p)) (h2 : Below a.heap.size b c) : a.grownBy c (some p) :=
  ⟨h2.os.trans h1.os, h2.tape.trans h1.tape, h2.output.trans h1.output, Nat.le_trans h1.size h2.size, fun k hk hne => (h2.block k hk).trans (h1.block k hk hne)⟩
theorem below_gp {p : Nat} {a b c : World} (h1 : Below a.heap.size a b) (h2 : b.grownBy c (some p)) (hp : a.heap.size ≤ p) : Below a.heap.size a c :=
  ⟨h2.os.trans h1.os, h2.tape.trans h1.tape, h2.output.trans h1.output, Nat.le_trans h1.size h2.size, fun k hk => (h2.block k (Nat.lt_of_lt_of_le hk h1.size) (fun e => by cases e; omega)).trans (h1.block k hk)⟩
/-- What lies below the list's first possible block stays behind an append. -/
theorem grown_lt {W W' : World} {B e size n : Nat} {v : Value} {xs : List Value} (hown : W.ownsRow B e size v n xs) (hg : W.grownBy W' v.ownBlock) {k : Nat} (hk : k < W.heap.size) (hkB : k < B) : W'.heap[k]? = W.heap[k]? :=
  hg.block k hk (fun e => by have := hown.lt k e.symm; omega)
theorem gp_cells {p : Nat} {W W' : World} {x : Nat} {h : FH} {s : Value} (hg : W.grownBy W' (some p)) (hx : C10 W x h s) (hne : x ≠ p) : C10 W' x h s := by
  have f : ∀ o, W'.cell? ⟨x, o, none⟩ = W.cell? ⟨x, o, none⟩ := fun o => World.cell?_of_block (hg.block x hx.1 (fun e => hne (by simpa using e)))
  obtain ⟨h0, h1⟩ := hx
  exact ⟨Nat.lt_of_lt_of_le h0 hg.size, by simpa only [f] using h1⟩
theorem c10_block {W W' : World} {x : Nat} {h : FH} {s : Value} (hs : W.heap.size ≤ W'.heap.size) (hb : W'.heap[x]? = W.heap[x]?) (hx : C10 W x h s) : C10 W' x h s := by
  have f : ∀ o, W'.cell? ⟨x, o, none⟩ = W.cell? ⟨x, o, none⟩ := fun o => World.cell?_of_block hb
  obtain ⟨h0, h1⟩ := hx
  exact ⟨Nat.lt_of_lt_of_le h0 hs, by simpa only [f] using h1⟩

theorem own_off {w : World} {base e sz n p : Nat} {v : Value} {xs : List Value} (h : w.ownsRow base e sz v n xs) (hp : p < base) : v.ownBlock = none ∨ v.ownBlock ≠ some p := by
  cases hv : v.ownBlock with
  | none => exact .inl rfl
  | some g => exact .inr (fun e => by have := h.lt g hv; cases e; omega)

def LmR (h : FH) (f : Fo) (p q b o lo : Nat) (w0 w : World) (s v i : Value) (wr : World) : Prop :=
  ∃ (k l : Nat) (pre r : Fo), i = .int .i64 k ∧ pre.len = k ∧ pre.app r = f ∧ pre.okB = true ∧ l + pre.size = q ∧ wr.cell? ⟨p, 0, none⟩ = some (.int .i64 l) ∧ wr.frozen? ⟨p, 0, none⟩ = false ∧ w.grownBy wr (some p) ∧ C10 wr w.heap.size h s ∧
    wr.ownsRow (w.heap.size + 1) 84 1 v k pre.nds ∧ FEl w0 lo r b (o + k * 10)

theorem Tryd.infoNode : (Tryd.prog.info? 84).map (fun i => (i.zero, i.size, i.bytes)) = some (some .nilIface, 1, 16) := by kernel_rfl

set_option maxRecDepth 10000 in
set_option maxHeartbeats 2000000 in
theorem lim_of {h : FH} {f : Fo} (HF : ∀ h s, s.size < f.size → Lim h s) : Lim h f := by
  intro w0 w lo p q s hs hb0 hp0 hp hq hc hfz
  obtain ⟨sa, sn, sc, rfl, hn⟩ : ∃ a n c, s = .slice a n c ∧ n = f.len := by
    rcases hs with ⟨h0, x, cap, e, _⟩ | ⟨_, b, o, cap, e, _⟩
    · exact ⟨_, _, _, e, h0.symm⟩
    · exact ⟨_, _, _, e, rfl⟩
  subst hn
  have H := Lib.hid HF
  have HS := Lib.hid hs
  have HB0 := Lib.hid hb0
  clear HF hs hb0
  have hpne : p ≠ w.heap.size := by omega
  obtain ⟨i0, hi, hz0, hz1, hz2⟩ := info_parts Tryd.infoNode
  by_cases hq0 : q = 0
  · subst hq0
    clear hi hz0 hz1 hz2
    go_enter Tryd.func66, Tryd.ntmps66
    go_wp2
    go_ret2
    exact lim_no (by omega) rfl (gp_set _ _ _ _)
  · obtain ⟨q', rfl⟩ : ∃ q', q = q' + 1 := ⟨q - 1, by omega⟩
    have HZ := Lib.hid (And.intro hi (And.intro hz0 (And.intro hz1 hz2)))
    clear hi hz0 hz1 hz2 hq0
    have hq1 : ¬ ((q' + 1 : Nat) : Int) - 1 < 0 := by omega
    go_enter Tryd.func66, Tryd.ntmps66
    go_wp2_with fail
    generalize hW : World.alloc _ _ = W
    have hx : C10 W w.heap.size h (.slice sa f.len sc) := by subst hW; refine ⟨?_, ?_, ?_, ?_, ?_, ?_, ?_, ?_, ?_, ?_, ?_⟩ <;> first | (simp [go_sem]; done) | (simp [World.setCell]; omega)
    have hcW : W.cell? ⟨p, 0, none⟩ = some (.int .i64 q') := by subst hW; simp [go_sem, *]
    have hfW : W.frozen? ⟨p, 0, none⟩ = false := by subst hW; simp [go_sem, *]
    have hg : w.grownBy W (some p) := by subst hW; exact gp_set _ _ _ _
    have hWs : w.heap.size < W.heap.size := hx.1
    clear hW hc hfz hq1
    refine (validApart_any h sa f.len sc W).mono ?_
    rintro e w1 ⟨rfl, hb1⟩
    have hx1 := c10_on hx hb1
    have hc1 : w1.cell? ⟨p, 0, none⟩ = some (.int .i64 q') := ((bcell hb1).1 p 0 (by omega)).trans hcW
    have hf1 : w1.frozen? ⟨p, 0, none⟩ = false := ((bcell hb1).2 p 0 (by omega)).trans hfW
    have hg1 : w.grownBy w1 (some p) := gp_below hg (hb1.mono (by omega))
    have hs1 : w.heap.size < w1.heap.size := hx1.1
    clear hx hcW hfW hg hb1
    cases ho : ownB h f.len with
    | false =>
      have HO := Lib.hid ho
      clear ho
      go_wp2
      go_ret2
      exact lim_no (by rw [HO.out]; simp) rfl hg1
    | true =>
      have HO := Lib.hid ho
      clear ho
      have HX := Lib.hid hx1
      obtain ⟨x0, c0, c1, c2, c3, c4, c5, c6, c7, c8, c9⟩ := hx1
      go_wp2_with fail
      rcases HS.out with ⟨h0, _⟩ | ⟨h0, b, o, cap, e, hcc1, hcc2, hlo, hb, hel⟩
      · obtain rfl : f = .nil := Fo.len_zero h0
        have HN := Lib.hid (fun W => nodeWith_any h (.slice sa Fo.nil.len sc) W 0 (.slice none 0 0) .nil HO.out (World.ownsRow_nil _ _ _ _))
        clear h0
        simp only [Fo.len] at *
        refine wp_loop_rounds 1 ?_
        rw [rounds_succ]
        go_wp2_with fail
        refine (HN.out _).mono ?_
        rintro e w2 ⟨rfl, hb2⟩
        have hc2 : w2.cell? ⟨p, 0, none⟩ = some (.int .i64 q') := ((bcell hb2).1 p 0 (by omega)).trans hc1
        have hf2 : w2.frozen? ⟨p, 0, none⟩ = false := ((bcell hb2).2 p 0 (by omega)).trans hf1
        have hg2 : w.grownBy w2 (some p) := gp_below hg1 (hb2.mono (by omega))
        clear hc1 hf1 c0 c1 c2 c3 c4 c5 c6 c7 c8 c9 hb2 hg1
        have HC2 := Lib.hid hc2
        have HF2 := Lib.hid hf2
        clear hc2 hf2
        go_wp2
        go_ret2
        unfold LimPost
        rw [if_pos ⟨by simp only [Fo.len]; rw [HO.out]; rfl, by simp only [Fo.size]; omega⟩]
        exact ⟨rfl, hg2, by simpa [Fo.size] using HC2.out, HF2.out⟩
      · obtain ⟨rfl, _, rfl⟩ : sa = some ⟨b, o, none⟩ ∧ f.len = f.len ∧ sc = cap := by simpa using e
        have HST := Lib.hid (show LmR h f p q' b o lo w0 w (.slice (some ⟨b, o, none⟩) f.len sc) (.slice none 0 0) (.int .i64 0) w1 from ⟨0, q', .nil, f, rfl, rfl, rfl, rfl, rfl, hc1, hf1, hg1, HX.out, World.ownsRow_nil _ _ _ _, by simpa using hel⟩)
        unfold maxLen at hcc2
        clear e hel c0 c1 c2 c3 c4 c5 c6 c7 c8 c9 hc1 hf1 hg1 HX
        have hlen : f.len ≤ 2 := by
          have := HO.out
          unfold ownB at this
          simp only [Bool.and_eq_true, decide_eq_true_eq] at this
          have h3 := this.2
          unfold subsI at h3
          split at h3
          · omega
          · split at h3
            · omega
            · split at h3 <;> omega
        go_loopw [6, 28] (fun v i wr => LmR h f p q' b o lo w0 w (.slice (some ⟨b, o, none⟩) f.len sc) v i wr) (fun _ i _ => f.len - (intOf i).toNat)
        case atStart => exact HST.out
        case round =>
          obtain ⟨k, l, pre, r, rfl, hpl, hap, hok, hlq, hcr, hfr, hgr, hxr, hown, hr⟩ := hrel
          clear HST
          have HAP := Lib.hid hap
          have HPL := Lib.hid hpl
          have HOK := Lib.hid hok
          have HLQ := Lib.hid hlq
          have hll : l ≤ 600 := by omega
          have hklen : k + r.len = f.len := by rw [← hap, Fo.app_len, hpl]
          have HKL := Lib.hid hklen
          clear hap hpl hok hlq
          cases r with
          | nil =>
            simp only [Fo.len, Nat.add_zero] at hklen
            have hkl : ¬ k < f.len := by omega
            have e : pre = f := by have := HAP.out; rwa [Fo.app_nil] at this
            subst e
            have HXR := Lib.hid hxr
            have HN := Lib.hid (fun (W : World) (v : Value) (hW : W.ownsRow (w.heap.size + 1) 84 1 v k pre.nds) => nodeWith_any h (.slice (some ⟨b, o, none⟩) pre.len sc) W (w.heap.size + 1) v pre HO.out (by rw [HPL.out]; exact hW))
            have HCR := Lib.hid hcr
            have HFR := Lib.hid hfr
            have HW := Lib.hid hown
            obtain ⟨x0, c0, c1, c2, c3, c4, c5, c6, c7, c8, c9⟩ := id hxr
            clear hcr hfr hxr hown hklen
            go_wp2_with fail
            refine (HN.out _ _ HW.out).mono ?_
            rintro e w2 ⟨rfl, hb2⟩
            have hpw : p < wr.heap.size := Nat.lt_of_lt_of_le hp hgr.size
            have hc2 := ((bcell hb2).1 p 0 hpw).trans HCR.out
            have hf2 := ((bcell hb2).2 p 0 hpw).trans HFR.out
            have hg2 : w.grownBy w2 (some p) := gp_below hgr (hb2.mono (by omega))
            have HC2 := Lib.hid hc2
            have HF2 := Lib.hid hf2
            clear hc2 hf2 c0 c1 c2 c3 c4 c5 c6 c7 c8 c9 hb2 hgr
            go_wp2
            go_ret2
            unfold LimPost
            have := HLQ.out
            rw [if_pos ⟨by rw [HO.out, HOK.out]; rfl, by omega⟩]
            exact ⟨rfl, hg2, by rw [HC2.out]; congr 2; omega, HF2.out⟩
          | cons h' s' r' =>
            simp only [Fo.len] at hklen
            have hkl : k < f.len := by omega
            have hsz : s'.size < f.size := by have := congrArg Fo.size HAP.out; rw [size_app] at this; simp only [Fo.size] at this; omega
            have hbr := below_gp HB0.out hgr hp0
            have HR := Lib.hid hr.2
            obtain ⟨sl, hrow, hsl⟩ := hr.1
            have hcb : ∀ o, wr.cell? ⟨b, o, none⟩ = w0.cell? ⟨b, o, none⟩ := fun o => hbr.cell (p := ⟨b, o, none⟩) hb
            have d0 := (hcb _).trans hrow.1
            have d1 := (hcb _).trans hrow.2.1
            have d2 := (hcb _).trans hrow.2.2.1
            have d3 := (hcb _).trans hrow.2.2.2.1
            have d4 := (hcb _).trans hrow.2.2.2.2.1
            have d5 := (hcb _).trans hrow.2.2.2.2.2.1
            have d6 := (hcb _).trans hrow.2.2.2.2.2.2.1
            have d7 := (hcb _).trans hrow.2.2.2.2.2.2.2.1
            have d8 := (hcb _).trans hrow.2.2.2.2.2.2.2.2.1
            have d9 := (hcb _).trans hrow.2.2.2.2.2.2.2.2.2
            obtain ⟨ga, gn, gc, rfl⟩ : ∃ a n c, sl = .slice a n c := FS.slice (w := w0) (lo := lo) (f := s') hsl
            have HL := Lib.hid (H.out h' s' hsz w0)
            have HSL := Lib.hid (show FS w0 lo s' (.slice ga gn gc) from hsl)
            have HBR := Lib.hid hbr
            have HGR := Lib.hid hgr
            have HXR := Lib.hid hxr
            have HOW := Lib.hid hown
            have hpw : p < wr.heap.size := Nat.lt_of_lt_of_le hp hgr.size
            have hws : w.heap.size < wr.heap.size := hxr.1
            clear hcb hrow hsl hr hbr hgr hxr hown
            go_wp2_with fail
            generalize hW2 : wr.alloc _ = W2
            have hb2 : Below wr.heap.size wr W2 := by subst hW2; go_grown
            have hs2 : wr.heap.size < W2.heap.size := by subst hW2; simp
            have hc2 : W2.cell? ⟨p, 0, none⟩ = some (.int .i64 l) := ((bcell hb2).1 p 0 hpw).trans hcr
            have hf2 : W2.frozen? ⟨p, 0, none⟩ = false := ((bcell hb2).2 p 0 hpw).trans hfr
            have HG2 := Lib.hid (gp_below HGR.out (hb2.mono (by omega)))
            have HX2 := Lib.hid (c10_on HXR.out hb2)
            have HO2 := Lib.hid (own_below (show wr.ownsRow (w.heap.size + 1) 84 1 _ k pre.nds from HOW.out) hb2)
            have HCALL := Lib.hid (HL.out W2 lo p l (.slice ga gn gc) HSL.out (HBR.out.trans (hb2.mono (by omega))) hp0 (by omega) hll hc2 hf2)
            clear hW2 hb2 hc2 hf2 d0 d1 d2 d3 d4 d5 d6 d7 d8 d9 hcr hfr
            refine HCALL.out.mono ?_
            intro e w3 hpost
            unfold LimPost at hpost
            by_cases hcond : (ownB h' s'.len && s'.okB) = true ∧ s'.size + 1 ≤ l
            · rw [if_pos hcond] at hpost
              obtain ⟨rfl, hg3, hc3, hf3⟩ := hpost
              obtain ⟨t, y, hnd⟩ := nd1_iface h' s'.nds
              rw [hnd]
              have HND := Lib.hid hnd
              have HCOND := Lib.hid hcond
              have HG3 := Lib.hid (gp_trans HG2.out hg3)
              have HX3 := Lib.hid (gp_cells hg3 HX2.out (fun e => hpne e.symm))
              have hown3 := HO2.out.kept hg3 (own_off HO2.out (by omega))
              have HC3 := Lib.hid hc3
              have HF3 := Lib.hid hf3
              have hp3 : p < w3.heap.size := Nat.lt_of_lt_of_le (by omega) hg3.size
              have hs3 : w.heap.size + 1 ≤ w3.heap.size := Nat.le_trans (by omega) hg3.size
              clear hcond hg3 hc3 hf3 hnd
              obtain ⟨hi, hz0, hz1, hz2⟩ := HZ.out
              have hkk : k ≤ 2 := by omega
              go_wp2_with (at_builtin; refine wpList_append_own _ rfl _ _ 87 rfl (w.heap.size + 1) 84 i0 .nilIface 1 16 Tryd.underlying87 hi hz0 hz1 hz2 rfl (by decide) _ _ _ rfl (hown3.alloc _) ⟨w3.heap.size, 0, none⟩ 1 1 [.iface t y] rfl rfl ?c1 ?c2 ?c3 ?c4 ?c5 ?_)
              case c1 =>
                intro j u hj
                match j, hj with
                | 0, hj => simp at hj; subst hj; simp [Addr.add]
              case c2 => intro u hu; simp at hu; subst hu; rfl
              case c3 => unfold maxLen; omega
              case c4 => omega
              case c5 => simp; omega
              · intro v' w4 hown4 hgrow _
                have hal : ∀ j, j < w3.heap.size → (w3.alloc (.cells #[.iface t y] 84)).heap[j]? = w3.heap[j]? := fun j hj => Below.heap_alloc _ _ _ hj
                have hblk : ∀ j, j < w.heap.size + 1 → w4.heap[j]? = w3.heap[j]? := fun j hj =>
                  (grown_lt (hown3.alloc (.cells #[.iface t y] 84)) hgrow (by simp; omega) hj).trans (hal j (by omega))
                have hsz4 : w3.heap.size ≤ w4.heap.size := Nat.le_trans (by simp) hgrow.size
                have hb34 : Below w.heap.size w3 w4 := ⟨hgrow.os, hgrow.tape, hgrow.output, hsz4, fun j hj => hblk j (by omega)⟩
                have hc4 : w4.cell? ⟨p, 0, none⟩ = _ := (World.cell?_of_block (hblk p (by omega))).trans HC3.out
                have hf4 : w4.frozen? ⟨p, 0, none⟩ = _ := (World.frozen?_of_block (hblk p (by omega))).trans HF3.out
                have HX4 := Lib.hid (c10_block hsz4 (hblk w.heap.size (by omega)) HX3.out)
                have HG4 := Lib.hid (gp_below HG3.out hb34)
                have HC4 := Lib.hid hc4
                have HF4 := Lib.hid hf4
                have HN : Hid (w4.ownsRow (w.heap.size + 1) 84 1 v' (k + 1) (pre.app (.cons h' s' .nil)).nds) := by
                  show w4.ownsRow _ _ _ _ _ _
                  rw [nds_app]
                  simp only [Fo.nds]
                  rw [HND.out]
                  exact hown4
                clear hown3 hown4 hgrow hal hblk hb34 hc4 hf4 hi hz0 hz1 hz2
                go_wp2
                go_roundw
                case rel =>
                  have q1 := HCOND.out
                  have q2 := HLQ.out
                  refine ⟨k + 1, l - (s'.size + 1), pre.app (.cons h' s' .nil), r', by go_num, by rw [Fo.app_len, HPL.out]; rfl, by rw [Fo.app_assoc]; exact HAP.out, ?_, ?_, HC4.out, HF4.out, HG4.out, HX4.out, HN.out, by rw [show o + (k + 1) * 10 = o + k * 10 + 10 by omega]; exact HR.out⟩
                  · rw [okB_app, HOK.out]; simp only [Fo.okB, Bool.and_true, Bool.true_and]; exact q1.1
                  · rw [size_app]; simp only [Fo.size]; omega
                case measure => simp [intOf]; omega
            · rw [if_neg hcond] at hpost
              obtain ⟨rfl, hg3⟩ := hpost
              have HCOND := Lib.hid hcond
              have HG3 := Lib.hid (gp_trans HG2.out hg3)
              clear hcond hg3
              go_wp2
              go_ret2
              refine lim_no ?_ rfl HG3.out
              rintro ⟨q1, q2⟩
              have q3 := HAP.out
              have q4 := HLQ.out
              refine HCOND.out ⟨?_, ?_⟩
              · rw [← q3, okB_app] at q1
                simp only [Fo.okB, Bool.and_eq_true] at q1 ⊢
                exact q1.2.2.1
              · rw [← q3, size_app] at q2
                simp only [Fo.size] at q2
                omega

theorem lim_any (h : FH) (f : Fo) : Lim h f := by
  have key : ∀ N (h : FH) (f : Fo), f.size ≤ N → Lim h f := by
    intro N
    induction N with
    | zero => intro h f hf; exact lim_of fun h s hs => absurd hs (by omega)
    | succ N ih => intro h f hf; exact lim_of fun h s hs => ih h s (by omega)
  exact key f.size h f (Nat.le_refl _)

end Go.Proofs.YtbppcpaodfjpkaaDoor
