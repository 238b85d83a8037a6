/- Lists of ints that a call has made: what they hold; and the contracts of TermVars of the program and of the model. -/
import Derived.Test.YtcgolbkpfncgpaaBaseC
import Derived.Test.YtcgolbkpfncgpaaHeld
import Derived.Test.YtcgolbkpfncgpaaSpecB
import Derived.Test.YtcgolbkpfncgpaaDraw2
import Derived.Test.YtcgolbkpfncgpaaOwn
import Derived.Laws.OwnMore
namespace Go.Proofs.Ytcgolbkpfncgpaa
open Go.RowKit

/-- The slice v is made since block B and holds the ints L. -/
def OwnI (w : World) (B : Nat) (v : Value) (L : List Int) : Prop := w.ownsRow B 3 1 v L.length (L.map (Value.int .i64))

/-- The variables below k that occur. -/
def vl (a b c d : Int) (k : Nat) : List Int := ((List.range k).filter fun v : Nat => decide (sel a b c d (Int.ofNat v) 0 ≠ 0)).map fun v : Nat => Int.ofNat v

theorem vl_keep {a b c d : Int} {k : Nat} (h : sel a b c d (k : Int) 0 ≠ 0) : vl a b c d (k + 1) = vl a b c d k ++ [(k : Int)] := by
  simp [vl, List.range_succ, List.filter_append, h]
theorem vl_drop {a b c d : Int} {k : Nat} (h : sel a b c d (k : Int) 0 = 0) : vl a b c d (k + 1) = vl a b c d k := by
  simp [vl, List.range_succ, List.filter_append, h]
theorem vl_len (a b c d : Int) (k : Nat) : (vl a b c d k).length ≤ k := by
  have := List.length_filter_le (fun v : Nat => decide (sel a b c d (Int.ofNat v) 0 ≠ 0)) (List.range k)
  simpa [vl] using this

theorem Try.infoInt : (Try.prog.info? 3).map (fun i => (i.zero, i.size, i.bytes)) = some (some (.int .i64 0), 1, 8) := by kernel_rfl

/-- The loop of TermVars: what is gathered of the first k variables. -/
def TvR (a b c d n : Int) (w : World) (v i : Value) (wr : World) : Prop :=
  ∃ k : Nat, k ≤ 4 ∧ i = .int .i64 k ∧ OwnI wr (w.heap.size + 1) v (vl a b c d k) ∧ Below w.heap.size w wr ∧ C5 wr w.heap.size a b c d n ∧ w.heap.size < wr.heap.size

def VarsT (a b c d : Int) (w : World) (e : Ending) (w' : World) : Prop := ∃ v, e = .returned v ∧ OwnI w' w.heap.size v (vl a b c d 4) ∧ Below w.heap.size w w'

theorem grown_below {w W W' : World} {v : Value} {B e size n : Nat} {xs : List Value} (hb : Below w.heap.size w W) (hown : W.ownsRow B e size v n xs) (hB : w.heap.size ≤ B) (hg : W.grownBy W' v.ownBlock) : Below w.heap.size w W' :=
  ⟨hg.os.trans hb.os, hg.tape.trans hb.tape, hg.output.trans hb.output, Nat.le_trans hb.size hg.size, fun i hi =>
    (hg.block i (Nat.lt_of_lt_of_le hi hb.size) (fun e => by have := hown.lt i e.symm; omega)).trans (hb.block i hi)⟩

theorem c5_grown {W W' : World} {x : Nat} {a b c d n : Int} {v : Value} {B e size m : Nat} {xs : List Value} (h : C5 W x a b c d n) (hown : W.ownsRow B e size v m xs) (hB : x < B) (hg : W.grownBy W' v.ownBlock) : C5 W' x a b c d n := by
  have f : ∀ o, W'.cell? ⟨x, o, none⟩ = W.cell? ⟨x, o, none⟩ := fun o => World.cell?_of_block (hg.block x h.1 (fun e => by have := hown.lt x e.symm; omega))
  exact ⟨Nat.lt_of_lt_of_le h.1 hg.size, (f 0).trans h.2.1, (f 1).trans h.2.2.1, (f 2).trans h.2.2.2.1, (f 3).trans h.2.2.2.2.1, (f 4).trans h.2.2.2.2.2⟩

set_option maxRecDepth 10000 in
set_option maxHeartbeats 1000000 in
theorem TermVars_t (a b c d n : Int) (w : World) :
    Calls Try.prog 43 #[.agg #[.int .i64 a, .int .i64 b, .int .i64 c, .int .i64 d, .int .i64 n]] w (VarsT a b c d w) := by
  obtain ⟨i0, hi, hz0, hz1, hz2⟩ := info_parts Try.infoInt
  go_enter Try.func43, Try.ntmps43
  go_wp2
  generalize hW : w.alloc (.cells #[.int .i64 a, .int .i64 b, .int .i64 c, .int .i64 d, .int .i64 n] 24) = W
  have hx : C5 W w.heap.size a b c d n := by subst hW; exact (by refine ⟨?_, ?_, ?_, ?_, ?_, ?_⟩ <;> first | (simp [go_sem]; done) | (simp; omega))
  have hw0 : Below w.heap.size w W := by subst hW; go_grown
  have hsz : w.heap.size < W.heap.size := by subst hW; simp
  clear hW
  go_loopw [3, 5] (fun v i wr => TvR a b c d n w v i wr) (fun _ i _ => 4 - (intOf i).toNat)
  case atStart => exact ⟨0, by omega, rfl, World.ownsRow_nil _ _ _ _, hw0, hx, hsz⟩
  case round =>
    obtain ⟨k, hk, rfl, hown, hbw, hx1, hsz1⟩ := hrel
    have hlen := vl_len a b c d k
    have HO := Lib.hid hown
    have HB := Lib.hid hbw
    have HX := Lib.hid hx1
    clear hown hbw hx hw0
    by_cases hk4 : k < 4
    · have hk' : (k : Int) < 4 := by omega
      obtain ⟨x0, x1, x2, x3, x4, x5⟩ := hx1
      obtain ⟨s, hs⟩ : ∃ s, sel a b c d (k : Int) 0 = s := ⟨_, rfl⟩
      have HC := Lib.hid fun W => CoefOf_any a b c d n (k : Int) W
      rw [hs] at HC
      have HS := Lib.hid hs
      clear hs
      go_wp2_with fail
      refine (HC.out _).mono ?_
      rintro e w1 ⟨rfl, hb1⟩
      have hown1 := own_below (show wr.ownsRow (w.heap.size + 1) 3 1 _ (vl a b c d k).length ((vl a b c d k).map (Value.int .i64)) from HO.out) hb1
      have HX1 := Lib.hid (c5_on HX.out hb1)
      have HB1 := Lib.hid (HB.out.trans (hb1.mono (by omega)))
      have hsz2 : w.heap.size < w1.heap.size := Nat.lt_of_lt_of_le hsz1 hb1.size
      by_cases h0 : s = 0
      · subst h0
        have HN := Lib.hid (show OwnI w1 (w.heap.size + 1) _ (vl a b c d (k + 1)) by rw [vl_drop HS.out]; exact hown1)
        clear hown1
        go_wp2
        go_roundw
        case rel => exact ⟨k + 1, by omega, by go_num, HN.out, HB1.out, HX1.out, hsz2⟩
        case measure => simp [intOf]; omega
      · have hs0 : (s == 0) = false := by simpa using h0
        have HK := Lib.hid (vl_keep (k := k) (a := a) (b := b) (c := c) (d := d) (by rw [HS.out]; exact h0))
        clear h0
        go_wp2_with (at_builtin; refine wpList_append_own _ rfl _ _ 74 rfl (w.heap.size + 1) 3 i0 (.int .i64 0) 1 8 Try.underlying74 hi hz0 hz1 hz2 rfl (by decide) _ _ _ rfl (hown1.alloc _) ⟨w1.heap.size, 0, none⟩ 1 1 [.int .i64 k] rfl rfl ?c1 ?c2 ?c3 ?c4 ?c5 ?_)
        case c1 =>
          intro j u hj
          match j, hj with
          | 0, hj => simp at hj; subst hj; simp [Addr.add]
        case c2 => intro u hu; simp at hu; subst hu; rfl
        case c3 => unfold maxLen; omega
        case c4 => omega
        case c5 => simp; omega
        · intro v' w2 hown2 hgrow _
          have hbA : Below w1.heap.size w1 (w1.alloc (.cells #[.int .i64 k] 3)) := by go_grown
          have HN : Hid (OwnI w2 (w.heap.size + 1) v' (vl a b c d (k + 1))) := by
            show w2.ownsRow _ _ _ _ _ _
            rw [HK.out]
            simpa using hown2
          have HB2 : Hid (Below w.heap.size w w2) := grown_below (HB1.out.trans (hbA.mono (by omega))) (own_below hown1 hbA) (by omega) hgrow
          have HX2 : Hid (C5 w2 w.heap.size a b c d n) := c5_grown (c5_on HX1.out hbA) (own_below hown1 hbA) (by omega) hgrow
          have hsz3 : w.heap.size < w2.heap.size := by have := hgrow.size; simp at this; omega
          clear hown1 hown2 hgrow hbA
          go_wp2
          go_roundw
          case rel => exact ⟨k + 1, by omega, by go_num, HN.out, HB2.out, HX2.out, hsz3⟩
          case measure => simp [intOf]; omega
    · obtain rfl : k = 4 := by omega
      clear hx1
      go_wp2
      go_ret
      exact ⟨_, rfl, own_mono HO.out (by omega), HB.out⟩

end Go.Proofs.Ytcgolbkpfncgpaa
