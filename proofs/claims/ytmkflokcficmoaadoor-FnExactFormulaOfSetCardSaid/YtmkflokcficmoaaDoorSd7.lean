/- Several texts in one: SdA SdB SdC SdD SdE. -/
import Derived.Test.YtmkflokcficmoaaDoorSj7
import Derived.Test.YtmkflokcficmoaaDoorSa7
import Derived.Test.YtmkflokcficmoaaDoorDr1
import Derived.Test.YtmkflokcficmoaaDoorSetI
import Derived.Laws.OwnMore

/- DivideSet of the program. -/
namespace Go.Proofs.YtmkflokcficmoaaDoor
open Go.RowKit

/-- A quotient that is rounded up. -/
def ceilN (n d : Nat) : Nat := if n % d = 0 then n / d else n / d + 1
theorem ceil_le {n d : Nat} (hd : 0 < d) : n ≤ d * ceilN n d ∧ ceilN n d ≤ n + 1 := by
  have h1 := Nat.div_add_mod n d
  have h2 := Nat.mod_lt n hd
  have h3 := Nat.div_le_self n d
  unfold ceilN
  split
  · exact ⟨by omega, by omega⟩
  · exact ⟨by rw [Nat.mul_add, Nat.mul_one]; omega, by omega⟩

end Go.Proofs.YtmkflokcficmoaaDoor

/- The program's list of a set's first numbers. -/
namespace Go.Proofs.YtmkflokcficmoaaDoor
open Go.RowKit

/-- The numbers of a set below a limit. -/
def blN (a : Nat → UInt8) (n : Nat) : List Nat := (List.range n).filter (inS a)
theorem bl_keep {a : Nat → UInt8} {k : Nat} (h : inS a k = true) : blN a (k + 1) = blN a k ++ [k] := by
  simp [blN, List.range_succ, List.filter_append, h]
theorem bl_drop {a : Nat → UInt8} {k : Nat} (h : inS a k = false) : blN a (k + 1) = blN a k := by
  simp [blN, List.range_succ, List.filter_append, h]
theorem bl_len (a : Nat → UInt8) (k : Nat) : (blN a k).length ≤ k := by
  have := List.length_filter_le (inS a) (List.range k)
  simpa [blN] using this
theorem bl_mem {a : Nat → UInt8} {n x : Nat} : x ∈ blN a n ↔ x < n ∧ inS a x = true := by simp [blN]
def nV (x : Nat) : Value := .int .i64 (x : Int)
/-- The slice v is made since block B and holds the numbers L. -/
def OwnN (w : World) (B : Nat) (v : Value) (L : List Nat) : Prop := w.ownsRow B 3 1 v L.length (L.map nV)
theorem Tryd.infoInt7 : (Tryd.prog.info? 3).map (fun i => (i.zero, i.size, i.bytes)) = some (some (.int .i64 0), 1, 8) := by kernel_rfl
theorem grown_b7 {w W W' : World} {v : Value} {B e size n : Nat} {xs : List Value} (hb : Below w.heap.size w W) (hown : W.ownsRow B e size v n xs) (hB : w.heap.size ≤ B) (hg : W.grownBy W' v.ownBlock) : Below w.heap.size w W' :=
  ⟨hg.os.trans hb.os, hg.tape.trans hb.tape, hg.output.trans hb.output, Nat.le_trans hb.size hg.size, fun i hi =>
    (hg.block i (Nat.lt_of_lt_of_le hi hb.size) (fun e => by have := hown.lt i e.symm; omega)).trans (hb.block i hi)⟩
/-- Two cells of a box. -/
def w2cells (w : World) (b : Nat) (x y : ByteArray) : Prop := b < w.heap.size ∧ w.cell? ⟨b, 0, none⟩ = some (.string x) ∧ w.cell? ⟨b, 1, none⟩ = some (.string y)
theorem w2_on {W w' : World} {b : Nat} {x y : ByteArray} (h : w2cells W b x y) (hb : Below W.heap.size W w') : w2cells w' b x y :=
  ⟨Nat.lt_of_lt_of_le h.1 hb.size, ((bcell hb).1 b 0 h.1).trans h.2.1, ((bcell hb).1 b 1 h.1).trans h.2.2⟩
theorem w2_grown {W W' : World} {x : Nat} {u v : ByteArray} {z : Value} {B e size m : Nat} {xs : List Value} (h : w2cells W x u v) (hown : W.ownsRow B e size z m xs) (hB : x < B) (hg : W.grownBy W' z.ownBlock) : w2cells W' x u v := by
  have f : ∀ o, W'.cell? ⟨x, o, none⟩ = W.cell? ⟨x, o, none⟩ := fun o => World.cell?_of_block (hg.block x h.1 (fun e => by have := hown.lt x e.symm; omega))
  exact ⟨Nat.lt_of_lt_of_le h.1 hg.size, (f 0).trans h.2.1, (f 1).trans h.2.2⟩

set_option maxRecDepth 10000 in
set_option maxHeartbeats 1000000 in
theorem below_any (h l : List UInt8) (n : Nat) (w : World) (hl0 : l ≠ []) (hh : h.length ≤ 1000000000) (hl : l.length ≤ 1000000000) (hn : n ≤ 1000000) :
    Calls Tryd.prog 15 #[.agg #[.string (bs h), .string (bs l)], .int .i64 n] w fun e w' => ∃ v, e = .returned v ∧ OwnN w' w.heap.size v (blN (atS h l) n) ∧ Below w.heap.size w w' := by
  obtain ⟨i0, hi, hz0, hz1, hz2⟩ := info_parts Tryd.infoInt7
  have HH := Lib.hid fun (k : Nat) (hk : k ≤ 9223372036854775807) w => has_any h l k w hl0 hh hl hk
  obtain ⟨a, ha⟩ : ∃ a, atS h l = a := ⟨_, rfl⟩
  rw [ha] at HH
  rw [ha]
  clear ha hl0 hh hl
  go_enter Tryd.func15, Tryd.ntmps15
  go_wp2_with fail
  generalize hW : World.alloc w _ = W
  obtain ⟨hx, hsW, hw0⟩ := s2_new hW
  clear hW
  have HX0 := Lib.hid (show w2cells W w.heap.size (bs h) (bs l) from ⟨hx.1, hx.2.1, hx.2.2.1⟩)
  have HB0 := Lib.hid hw0
  clear hx hw0 hsW
  go_loopw [5, 8] (fun v i wr => ∃ k : Nat, k ≤ n ∧ i = .int .i64 k ∧ OwnN wr (w.heap.size + 1) v (blN a k) ∧ Below w.heap.size w wr ∧ w2cells wr w.heap.size (bs h) (bs l)) (fun _ i _ => n - (intOf i).toNat)
  case atStart => exact ⟨0, Nat.zero_le _, rfl, World.ownsRow_nil _ _ _ _, HB0.out, HX0.out⟩
  case round =>
    obtain ⟨k, hk, rfl, hown, hbw, hx1⟩ := hrel
    have hlen := bl_len a k
    have HO := Lib.hid hown
    have HB := Lib.hid hbw
    have HX := Lib.hid hx1
    clear hown hbw
    by_cases hkn : k < n
    · have hk' : (k : Int) < (n : Int) := by omega
      have hwk : IntKind.i64.wrap ((k : Int) + 1) = ((k + 1 : Nat) : Int) := by rw [IntKind.wrap_i64]; omega
      obtain ⟨x0, x1, x2⟩ := hx1
      obtain ⟨b, hb⟩ : ∃ b, inS a k = b := ⟨_, rfl⟩
      have HC := Lib.hid (HH.out k (by omega))
      rw [hb] at HC
      have HS := Lib.hid hb
      clear hb
      go_wp2_with fail
      refine (HC.out _).mono ?_
      rintro e w1 ⟨rfl, hb1⟩
      have hown1 := own_below (show wr.ownsRow (w.heap.size + 1) 3 1 _ (blN a k).length ((blN a k).map nV) from HO.out) hb1
      have HX1 := Lib.hid (w2_on HX.out hb1)
      have HB1 := Lib.hid (below_on HB.out hb1)
      have hsz2 : w.heap.size < w1.heap.size := HX1.out.1
      cases b with
      | false =>
        have HN := Lib.hid (show OwnN w1 (w.heap.size + 1) _ (blN a (k + 1)) by rw [bl_drop HS.out]; exact hown1)
        clear hown1 x0 x1 x2
        go_wp2
        go_roundw
        case rel => exact ⟨k + 1, by omega, rfl, HN.out, HB1.out, HX1.out⟩
        case measure => simp [intOf]; omega
      | true =>
        have HK := Lib.hid (bl_keep HS.out)
        clear x0 x1 x2
        go_wp2_with (at_builtin; refine wpList_append_own _ rfl _ _ 44 rfl (w.heap.size + 1) 3 i0 (.int .i64 0) 1 8 Tryd.underlying44 hi hz0 hz1 hz2 rfl (by decide) _ _ _ rfl (hown1.alloc _) ⟨w1.heap.size, 0, none⟩ 1 1 [nV k] rfl rfl ?c1 ?c2 ?c3 ?c4 ?c5 ?_)
        case c1 =>
          intro j u hj
          match j, hj with
          | 0, hj => simp at hj; subst hj; simp [Addr.add, nV]
        case c2 => intro u hu; simp at hu; subst hu; rfl
        case c3 => unfold maxLen; omega
        case c4 => omega
        case c5 => simp; omega
        · intro v' w2 hown2 hgrow _
          have hbA : Below w1.heap.size w1 (w1.alloc (.cells #[nV k] 3)) := by go_grown
          have HN : Hid (OwnN w2 (w.heap.size + 1) v' (blN a (k + 1))) := by
            show w2.ownsRow _ _ _ _ _ _
            rw [HK.out]
            simpa using hown2
          have HB2 : Hid (Below w.heap.size w w2) := grown_b7 (below_on HB1.out hbA) (own_below hown1 hbA) (by omega) hgrow
          have HX2 : Hid (w2cells w2 w.heap.size (bs h) (bs l)) := w2_grown (w2_on HX1.out hbA) (own_below hown1 hbA) (by omega) hgrow
          clear hown1 hown2 hgrow hbA
          go_wp2
          go_roundw
          case rel => exact ⟨k + 1, by omega, rfl, HN.out, HB2.out, HX2.out⟩
          case measure => simp [intOf]; omega
    · have hk' : ¬ (k : Int) < (n : Int) := by omega
      obtain rfl : k = n := by omega
      clear hx1
      go_wp2
      go_ret
      exact ⟨_, rfl, own_mono HO.out (Nat.le_succ _), HB.out⟩
end Go.Proofs.YtmkflokcficmoaaDoor

/- The program's sums below a limit. -/
namespace Go.Proofs.YtmkflokcficmoaaDoor
open Go.RowKit

/-- A list of numbers that lies from block B on. -/
def RdN (W : World) (B : Nat) (sp : Option Addr) (L : List Nat) : Prop := L.length = 0 ∨ ∃ g, sp = some ⟨g, 0, none⟩ ∧ B ≤ g ∧ g < W.heap.size ∧ ∀ (i : Nat) x, L[i]? = some x → W.cell? ⟨g, i, none⟩ = some (.int .i64 (x : Int))
theorem own_rd {w : World} {B : Nat} {v : Value} {L : List Nat} (h : OwnN w B v L) : ∃ sp cap, v = .slice sp L.length cap ∧ L.length ≤ cap ∧ cap ≤ maxLen ∧ RdN w B sp L := by
  have h' : w.ownsRow B 3 1 v L.length (L.map nV) := h
  obtain ⟨_, hv | ⟨g, cap, cur, hv, hB, hg, hn, hc, _, _⟩⟩ := h'
  · exact ⟨none, 0, by rw [hv.1, hv.2], by omega, by unfold maxLen; omega, .inl hv.2⟩
  · refine ⟨_, cap, hv, hn, hc, ?_⟩
    rcases Nat.eq_zero_or_pos L.length with h0 | h0
    · exact .inl h0
    · refine .inr ⟨g, rfl, hB, ?_, fun i x hx => ?_⟩
      · rcases Nat.lt_or_ge g w.heap.size with q | q
        · exact q
        · rw [Array.getElem?_eq_none q] at hg; cases hg
      · subst hv
        have hi := (List.getElem?_eq_some_iff.1 hx).1
        have := World.ownsRow.cellAt (show w.ownsRow B 3 1 (.slice (some ⟨g, 0, none⟩) L.length cap) L.length (L.map nV) from h) i (by omega)
        rw [this, List.getElem?_map, hx]
        rfl
theorem rdn_on {W w' : World} {B : Nat} {sp : Option Addr} {L : List Nat} (h : RdN W B sp L) (hb : Below W.heap.size W w') : RdN w' B sp L := by
  rcases h with h0 | ⟨g, e, hB, hg, hc⟩
  · exact .inl h0
  · exact .inr ⟨g, e, hB, Nat.lt_of_lt_of_le hg hb.size, fun i x hx => ((bcell hb).1 g i hg).trans (hc i x hx)⟩
theorem rdn_set {W : World} {B b j : Nat} {sp : Option Addr} {L : List Nat} {v : Value} (h : RdN W B sp L) (hb : b < B) : RdN (W.setCell ⟨b, j, none⟩ v) B sp L := by
  rcases h with h0 | ⟨g, e, hB, hg, hc⟩
  · exact .inl h0
  · exact .inr ⟨g, e, hB, by simpa [World.setCell] using hg, fun i x hx => by rw [World.cell?_setCell_far _ _ _ _ (by show b ≠ g; omega)]; exact hc i x hx⟩
/-- A row of bools. -/
def SB (W : World) (b : Nat) (g : Nat → Bool) (m : Nat) : Prop := ∃ c, W.heap[b]? = some (.cells c 4 (0, 0)) ∧ c.size = m ∧ ∀ i, i < m → c[i]? = some (.bool (g i))
theorem sb_on {W w' : World} {b m : Nat} {g : Nat → Bool} (h : SB W b g m) (hb : Below W.heap.size W w') : SB w' b g m := by
  obtain ⟨c, h1, h2, h3⟩ := h
  exact ⟨c, row_on h1 hb, h2, h3⟩
theorem sb_lt {W : World} {b m : Nat} {g : Nat → Bool} (h : SB W b g m) : b < W.heap.size := by
  obtain ⟨c, h1, _⟩ := h
  rcases Nat.lt_or_ge b W.heap.size with q | q
  · exact q
  · rw [Array.getElem?_eq_none q] at h1; cases h1
theorem sb_cell {W : World} {b m j : Nat} {g : Nat → Bool} (h : SB W b g m) (hj : j < m) : W.cell? ⟨b, j, none⟩ = some (.bool (g j)) ∧ W.frozen? ⟨b, j, none⟩ = false := by
  obtain ⟨c, h1, h2, h3⟩ := h
  exact ⟨by rw [cell_of_row _ _ _ _ _ _ h1]; exact h3 j hj, frozen_of_row _ _ _ _ _ h1⟩
theorem sb_put {W : World} {b m j : Nat} {g : Nat → Bool} (h : SB W b g m) (hj : j < m) : SB (W.setCell ⟨b, j, none⟩ (.bool true)) b (fun i => g i || decide (i = j)) m := by
  obtain ⟨c, h1, h2, h3⟩ := h
  refine ⟨_, heap_setCell_same _ _ _ _ _ _ h1, by simpa using h2, fun i hi => ?_⟩
  by_cases e : i = j
  · subst e
    rw [Array.getElem?_setIfInBounds_self_of_lt (by omega)]
    simp
  · rw [Array.getElem?_setIfInBounds_ne (by omega), h3 i hi]
    simp [e]
theorem sb_as {W : World} {b m : Nat} {g g' : Nat → Bool} (h : SB W b g m) (e : ∀ n, n < m → g n = g' n) : SB W b g' m := by
  obtain ⟨c, h1, h2, h3⟩ := h
  exact ⟨c, h1, h2, fun i hi => by rw [h3 i hi, e i hi]⟩
/-- What is told so far. -/
def gO (L1 L2 : List Nat) (k n : Nat) : Bool := (L1.take k).any fun x => L2.any fun y => decide (x + y = n)
def gI (L1 L2 : List Nat) (k x j n : Nat) : Bool := gO L1 L2 k n || (L2.take j).any fun y => decide (x + y = n)
theorem gI_zero (L1 L2 : List Nat) (k x n : Nat) : gI L1 L2 k x 0 n = gO L1 L2 k n := by unfold gI; simp
theorem gI_put {L1 L2 : List Nat} {k x j y n : Nat} (hy : L2[j]? = some y) : (gI L1 L2 k x j n || decide (n = x + y)) = gI L1 L2 k x (j + 1) n := by
  unfold gI
  rw [List.take_add_one, hy, Bool.or_assoc]
  congr 1
  simp [List.any_append]
  congr 1
  rw [decide_eq_decide]
  exact eq_comm
theorem gO_next {L1 L2 : List Nat} {k x n : Nat} (hx : L1[k]? = some x) : gO L1 L2 (k + 1) n = (gO L1 L2 k n || L2.any fun y => decide (x + y = n)) := by
  unfold gO
  rw [List.take_add_one, hx]
  simp [List.any_append]
theorem gI_all {L1 L2 : List Nat} {k x n : Nat} (hx : L1[k]? = some x) : gI L1 L2 k x L2.length n = gO L1 L2 (k + 1) n := by
  rw [gO_next hx]
  unfold gI
  rw [List.take_length]
theorem gI_stop {L1 : List Nat} {a : Nat → UInt8} {m k x j y n lim : Nat} (hx : L1[k]? = some x) (hy : (blN a m)[j]? = some y) (hs : lim ≤ x + y) (hn : n < lim) : gI L1 (blN a m) k x j n = gO L1 (blN a m) (k + 1) n := by
  rw [gO_next hx]
  unfold gI
  congr 1
  rw [Bool.eq_iff_iff, List.any_eq_true, List.any_eq_true]
  constructor
  · rintro ⟨z, hz, h⟩
    exact ⟨z, List.mem_of_mem_take hz, h⟩
  · rintro ⟨z, hz, h⟩
    refine ⟨z, ?_, h⟩
    have hzn : x + z = n := by simpa using h
    obtain ⟨i, hi, e⟩ := List.mem_iff_getElem.1 hz
    have hjl := (List.getElem?_eq_some_iff.1 hy).1
    have hji : i < j := by
      rcases Nat.lt_or_ge i j with q | q
      · exact q
      · exfalso
        have hp : (blN a m).Pairwise (· < ·) := List.Pairwise.filter _ List.pairwise_lt_range
        have hyz : y ≤ z := by
          rcases Nat.eq_or_lt_of_le q with q2 | q2
          · subst q2
            rw [List.getElem?_eq_getElem hi] at hy
            have := Option.some.inj hy
            omega
          · have := List.pairwise_iff_getElem.1 hp j i hjl hi q2
            have hy2 := (List.getElem?_eq_some_iff.1 hy).2
            omega
        omega
    rw [← e]
    exact List.mem_take_iff_getElem.2 ⟨i, by omega, rfl⟩
theorem gO_sum {a b : Nat → UInt8} {lim n : Nat} (hn : n < lim) : gO (blN a lim) (blN b lim) (blN a lim).length n = sumB a b n := by
  unfold gO
  rw [List.take_length, Bool.eq_iff_iff, List.any_eq_true, sumB_iff]
  constructor
  · rintro ⟨x, hx, h⟩
    obtain ⟨y, hy, h2⟩ := List.any_eq_true.1 h
    exact ⟨x, y, by simpa using h2, (bl_mem.1 hx).2, (bl_mem.1 hy).2⟩
  · rintro ⟨x, y, e, h1, h2⟩
    exact ⟨x, bl_mem.2 ⟨by omega, h1⟩, List.any_eq_true.2 ⟨y, bl_mem.2 ⟨by omega, h2⟩, by simpa using e⟩⟩
end Go.Proofs.YtmkflokcficmoaaDoor

/- The program's sumsBelow. -/
namespace Go.Proofs.YtmkflokcficmoaaDoor
open Go.RowKit

end Go.Proofs.YtmkflokcficmoaaDoor

/- SumSets of the program. -/
namespace Go.Proofs.YtmkflokcficmoaaDoor
open Go.RowKit

/-- What SumSets answers. -/
noncomputable def smR (h l h' l' : List UInt8) : (List UInt8 × List UInt8) × Bool := if ((svS h l && svS h' l') && decide (l.length * l'.length ≤ 400)) = true then resA (smA (atS h l) (atS h' l')) else (([], []), false)
theorem sm_per {h l h' l' : List UInt8} (hl : l ≠ []) (hl' : l' ≠ []) : 0 < lcL2 l l' ∧ PerS (smA (atS h l) (atS h' l')) (h.length + h'.length + lcL2 l l') (lcL2 l l') := by
  have p1 : 0 < l.length := List.length_pos_iff.2 hl
  have p2 : 0 < l'.length := List.length_pos_iff.2 hl'
  obtain ⟨d1, d2⟩ := lcm_both l.length l'.length
  exact ⟨lcm_pos p1 p2, per_sm2 (per_lcm (per_at h l) d1) (per_lcm (per_at h' l') d2)⟩

end Go.Proofs.YtmkflokcficmoaaDoor
