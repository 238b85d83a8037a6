/- The program's list of a set's first numbers. -/
import Derived.Test.YtmhpjaaffpomnaaDoorSetB
import Derived.Test.YtmhpjaaffpomnaaDoorSetD
import Derived.Test.YtmhpjaaffpomnaaDoorOwn
import Derived.Laws.OwnMore
namespace Go.Proofs.YtmhpjaaffpomnaaDoor
open Go.RowKit

/-- The numbers of a set below a limit. -/
def blN (a : Nat → UInt8) (n : Nat) : List Nat := (List.range n).filter (inS a)
theorem bl_keep {a : Nat → UInt8} {k : Nat} (h : inS a k = true) : blN a (k + 1) = blN a k ++ [k] := by
  simp [blN, List.range_succ, List.filter_append, h]
theorem bl_drop {a : Nat → UInt8} {k : Nat} (h : inS a k = false) : blN a (k + 1) = blN a k := by
  simp [blN, List.range_succ, List.filter_append, h]
theorem bl_len (a : Nat → UInt8) (k : Nat) : (blN a k).length ≤ k := by
  have := List.length_filter_le (inS a) (List.range k)
  simpa [blN] using this
theorem bl_mem {a : Nat → UInt8} {n x : Nat} : x ∈ blN a n ↔ x < n ∧ inS a x = true := by simp [blN]
def nV (x : Nat) : Value := .int .i64 (x : Int)
/-- The slice v is made since block B and holds the numbers L. -/
def OwnN (w : World) (B : Nat) (v : Value) (L : List Nat) : Prop := w.ownsRow B 3 1 v L.length (L.map nV)
theorem Tryd.infoInt7 : (Tryd.prog.info? 3).map (fun i => (i.zero, i.size, i.bytes)) = some (some (.int .i64 0), 1, 8) := by kernel_rfl
theorem grown_b7 {w W W' : World} {v : Value} {B e size n : Nat} {xs : List Value} (hb : Below w.heap.size w W) (hown : W.ownsRow B e size v n xs) (hB : w.heap.size ≤ B) (hg : W.grownBy W' v.ownBlock) : Below w.heap.size w W' :=
  ⟨hg.os.trans hb.os, hg.tape.trans hb.tape, hg.output.trans hb.output, Nat.le_trans hb.size hg.size, fun i hi =>
    (hg.block i (Nat.lt_of_lt_of_le hi hb.size) (fun e => by have := hown.lt i e.symm; omega)).trans (hb.block i hi)⟩
/-- Two cells of a box. -/
def w2cells (w : World) (b : Nat) (x y : ByteArray) : Prop := b < w.heap.size ∧ w.cell? ⟨b, 0, none⟩ = some (.string x) ∧ w.cell? ⟨b, 1, none⟩ = some (.string y)
theorem w2_on {W w' : World} {b : Nat} {x y : ByteArray} (h : w2cells W b x y) (hb : Below W.heap.size W w') : w2cells w' b x y :=
  ⟨Nat.lt_of_lt_of_le h.1 hb.size, ((bcell hb).1 b 0 h.1).trans h.2.1, ((bcell hb).1 b 1 h.1).trans h.2.2⟩
theorem w2_grown {W W' : World} {x : Nat} {u v : ByteArray} {z : Value} {B e size m : Nat} {xs : List Value} (h : w2cells W x u v) (hown : W.ownsRow B e size z m xs) (hB : x < B) (hg : W.grownBy W' z.ownBlock) : w2cells W' x u v := by
  have f : ∀ o, W'.cell? ⟨x, o, none⟩ = W.cell? ⟨x, o, none⟩ := fun o => World.cell?_of_block (hg.block x h.1 (fun e => by have := hown.lt x e.symm; omega))
  exact ⟨Nat.lt_of_lt_of_le h.1 hg.size, (f 0).trans h.2.1, (f 1).trans h.2.2⟩

set_option maxRecDepth 10000 in
set_option maxHeartbeats 1000000 in
theorem below_any (h l : List UInt8) (n : Nat) (w : World) (hl0 : l ≠ []) (hh : h.length ≤ 1000000000) (hl : l.length ≤ 1000000000) (hn : n ≤ 1000000) :
    Calls Tryd.prog 86 #[.agg #[.string (bs h), .string (bs l)], .int .i64 n] w fun e w' => ∃ v, e = .returned v ∧ OwnN w' w.heap.size v (blN (atS h l) n) ∧ Below w.heap.size w w' := by
  obtain ⟨i0, hi, hz0, hz1, hz2⟩ := info_parts Tryd.infoInt7
  have HH := Lib.hid fun (k : Nat) (hk : k ≤ 9223372036854775807) w => has_any h l k w hl0 hh hl hk
  obtain ⟨a, ha⟩ : ∃ a, atS h l = a := ⟨_, rfl⟩
  rw [ha] at HH
  rw [ha]
  clear ha hl0 hh hl
  go_enter Tryd.func86, Tryd.ntmps86
  go_wp2_with fail
  generalize hW : World.alloc w _ = W
  obtain ⟨hx, hsW, hw0⟩ := s2_new hW
  clear hW
  have HX0 := Lib.hid (show w2cells W w.heap.size (bs h) (bs l) from ⟨hx.1, hx.2.1, hx.2.2.1⟩)
  have HB0 := Lib.hid hw0
  clear hx hw0 hsW
  go_loopw [5, 8] (fun v i wr => ∃ k : Nat, k ≤ n ∧ i = .int .i64 k ∧ OwnN wr (w.heap.size + 1) v (blN a k) ∧ Below w.heap.size w wr ∧ w2cells wr w.heap.size (bs h) (bs l)) (fun _ i _ => n - (intOf i).toNat)
  case atStart => exact ⟨0, Nat.zero_le _, rfl, World.ownsRow_nil _ _ _ _, HB0.out, HX0.out⟩
  case round =>
    obtain ⟨k, hk, rfl, hown, hbw, hx1⟩ := hrel
    have hlen := bl_len a k
    have HO := Lib.hid hown
    have HB := Lib.hid hbw
    have HX := Lib.hid hx1
    clear hown hbw
    by_cases hkn : k < n
    · have hk' : (k : Int) < (n : Int) := by omega
      have hwk : IntKind.i64.wrap ((k : Int) + 1) = ((k + 1 : Nat) : Int) := by rw [IntKind.wrap_i64]; omega
      obtain ⟨x0, x1, x2⟩ := hx1
      obtain ⟨b, hb⟩ : ∃ b, inS a k = b := ⟨_, rfl⟩
      have HC := Lib.hid (HH.out k (by omega))
      rw [hb] at HC
      have HS := Lib.hid hb
      clear hb
      go_wp2_with fail
      refine (HC.out _).mono ?_
      rintro e w1 ⟨rfl, hb1⟩
      have hown1 := own_below (show wr.ownsRow (w.heap.size + 1) 3 1 _ (blN a k).length ((blN a k).map nV) from HO.out) hb1
      have HX1 := Lib.hid (w2_on HX.out hb1)
      have HB1 := Lib.hid (below_on HB.out hb1)
      have hsz2 : w.heap.size < w1.heap.size := HX1.out.1
      cases b with
      | false =>
        have HN := Lib.hid (show OwnN w1 (w.heap.size + 1) _ (blN a (k + 1)) by rw [bl_drop HS.out]; exact hown1)
        clear hown1 x0 x1 x2
        go_wp2
        go_roundw
        case rel => exact ⟨k + 1, by omega, rfl, HN.out, HB1.out, HX1.out⟩
        case measure => simp [intOf]; omega
      | true =>
        have HK := Lib.hid (bl_keep HS.out)
        clear x0 x1 x2
        go_wp2_with (at_builtin; refine wpList_append_own _ rfl _ _ 68 rfl (w.heap.size + 1) 3 i0 (.int .i64 0) 1 8 Tryd.underlying68 hi hz0 hz1 hz2 rfl (by decide) _ _ _ rfl (hown1.alloc _) ⟨w1.heap.size, 0, none⟩ 1 1 [nV k] rfl rfl ?c1 ?c2 ?c3 ?c4 ?c5 ?_)
        case c1 =>
          intro j u hj
          match j, hj with
          | 0, hj => simp at hj; subst hj; simp [Addr.add, nV]
        case c2 => intro u hu; simp at hu; subst hu; rfl
        case c3 => unfold maxLen; omega
        case c4 => omega
        case c5 => simp; omega
        · intro v' w2 hown2 hgrow _
          have hbA : Below w1.heap.size w1 (w1.alloc (.cells #[nV k] 3)) := by go_grown
          have HN : Hid (OwnN w2 (w.heap.size + 1) v' (blN a (k + 1))) := by
            show w2.ownsRow _ _ _ _ _ _
            rw [HK.out]
            simpa using hown2
          have HB2 : Hid (Below w.heap.size w w2) := grown_b7 (below_on HB1.out hbA) (own_below hown1 hbA) (by omega) hgrow
          have HX2 : Hid (w2cells w2 w.heap.size (bs h) (bs l)) := w2_grown (w2_on HX1.out hbA) (own_below hown1 hbA) (by omega) hgrow
          clear hown1 hown2 hgrow hbA
          go_wp2
          go_roundw
          case rel => exact ⟨k + 1, by omega, rfl, HN.out, HB2.out, HX2.out⟩
          case measure => simp [intOf]; omega
    · have hk' : ¬ (k : Int) < (n : Int) := by omega
      obtain rfl : k = n := by omega
      clear hx1
      go_wp2
      go_ret
      exact ⟨_, rfl, own_mono HO.out (Nat.le_succ _), HB.out⟩
end Go.Proofs.YtmhpjaaffpomnaaDoor
