/- Lists of ints that a call has made: what they hold; and the contracts of TermVars of the program and of the model. -/
import Derived.Test.YtmkflokcficmoaaDoorBas
import Derived.Test.YtmkflokcficmoaaDoorHeld
import Derived.Test.YtmkflokcficmoaaDoorSpecB
import Derived.Test.YtmkflokcficmoaaDoorDr1
import Derived.Laws.OwnMore
namespace Go.Proofs.YtmkflokcficmoaaDoor
open Go.RowKit

/-- The slice v is made since block B and holds the ints L. -/
def OwnI (w : World) (B : Nat) (v : Value) (L : List Int) : Prop := w.ownsRow B 3 1 v L.length (L.map (Value.int .i64))

/-- The variables below k that occur. -/
def vl (a b c d : Int) (k : Nat) : List Int := ((List.range k).filter fun v : Nat => decide (sel a b c d (Int.ofNat v) 0 ≠ 0)).map fun v : Nat => Int.ofNat v

theorem vl_keep {a b c d : Int} {k : Nat} (h : sel a b c d (k : Int) 0 ≠ 0) : vl a b c d (k + 1) = vl a b c d k ++ [(k : Int)] := by
  simp [vl, List.range_succ, List.filter_append, h]
theorem vl_drop {a b c d : Int} {k : Nat} (h : sel a b c d (k : Int) 0 = 0) : vl a b c d (k + 1) = vl a b c d k := by
  simp [vl, List.range_succ, List.filter_append, h]
theorem vl_len (a b c d : Int) (k : Nat) : (vl a b c d k).length ≤ k := by
  have := List.length_filter_le (fun v : Nat => decide (sel a b c d (Int.ofNat v) 0 ≠ 0)) (List.range k)
  simpa [vl] using this

theorem Tryd.infoInt : (Tryd.prog.info? 3).map (fun i => (i.zero, i.size, i.bytes)) = some (some (.int .i64 0), 1, 8) := by kernel_rfl

/-- The loop of TermVars: what is gathered of the first k variables. -/
def TvR (a b c d n : Int) (w : World) (v i : Value) (wr : World) : Prop :=
  ∃ k : Nat, k ≤ 4 ∧ i = .int .i64 k ∧ OwnI wr (w.heap.size + 1) v (vl a b c d k) ∧ Below w.heap.size w wr ∧ C5 wr w.heap.size a b c d n ∧ w.heap.size < wr.heap.size

def VarsT (a b c d : Int) (w : World) (e : Ending) (w' : World) : Prop := ∃ v, e = .returned v ∧ OwnI w' w.heap.size v (vl a b c d 4) ∧ Below w.heap.size w w'

theorem grown_below {w W W' : World} {v : Value} {B e size n : Nat} {xs : List Value} (hb : Below w.heap.size w W) (hown : W.ownsRow B e size v n xs) (hB : w.heap.size ≤ B) (hg : W.grownBy W' v.ownBlock) : Below w.heap.size w W' :=
  ⟨hg.os.trans hb.os, hg.tape.trans hb.tape, hg.output.trans hb.output, Nat.le_trans hb.size hg.size, fun i hi =>
    (hg.block i (Nat.lt_of_lt_of_le hi hb.size) (fun e => by have := hown.lt i e.symm; omega)).trans (hb.block i hi)⟩

theorem c5_grown {W W' : World} {x : Nat} {a b c d n : Int} {v : Value} {B e size m : Nat} {xs : List Value} (h : C5 W x a b c d n) (hown : W.ownsRow B e size v m xs) (hB : x < B) (hg : W.grownBy W' v.ownBlock) : C5 W' x a b c d n := by
  have f : ∀ o, W'.cell? ⟨x, o, none⟩ = W.cell? ⟨x, o, none⟩ := fun o => World.cell?_of_block (hg.block x h.1 (fun e => by have := hown.lt x e.symm; omega))
  exact ⟨Nat.lt_of_lt_of_le h.1 hg.size, (f 0).trans h.2.1, (f 1).trans h.2.2.1, (f 2).trans h.2.2.2.1, (f 3).trans h.2.2.2.2.1, (f 4).trans h.2.2.2.2.2⟩

end Go.Proofs.YtmkflokcficmoaaDoor
