/- Free variables: the contracts of the model's l3Free and FreeVars. -/
import Derived.Test.YtmkflokcficmoaaDoorFormM
import Derived.Test.YtmkflokcficmoaaDoorLawL
namespace Go.Proofs.YtmkflokcficmoaaDoor
open Go.RowKit

/-- Whether a variable is free in a formula, if it is told whether it is free in a part. -/
def fr1 (h : FH) (v : Int) (sub : Bool) : Bool := if qB h.k = true ∧ h.v = v then false else if h.k = 2 then decide (sel h.a h.b h.c h.d v 0 ≠ 0) else sub
/-- Whether a variable is free in one of the formulas of a list. -/
def Fo.fr (v : Int) : Fo → Bool
  | .nil => false
  | .cons h s r => fr1 h v (s.fr v) || r.fr v

/-- The numbers below k that a test takes. -/
def fl (p : Int → Bool) (k : Nat) : List Int := ((List.range k).filter fun v : Nat => p (Int.ofNat v)).map fun v : Nat => Int.ofNat v
theorem fl_keep {p : Int → Bool} {k : Nat} (h : p (k : Int) = true) : fl p (k + 1) = fl p k ++ [(k : Int)] := by
  simp [fl, List.range_succ, List.filter_append, h]
theorem fl_drop {p : Int → Bool} {k : Nat} (h : p (k : Int) = false) : fl p (k + 1) = fl p k := by
  simp [fl, List.range_succ, List.filter_append, h]
theorem fl_len (p : Int → Bool) (k : Nat) : (fl p k).length ≤ k := by
  have := List.length_filter_le (fun v : Nat => p (Int.ofNat v)) (List.range k)
  simpa [fl] using this
/-- The free variables of a formula. -/
def fvL (h : FH) (f : Fo) : List Int := if vfB h f = true then fl (fun v => fr1 h v (f.fr v)) 4 else []
theorem fvL_len (h : FH) (f : Fo) : (fvL h f).length ≤ 4 := by
  unfold fvL
  split
  · exact fl_len _ 4
  · simp

def FvT (L : List Int) (w : World) (e : Ending) (w' : World) : Prop := ∃ v, e = .returned v ∧ OwnI w' w.heap.size v L ∧ Below w.heap.size w w'

def FrR (h : FH) (f : Fo) (v : Int) (b o lo : Nat) (w : World) (s i : Value) (wr : World) : Prop :=
  ∃ (k : Nat) (r : Fo), i = .int .i64 k ∧ k + r.len = f.len ∧ r.size ≤ f.size ∧ f.fr v = r.fr v ∧ FEl w lo r b (o + k * 10) ∧ Below w.heap.size w wr ∧ C10 wr w.heap.size h s

theorem bT {b c : Bool} (h : b = c) : Ending.returned (.bool c) = .returned (.bool b) := by rw [h]

/-- What stands behind the test of the quantifier's variable. -/
theorem l3f_other {h : FH} {f : Fo} {v : Int} (hn : ¬ (qB h.k = true ∧ h.v = v)) : fr1 h v (f.fr v) = if h.k = 2 then decide (sel h.a h.b h.c h.d v 0 ≠ 0) else f.fr v := by
  unfold fr1; rw [if_neg hn]

def FvR (h : FH) (s : Value) (p : Int → Bool) (w : World) (v i : Value) (wr : World) : Prop :=
  ∃ k : Nat, k ≤ 4 ∧ i = .int .i64 k ∧ OwnI wr (w.heap.size + 1) v (fl p k) ∧ Below w.heap.size w wr ∧ C10 wr w.heap.size h s

theorem c10_own {W W' : World} {x : Nat} {h : FH} {s v : Value} {B e size m : Nat} {xs : List Value} (hx : C10 W x h s) (hown : W.ownsRow B e size v m xs) (hB : x < B) (hg : W.grownBy W' v.ownBlock) : C10 W' x h s :=
  c10_block hg.size (hg.block x hx.1 (fun e => by have := hown.lt x e.symm; omega)) hx

end Go.Proofs.YtmkflokcficmoaaDoor
