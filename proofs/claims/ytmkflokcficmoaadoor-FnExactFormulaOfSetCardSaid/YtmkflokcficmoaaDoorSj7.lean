/- Several texts in one: SetJ SetK SetL. -/
import Derived.Test.YtmkflokcficmoaaDoorSetI
import Derived.Test.YtmkflokcficmoaaDoorNbA
import Derived.Test.YtmkflokcficmoaaDoorNum1

/- The program's commonLoop, combined over any choice, UnionSets, MeetSets, OtherSet. -/
namespace Go.Proofs.YtmkflokcficmoaaDoor
open Go.RowKit

/-- The loop of two sets. -/
def lcL2 (l l' : List UInt8) : Nat := l.length / Nat.gcd l.length l'.length * l'.length
theorem tdiv_n2 (a b : Nat) : (a : Int).tdiv (b : Int) = ((a / b : Nat) : Int) := by rw [Int.tdiv_eq_ediv_of_nonneg (by omega)]; rfl

/-- A box of one value. -/
def FB (w : World) (b : Nat) (v : Value) : Prop := b < w.heap.size ∧ w.cell? ⟨b, 0, none⟩ = some v
theorem fb_on {W w' : World} {b : Nat} {v : Value} (h : FB W b v) (hb : Below W.heap.size W w') : FB w' b v :=
  ⟨Nat.lt_of_lt_of_le h.1 hb.size, ((bcell hb).1 b 0 h.1).trans h.2⟩
theorem fb_new {w W : World} {v : Value} {t : TypeId} (hW : w.alloc (.cells #[v] t) = W) : FB W w.heap.size v ∧ W.heap.size = w.heap.size + 1 ∧ Below w.heap.size w W := by
  subst hW
  exact ⟨⟨by simp, by simp [go_sem]⟩, by simp, by go_grown⟩
/-- What a choice answers. -/
def ChF (G : Nat) (g : Bool → Bool → Bool) : Prop := ∀ x y W, Calls Tryd.prog G #[.bool x, .bool y] W fun e w' => e = .returned (.bool (g x y)) ∧ Below W.heap.size W w'

/-- What combined answers. -/
noncomputable def combR (g : Bool → Bool → Bool) (h l h' l' : List UInt8) : (List UInt8 × List UInt8) × Bool := if (svS h l && svS h' l') = true then resA (fun n => bitS (g (inS (atS h l) n) (inS (atS h' l') n))) else (([], []), false)
theorem comb_per {g : Bool → Bool → Bool} {h l h' l' : List UInt8} (hl : l ≠ []) (hl' : l' ≠ []) : 0 < lcL2 l l' ∧ PerS (fun n => bitS (g (inS (atS h l) n) (inS (atS h' l') n))) (max h.length h'.length) (lcL2 l l') := by
  have p1 : 0 < l.length := List.length_pos_iff.2 hl
  have p2 : 0 < l'.length := List.length_pos_iff.2 hl'
  obtain ⟨d1, d2⟩ := lcm_both l.length l'.length
  have q1 := per_up (per_lcm (per_at h l) d1) (Nat.le_max_left h.length h'.length)
  have q2 := per_up (per_lcm (per_at h' l') d2) (Nat.le_max_right h.length h'.length)
  refine ⟨lcm_pos p1 p2, fun n hn => ?_⟩
  show bitS (g (inS (atS h l) (n + lcL2 l l')) (inS (atS h' l') (n + lcL2 l l'))) = _
  have e1 : inS (atS h l) (n + lcL2 l l') = inS (atS h l) n := by unfold inS lcL2; rw [q1 n hn]
  have e2 : inS (atS h' l') (n + lcL2 l l') = inS (atS h' l') n := by unfold inS lcL2; rw [q2 n hn]
  rw [e1, e2]
end Go.Proofs.YtmkflokcficmoaaDoor

/- UnionSets, MeetSets, OtherSet, ProgressionSet, ShiftSet, StretchSet, DivideSet of the program. -/
namespace Go.Proofs.YtmkflokcficmoaaDoor
open Go.RowKit

/-- What ProgressionSet answers. -/
noncomputable def prR (f s : Int) : (List UInt8 × List UInt8) × Bool := if (decide (0 ≤ f ∧ f ≤ 400) && decide (0 ≤ s ∧ s ≤ 240)) = true then resA (prA f.toNat s.toNat) else (([], []), false)
theorem pr_bits (f s n : Nat) : bitS (inS (prA f s) n) = prA f s n := bits_in (bits_bit (f := fun n => decide (f ≤ n) && (if s = 0 then decide (n = f) else decide ((n - f) % s = 0)))) n
end Go.Proofs.YtmkflokcficmoaaDoor

/- ShiftSet, StretchSet, DivideSet of the program. -/
namespace Go.Proofs.YtmkflokcficmoaaDoor
open Go.RowKit

/-- What ShiftSet, StretchSet, DivideSet answer. -/
noncomputable def shR (h l : List UInt8) (k : Int) : (List UInt8 × List UInt8) × Bool := if (svS h l && decide (0 ≤ k ∧ k ≤ 400)) = true then resA (shA (atS h l) k.toNat) else (([], []), false)
noncomputable def stR (h l : List UInt8) (k : Int) : (List UInt8 × List UInt8) × Bool := if (svS h l && decide (1 ≤ k ∧ k ≤ 240)) = true then resA (stA (atS h l) k.toNat) else (([], []), false)
noncomputable def dvR (h l : List UInt8) (k : Int) : (List UInt8 × List UInt8) × Bool := if (svS h l && decide (1 ≤ k ∧ k ≤ 240)) = true then resA (dvA (atS h l) k.toNat) else (([], []), false)
end Go.Proofs.YtmkflokcficmoaaDoor
