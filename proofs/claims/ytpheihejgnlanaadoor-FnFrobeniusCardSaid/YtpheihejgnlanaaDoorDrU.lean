/- What the laws of chapter 7 draw as arguments: a set, a set and a number, two sets; nothing old turns. -/
import Derived.Test.YtpheihejgnlanaaDoorDrT
import Derived.Test.YtpheihejgnlanaaDoorSf7
namespace Go.Proofs.YtpheihejgnlanaaDoor
open Go.RowKit

def Dr1S (w : World) (e : Ending) (w' : World) : Prop := ∃ h l : List UInt8, e = .returned (.agg #[.string (bs h), .string (bs l)]) ∧ SmL h l ∧ Below w.heap.size w w'
def Dr1N (w : World) (e : Ending) (w' : World) : Prop := ∃ (h l : List UInt8) (n : Int), e = .returned (.tuple #[.agg #[.string (bs h), .string (bs l)], .int .i64 n]) ∧ SmL h l ∧ BigN n ∧ Below w.heap.size w w'
def Dr2S (w : World) (e : Ending) (w' : World) : Prop := ∃ h l h' l' : List UInt8, e = .returned (.tuple #[.agg #[.string (bs h), .string (bs l)], .agg #[.string (bs h'), .string (bs l')]]) ∧ SmL h l ∧ SmL h' l' ∧ Below w.heap.size w w'
def IntG7 (r : Nat) (p K : Int) (w : World) (e : Ending) (w' : World) : Prop := ∃ x : Int, e = .returned (.int .i64 x) ∧ BigN x ∧ Turned r p K w w'

theorem four_at_i {w : World} {b : Nat} {x y z u : Int} (h0 : w.cell? ⟨b, 0, none⟩ = some (.int .i64 x)) (h1 : w.cell? ⟨b, 1, none⟩ = some (.int .i64 y)) (h2 : w.cell? ⟨b, 2, none⟩ = some (.int .i64 z)) (h3 : w.cell? ⟨b, 3, none⟩ = some (.int .i64 u)) :
    ∀ (i : Nat) v, ([x, y, z, u] : List Int)[i]? = some v → w.cell? ⟨b, i, none⟩ = some (.int .i64 v) := by
  intro i v hv
  match i, hv with
  | 0, hv => simp at hv; subst hv; exact h0
  | 1, hv => simp at hv; subst hv; exact h1
  | 2, hv => simp at hv; subst hv; exact h2
  | 3, hv => simp at hv; subst hv; exact h3

theorem res_small7 (a : Nat → UInt8) : (resA a).1.1.length ≤ 400 ∧ (resA a).1.2.length ≤ 240 := by
  unfold resA
  split
  · rename_i q
    exact q
  · simp
def TwoS (r : Nat) (p K : Int) (w : World) (e : Ending) (w' : World) : Prop := ∃ h l h' l' : List UInt8, e = .returned (.tuple #[.agg #[.string (bs h), .string (bs l)], .agg #[.string (bs h'), .string (bs l')]]) ∧ SmL h l ∧ SmL h' l' ∧ Turned r p K w w'
theorem norm_small (h l : List UInt8) : SmL (normR h l).1.1 (normR h l).1.2 := by
  unfold normR
  split
  · have := res_small7 (atS h l)
    exact ⟨by omega, by omega⟩
  · exact ⟨by simp, by simp⟩

end Go.Proofs.YtpheihejgnlanaaDoor
