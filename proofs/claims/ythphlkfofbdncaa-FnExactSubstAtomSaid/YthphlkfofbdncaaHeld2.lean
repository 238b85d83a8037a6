/- What a statement that calls and keeps two results leaves behind. -/
import Derived.Test.YthphlkfofbdncaaHeld
namespace Go.Proofs.Ythphlkfofbdncaa
open Go.RowKit

/-- What a statement 'r, ok := f(..)' leaves: r in a box that is newer than W0, and nothing of W0 has turned. -/
def ResAt (W0 : World) (r0 r1 r2 r3 r4 : Int) (ok : Bool) (p q : Value) (W : World) : Prop :=
  ∃ z, p = .pointer (some ⟨z, 0, none⟩) ∧ q = .bool ok ∧ C5 W z r0 r1 r2 r3 r4 ∧ Below W0.heap.size W0 W

theorem c5_new {w : World} {r0 r1 r2 r3 r4 : Int} {t : TypeId} : C5 (w.alloc (.cells #[.int .i64 r0, .int .i64 r1, .int .i64 r2, .int .i64 r3, .int .i64 r4] t)) w.heap.size r0 r1 r2 r3 r4 := by
  refine ⟨?_, ?_, ?_, ?_, ?_, ?_⟩ <;> simp [go_sem]

theorem c5_set {w : World} {z : Nat} {c0 c1 c2 c3 c4 r0 r1 r2 r3 r4 : Int} (h : C5 w z c0 c1 c2 c3 c4) : C5 (put5 w z (.int .i64 r0) (.int .i64 r1) (.int .i64 r2) (.int .i64 r3) (.int .i64 r4)) z r0 r1 r2 r3 r4 := by
  obtain ⟨g, g0, g1, g2, g3, g4⟩ := h
  refine c5_of ⟨?_, ?_, ?_, ?_, ?_⟩ <;> unfold put5 <;> simp [go_sem, *]

theorem c5_set2 {Wc w : World} {z : Nat} {c0 c1 c2 c3 c4 r0 r1 r2 r3 r4 : Int} (hb : Below Wc.heap.size Wc w) (h : C5 Wc z c0 c1 c2 c3 c4) :
    C5 (((((w.setCell ⟨z, 0, none⟩ (.int .i64 r0)).setCell ⟨z, 1, none⟩ (.int .i64 r1)).setCell ⟨z, 2, none⟩ (.int .i64 r2)).setCell ⟨z, 3, none⟩ (.int .i64 r3)).setCell ⟨z, 4, none⟩ (.int .i64 r4)) z r0 r1 r2 r3 r4 :=
  c5_set (c5_on h hb)

end Go.Proofs.Ythphlkfofbdncaa
