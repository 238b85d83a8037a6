/- Several texts in one: ImplA ImplB ImplE SpecE SpecI Held2 AtI. -/
import Derived.Test.YtjgmoledhkikcaaDoorBas
import Derived.Test.YtjgmoledhkikcaaDoorHeld
import Derived.Test.YtjgmoledhkikcaaDoorSpecC
import Derived.Test.YtjgmoledhkikcaaDoorSpecD
import Derived.Test.YtjgmoledhkikcaaDoorAtC
import Derived.Deep.DeepCutAuto

/- Contracts of PointValid, ValueOf, WithValue and EvalTerm of the program. -/
namespace Go.Proofs.YtjgmoledhkikcaaDoor
open Go.RowKit

def put (a i v n : Int) : Int := if v = i then n else a

end Go.Proofs.YtjgmoledhkikcaaDoor

/- Contracts of EvalTerm of the program. -/
namespace Go.Proofs.YtjgmoledhkikcaaDoor
open Go.RowKit

end Go.Proofs.YtjgmoledhkikcaaDoor

/- Contracts of SubstTerm of the program. -/
namespace Go.Proofs.YtjgmoledhkikcaaDoor
open Go.RowKit

theorem sel_bd {a b c d n v : Int} (h : tvB a b c d n = true) : -100 ≤ sel a b c d v 0 ∧ sel a b c d v 0 ≤ 100 := by
  have q := tv_bd h
  unfold sel
  split <;> (try split) <;> (try split) <;> (try split) <;> omega

theorem drop_bd {v i x M : Int} (h0 : -M ≤ x) (h1 : x ≤ M) : -M ≤ (if v = i then 0 else x) ∧ (if v = i then 0 else x) ≤ M := by
  split <;> omega

end Go.Proofs.YtjgmoledhkikcaaDoor

/- Contracts of the model's l1Result and l1Without. -/
namespace Go.Proofs.YtjgmoledhkikcaaDoor
open Go.RowKit

end Go.Proofs.YtjgmoledhkikcaaDoor

/- Contracts of the model's SubstTerm. -/
namespace Go.Proofs.YtjgmoledhkikcaaDoor
open Go.RowKit

end Go.Proofs.YtjgmoledhkikcaaDoor

/- What a statement that calls and keeps two results leaves behind. -/
namespace Go.Proofs.YtjgmoledhkikcaaDoor
open Go.RowKit

/-- What a statement 'r, ok := f(..)' leaves: r in a box that is newer than W0, and nothing of W0 has turned. -/
def ResAt (W0 : World) (r0 r1 r2 r3 r4 : Int) (ok : Bool) (p q : Value) (W : World) : Prop :=
  ∃ z, p = .pointer (some ⟨z, 0, none⟩) ∧ q = .bool ok ∧ C5 W z r0 r1 r2 r3 r4 ∧ Below W0.heap.size W0 W

theorem c5_new {w : World} {r0 r1 r2 r3 r4 : Int} {t : TypeId} : C5 (w.alloc (.cells #[.int .i64 r0, .int .i64 r1, .int .i64 r2, .int .i64 r3, .int .i64 r4] t)) w.heap.size r0 r1 r2 r3 r4 := by
  refine ⟨?_, ?_, ?_, ?_, ?_, ?_⟩ <;> simp [go_sem]

theorem c5_set {w : World} {z : Nat} {c0 c1 c2 c3 c4 r0 r1 r2 r3 r4 : Int} (h : C5 w z c0 c1 c2 c3 c4) : C5 (put5 w z (.int .i64 r0) (.int .i64 r1) (.int .i64 r2) (.int .i64 r3) (.int .i64 r4)) z r0 r1 r2 r3 r4 := by
  obtain ⟨g, g0, g1, g2, g3, g4⟩ := h
  refine c5_of ⟨?_, ?_, ?_, ?_, ?_⟩ <;> unfold put5 <;> simp [go_sem, *]

theorem c5_set2 {Wc w : World} {z : Nat} {c0 c1 c2 c3 c4 r0 r1 r2 r3 r4 : Int} (hb : Below Wc.heap.size Wc w) (h : C5 Wc z c0 c1 c2 c3 c4) :
    C5 (((((w.setCell ⟨z, 0, none⟩ (.int .i64 r0)).setCell ⟨z, 1, none⟩ (.int .i64 r1)).setCell ⟨z, 2, none⟩ (.int .i64 r2)).setCell ⟨z, 3, none⟩ (.int .i64 r3)).setCell ⟨z, 4, none⟩ (.int .i64 r4)) z r0 r1 r2 r3 r4 :=
  c5_set (c5_on h hb)

end Go.Proofs.YtjgmoledhkikcaaDoor

/- Contracts of SubstAtom of the program and of the model; the walk of the law that says that they agree. -/
namespace Go.Proofs.YtjgmoledhkikcaaDoor
open Go.RowKit

def ResA (W0 : World) (r0 r1 r2 r3 r4 r5 r6 : Int) (ok : Bool) (p q : Value) (W : World) : Prop :=
  ∃ z, p = .pointer (some ⟨z, 0, none⟩) ∧ q = .bool ok ∧ C7 W z r0 r1 r2 r3 r4 r5 r6 ∧ Below W0.heap.size W0 W
theorem c7_new {w : World} {r0 r1 r2 r3 r4 r5 r6 : Int} {t : TypeId} : C7 (w.alloc (.cells #[.int .i64 r0, .int .i64 r1, .int .i64 r2, .int .i64 r3, .int .i64 r4, .int .i64 r5, .int .i64 r6] t)) w.heap.size r0 r1 r2 r3 r4 r5 r6 := (by refine ⟨?_, ?_, ?_, ?_, ?_, ?_, ?_, ?_⟩ <;> first | (simp [go_sem]; done) | (simp; omega))
theorem c7_set2 {Wc w : World} {z : Nat} {c0 c1 c2 c3 c4 c5 c6 r0 r1 r2 r3 r4 r5 r6 : Int} (hb : Below Wc.heap.size Wc w) (h : C7 Wc z c0 c1 c2 c3 c4 c5 c6) :
    C7 (((((((w.setCell ⟨z, 0, none⟩ (.int .i64 r0)).setCell ⟨z, 1, none⟩ (.int .i64 r1)).setCell ⟨z, 2, none⟩ (.int .i64 r2)).setCell ⟨z, 3, none⟩ (.int .i64 r3)).setCell ⟨z, 4, none⟩ (.int .i64 r4)).setCell ⟨z, 5, none⟩ (.int .i64 r5)).setCell ⟨z, 6, none⟩ (.int .i64 r6)) z r0 r1 r2 r3 r4 r5 r6 := by
  obtain ⟨g, g0, g1, g2, g3, g4, g5, g6⟩ := c7_on h hb
  refine ⟨by simpa [World.setCell] using g, ?_, ?_, ?_, ?_, ?_, ?_, ?_⟩ <;> simp [go_sem, *]
theorem keep75 {W w' : World} {x y : Nat} {k m a b c d n a' b' c' d' n' : Int} (hx : C7 W x k m a b c d n) (hy : C5 W y a' b' c' d' n') (hB : Below W.heap.size W w') :
    Below W.heap.size W w' ∧ (w'.cell? ⟨x, 0, none⟩ = some (.int .i64 k) ∧ w'.cell? ⟨x, 1, none⟩ = some (.int .i64 m) ∧ w'.cell? ⟨x, 2, none⟩ = some (.int .i64 a) ∧ w'.cell? ⟨x, 3, none⟩ = some (.int .i64 b) ∧ w'.cell? ⟨x, 4, none⟩ = some (.int .i64 c) ∧ w'.cell? ⟨x, 5, none⟩ = some (.int .i64 d) ∧ w'.cell? ⟨x, 6, none⟩ = some (.int .i64 n)) ∧ (w'.cell? ⟨y, 0, none⟩ = some (.int .i64 a') ∧ w'.cell? ⟨y, 1, none⟩ = some (.int .i64 b') ∧ w'.cell? ⟨y, 2, none⟩ = some (.int .i64 c') ∧ w'.cell? ⟨y, 3, none⟩ = some (.int .i64 d') ∧ w'.cell? ⟨y, 4, none⟩ = some (.int .i64 n')) := ⟨hB, (c7_on hx hB).2, (c5_on hy hB).2⟩

end Go.Proofs.YtjgmoledhkikcaaDoor
