/- The program's Bezout's numbers and rounded quotients. -/
import Derived.Test.YtpheihejgnlanaaDoorNbI
namespace Go.Proofs.YtpheihejgnlanaaDoor
open Go.RowKit

theorem c3_other {W : World} {x y o : Nat} {a b c : Int} {v : Value} (h : C3 W x a b c) (hy : y ≠ x) : C3 (W.setCell ⟨y, o, none⟩ v) x a b c := by
  obtain ⟨x0, c0, c1, c2, fz⟩ := h
  exact ⟨by simpa [World.setCell] using x0, by simp [go_sem, *], by simp [go_sem, *], by simp [go_sem, *], fun o => by simp [go_sem, *]⟩

def noDiv : List PanicEntry := [{ v := .iface 9 (.string ⟨#[100, 105, 118, 105, 115, 105, 111, 110, 32, 98, 121, 32, 110, 111, 116, 104, 105, 110, 103]⟩), recovered := false }]

noncomputable def bezT (a b : Int) : Int × Int × Int × Bool := if (numB a && numB b && !(decide (a = 0) && decide (b = 0))) = true then ((bezV a b).1, (bezV a b).2.1, (bezV a b).2.2, true) else (0, 0, 0, false)
def T4 (t : Int × Int × Int × Bool) : Value := .tuple #[.int .i64 t.1, .int .i64 t.2.1, .int .i64 t.2.2.1, .bool t.2.2.2]
theorem bezV_is' {a b : Int} (h : ¬ (a = 0 ∧ b = 0)) : IsBez a b (bezV a b).1 (bezV a b).2.1 (bezV a b).2.2 := by
  obtain ⟨x, y, hb⟩ := isBez_exists (a := a) (b := b)
  rw [bezV_is h hb]
  exact hb

end Go.Proofs.YtpheihejgnlanaaDoor
