/- Contracts of the model's functions of chapter 1 that make points and terms. -/
import Derived.Test.YtpheihejgnlanaaDoorSpecA
namespace Go.Proofs.YtpheihejgnlanaaDoor
open Go.RowKit


def C4 (w : World) (bl : Nat) (a b c d : Int) : Prop := bl < w.heap.size ∧ w.cell? ⟨bl, 0, none⟩ = some (.int .i64 a) ∧ w.cell? ⟨bl, 1, none⟩ = some (.int .i64 b) ∧ w.cell? ⟨bl, 2, none⟩ = some (.int .i64 c) ∧ w.cell? ⟨bl, 3, none⟩ = some (.int .i64 d)

theorem l1In_is (n l h : Int) (t : Bool) (w : World) (hi : inB n l h = t) :
    Calls Tryd.prog 49 #[.int .i64 n, .int .i64 l, .int .i64 h] w fun e w' => e = .returned (.bool t) ∧ w = w' :=
  (l1In_any n l h w).mono fun _ _ ⟨he, hw⟩ => ⟨he.trans (ret_bool hi), hw⟩

theorem wvB_parts {a b c d v n : Int} (h : wvB a b c d v n = true) : pvB a b c d = true ∧ varB v = true ∧ inB n 0 1000 = true ∧ (0 ≤ v ∧ v < 4) := by
  simp only [wvB, Bool.and_eq_true] at h
  exact ⟨h.1.1, h.1.2, h.2, by have := h.1.2; simpa [varB] using this⟩

end Go.Proofs.YtpheihejgnlanaaDoor
