/- What the model draws for the laws of chapter 7: sets that are sometimes not valid. -/
import Derived.Test.YtpheihejgnlanaaDoorDrS
namespace Go.Proofs.YtpheihejgnlanaaDoor
open Go.RowKit

/-- A set that is not great has been drawn. -/
def SmL (h l : List UInt8) : Prop := h.length ≤ 3000 ∧ l.length ≤ 3000
def BadS (r : Nat) (p K : Int) (w : World) (e : Ending) (w' : World) : Prop := ∃ h l : List UInt8, e = .returned (.agg #[.string (bs h), .string (bs l)]) ∧ SmL h l ∧ Turned r p K w w'

theorem many_t (x : List UInt8) (n : Nat) (w : World) (hx : x.length ≤ 2) (hn : n ≤ 1000) :
    Calls Tryd.prog 50 #[.string (bs x), .int .i64 n] w fun e w' => ∃ T : List UInt8, e = .returned (.string (bs T)) ∧ T.length ≤ 2000 ∧ w = w' :=
  (l17Many_any x n w (by omega) (by omega)).mono fun _ _ ⟨he, hw⟩ => ⟨_, he, by rw [rep_len]; exact Nat.le_trans (Nat.mul_le_mul hn hx) (by decide), hw⟩
theorem two_at {w : World} {b : Nat} {x y : List UInt8} (h0 : w.cell? ⟨b, 0, none⟩ = some (.string (bs x))) (h1 : w.cell? ⟨b, 1, none⟩ = some (.string (bs y))) : ∀ (i : Nat) z, ([x, y] : List (List UInt8))[i]? = some z → w.cell? ⟨b, i, none⟩ = some (.string (bs z)) := by
  intro i z hz
  match i, hz with
  | 0, hz => simp at hz; subst hz; exact h0
  | 1, hz => simp at hz; subst hz; exact h1
theorem two_at_i {w : World} {b : Nat} {x y : Int} (h0 : w.cell? ⟨b, 0, none⟩ = some (.int .i64 x)) (h1 : w.cell? ⟨b, 1, none⟩ = some (.int .i64 y)) : ∀ (i : Nat) z, ([x, y] : List Int)[i]? = some z → w.cell? ⟨b, i, none⟩ = some (.int .i64 z) := by
  intro i z hz
  match i, hz with
  | 0, hz => simp at hz; subst hz; exact h0
  | 1, hz => simp at hz; subst hz; exact h1

end Go.Proofs.YtpheihejgnlanaaDoor
