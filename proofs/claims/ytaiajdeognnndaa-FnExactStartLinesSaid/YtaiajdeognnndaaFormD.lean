/- When a formula is valid apart from its parts; contracts of the functions on kinds, and of validApart. -/
import Derived.Test.YtaiajdeognnndaaFormC
import Derived.Test.YtaiajdeognnndaaAtC
import Derived.Test.YtaiajdeognnndaaSpecD
namespace Go.Proofs.Ytaiajdeognnndaa
open Go.RowKit

/-- How many parts a kind has. -/
def subsI (k : Int) : Int := if k = 0 ∨ k = 1 ∨ k = 2 then 0 else if k = 3 ∨ k = 6 ∨ k = 7 then 1 else if k = 4 ∨ k = 5 then 2 else -1
def qB (k : Int) : Bool := decide (k = 6 ∨ k = 7)

theorem kinds (k : Int) : k = 0 ∨ k = 1 ∨ k = 2 ∨ k = 3 ∨ k = 4 ∨ k = 5 ∨ k = 6 ∨ k = 7 ∨ ((k == 0) = false ∧ (k == 1) = false ∧ (k == 2) = false ∧ (k == 3) = false ∧ (k == 4) = false ∧ (k == 5) = false ∧ (k == 6) = false ∧ (k == 7) = false) := by
  simp only [beq_eq_false_iff_ne]
  omega

theorem subsI_off {k : Int} (h : (k == 0) = false ∧ (k == 1) = false ∧ (k == 2) = false ∧ (k == 3) = false ∧ (k == 4) = false ∧ (k == 5) = false ∧ (k == 6) = false ∧ (k == 7) = false) : subsI k = -1 := by
  simp only [beq_eq_false_iff_ne] at h
  unfold subsI
  repeat rw [if_neg (by omega)]
theorem qB_off {k : Int} (h : (k == 0) = false ∧ (k == 1) = false ∧ (k == 2) = false ∧ (k == 3) = false ∧ (k == 4) = false ∧ (k == 5) = false ∧ (k == 6) = false ∧ (k == 7) = false) : qB k = false := by
  simp only [beq_eq_false_iff_ne] at h
  unfold qB
  exact decide_eq_false (by omega)

theorem l3Subs_any (k : Int) (w : World) : Calls Try.prog 89 #[.int .i64 k] w fun e w' => e = .returned (.int .i64 (subsI k)) ∧ w = w' := by
  rcases kinds k with rfl | rfl | rfl | rfl | rfl | rfl | rfl | rfl | h
  all_goals try (
    go_enter Try.func89, Try.ntmps89
    go_wp2
    go_ret
    exact ⟨rfl, rfl⟩)
  rw [subsI_off h]
  obtain ⟨h0, h1, h2, h3, h4, h5, h6, h7⟩ := h
  go_enter Try.func89, Try.ntmps89
  go_wp2
  go_ret
  exact ⟨rfl, rfl⟩

theorem l3Quant_any (k : Int) (w : World) : Calls Try.prog 90 #[.int .i64 k] w fun e w' => e = .returned (.bool (qB k)) ∧ w = w' := by
  rcases kinds k with rfl | rfl | rfl | rfl | rfl | rfl | rfl | rfl | h
  all_goals try (
    go_enter Try.func90, Try.ntmps90
    go_wp2
    go_ret
    exact ⟨rfl, rfl⟩)
  rw [qB_off h]
  obtain ⟨h0, h1, h2, h3, h4, h5, h6, h7⟩ := h
  go_enter Try.func90, Try.ntmps90
  go_wp2
  go_ret
  exact ⟨rfl, rfl⟩

end Go.Proofs.Ytaiajdeognnndaa
