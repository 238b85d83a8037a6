/- What the model draws as a term: l1Bad, l1Some, l1Open. -/
import Derived.Test.YthhbmnfmhomggaaDraw3
namespace Go.Proofs.Ythhbmnfmhomggaa
open Go.RowKit

theorem fz_only {w w' : World} {r b : Nat} (hf : Hid (∀ o, w.frozen? ⟨b, o, none⟩ = false)) (h : w.grownBy w' (some r)) (hb : b < w.heap.size) (hne : b ≠ r) : Hid (∀ o, w'.frozen? ⟨b, o, none⟩ = false) :=
  fun o => (frozen_only h hb hne).trans (hf.out o)

/-- A list of five numbers that the model's l1Some fills: any numbers. -/
def Some5 (w0 : World) (r : Nat) (p K : Int) (bl : Nat) (W : World) : Prop := (∃ a b c d n : Int, C5 W bl a b c d n) ∧ Hid (∀ o, W.frozen? ⟨bl, o, none⟩ = false) ∧ Turned r p K w0 W

theorem c5_store {W : World} {bl o : Nat} {v : Int} (h : ∃ a b c d n : Int, C5 W bl a b c d n) : ∃ a b c d n : Int, C5 (W.setCell ⟨bl, o, none⟩ (.int .i64 v)) bl a b c d n := by
  obtain ⟨a, b, c, d, n, h0, h1, h2, h3, h4, h5⟩ := h
  have hs : bl < (W.setCell ⟨bl, o, none⟩ (.int .i64 v)).heap.size := by simpa [World.setCell] using h0
  by_cases e0 : o = 0
  · subst e0; exact ⟨v, b, c, d, n, hs, by simp [go_sem, *], by simp [go_sem, *], by simp [go_sem, *], by simp [go_sem, *], by simp [go_sem, *]⟩
  · by_cases e1 : o = 1
    · subst e1; exact ⟨a, v, c, d, n, hs, by simp [go_sem, *], by simp [go_sem, *], by simp [go_sem, *], by simp [go_sem, *], by simp [go_sem, *]⟩
    · by_cases e2 : o = 2
      · subst e2; exact ⟨a, b, v, d, n, hs, by simp [go_sem, *], by simp [go_sem, *], by simp [go_sem, *], by simp [go_sem, *], by simp [go_sem, *]⟩
      · by_cases e3 : o = 3
        · subst e3; exact ⟨a, b, c, v, n, hs, by simp [go_sem, *], by simp [go_sem, *], by simp [go_sem, *], by simp [go_sem, *], by simp [go_sem, *]⟩
        · by_cases e4 : o = 4
          · subst e4; exact ⟨a, b, c, d, v, hs, by simp [go_sem, *], by simp [go_sem, *], by simp [go_sem, *], by simp [go_sem, *], by simp [go_sem, *]⟩
          · exact ⟨a, b, c, d, n, hs, by simp [go_sem, *], by simp [go_sem, *], by simp [go_sem, *], by simp [go_sem, *], by simp [go_sem, *]⟩

end Go.Proofs.Ythhbmnfmhomggaa
