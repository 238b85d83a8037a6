/- The law's argument of bytes, and the reader that is opened over it. -/
import Derived.Test.YtaiajdeognnndaaDr1
namespace Go.Proofs.Ytaiajdeognnndaa
open Go.RowKit

/-- The law's argument: bytes. -/
def Code (w : World) (sp : Option Addr) (n cap : Nat) : Prop :=
  n ≤ cap ∧ cap ≤ 9223372036854775807 ∧ (n = 0 ∨ ∃ b off, sp = some ⟨b, off, none⟩ ∧ ∀ i, i < n → ∃ u : Int, w.cell? ⟨b, off + i, none⟩ = some (.int .u8 u) ∧ 0 ≤ u ∧ u ≤ 255)

theorem code_on {w w' : World} {sp : Option Addr} {n cap : Nat} (h : Code w sp n cap) (hb : Below w.heap.size w w') : Code w' sp n cap := by
  obtain ⟨h1, h2, h3⟩ := h
  refine ⟨h1, h2, ?_⟩
  rcases h3 with h0 | ⟨b, off, he, hu⟩
  · exact Or.inl h0
  · refine Or.inr ⟨b, off, he, fun i hi => ?_⟩
    obtain ⟨u, hc, hu0, hu1⟩ := hu i hi
    exact ⟨u, (hb.cell (p := ⟨b, off + i, none⟩) (World.block_lt_of_cell? w _ hc)).trans hc, hu0, hu1⟩

def OpenT (w : World) (e : Ending) (w' : World) : Prop := ∃ r, e = .returned (.pointer (some ⟨r, 0, none⟩)) ∧ w.heap.size ≤ r ∧ Rd w' r 0 ∧ Below w.heap.size w w'

theorem rd_new {w : World} {sp : Option Addr} {n cap : Nat} {t : TypeId} (h : Code w sp n cap) (hn : n ≤ 2000) : Rd (w.alloc (.cells #[.slice sp n cap, .int .i64 0] t)) w.heap.size 0 := by
  refine ⟨0, n, cap, sp, rfl, hn, by simp, by simp [go_sem], by simp [go_sem], by simp [go_sem], ?_⟩
  rcases h.2.2 with h0 | ⟨b, off, he, hu⟩
  · exact Or.inl h0
  · by_cases hz : n = 0
    · exact Or.inl hz
    · refine Or.inr ⟨b, off, he, ?_, fun i hi => ?_⟩
      · obtain ⟨u, hc, _⟩ := hu 0 (by omega)
        exact World.block_lt_of_cell? w _ hc
      · obtain ⟨u, hc, hu0, hu1⟩ := hu i hi
        exact ⟨u, (cell_old (World.block_lt_of_cell? w _ hc)).trans hc, hu0, hu1⟩

set_option maxHeartbeats 400000 in
theorem l17Open_t (sp : Option Addr) (n cap : Nat) (w : World) (h : Code w sp n cap) :
    Calls Try.prog 36 #[.slice sp n cap] w (OpenT w) := by
  have hc1 := h.1
  have hc2 := h.2.1
  have H := Lib.hid h
  clear h
  by_cases hn : n ≤ 2000
  · have hn' : ¬ (2000 : Int) < (n : Int) := by omega
    go_enter Try.func36, Try.ntmps36
    go_wp2
    go_ret
    exact ⟨w.heap.size, rfl, Nat.le_refl _, rd_new H.out hn, by go_grown⟩
  · have hn' : (2000 : Int) < (n : Int) := by omega
    have hcap : 2000 ≤ cap := by omega
    have H2 : Hid (Code w sp 2000 cap) := by
      obtain ⟨_, _, h3⟩ := H.out
      refine ⟨hcap, hc2, ?_⟩
      rcases h3 with h0 | ⟨b, off, he, hu⟩
      · omega
      · exact Or.inr ⟨b, off, he, fun i hi => hu i (by omega)⟩
    obtain ⟨b, off, rfl⟩ : ∃ b off, sp = some ⟨b, off, none⟩ := by
      rcases H.out.2.2 with h0 | ⟨b, off, he, _⟩
      · omega
      · exact ⟨b, off, he⟩
    go_enter Try.func36, Try.ntmps36
    go_wp2
    go_ret
    exact ⟨w.heap.size, rfl, Nat.le_refl _, rd_new H2.out (Nat.le_refl _), by go_grown⟩

end Go.Proofs.Ytaiajdeognnndaa
