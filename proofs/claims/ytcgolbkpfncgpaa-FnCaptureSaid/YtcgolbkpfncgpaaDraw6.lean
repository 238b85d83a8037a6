/- What the model draws for the laws on one term, from the bytes of the law's argument: some term; nothing old turns. -/
import Derived.Test.YtcgolbkpfncgpaaDraw5
namespace Go.Proofs.Ytcgolbkpfncgpaa
open Go.RowKit

/-- The law's argument: bytes. -/
def Code (w : World) (sp : Option Addr) (n cap : Nat) : Prop :=
  n ≤ cap ∧ cap ≤ 9223372036854775807 ∧ (n = 0 ∨ ∃ b off, sp = some ⟨b, off, none⟩ ∧ ∀ i, i < n → ∃ u : Int, w.cell? ⟨b, off + i, none⟩ = some (.int .u8 u) ∧ 0 ≤ u ∧ u ≤ 255)

theorem code_on {w w' : World} {sp : Option Addr} {n cap : Nat} (h : Code w sp n cap) (hb : Below w.heap.size w w') : Code w' sp n cap := by
  obtain ⟨h1, h2, h3⟩ := h
  refine ⟨h1, h2, ?_⟩
  rcases h3 with h0 | ⟨b, off, he, hu⟩
  · exact Or.inl h0
  · refine Or.inr ⟨b, off, he, fun i hi => ?_⟩
    obtain ⟨u, hc, hu0, hu1⟩ := hu i hi
    exact ⟨u, (hb.cell (p := ⟨b, off + i, none⟩) (World.block_lt_of_cell? w _ hc)).trans hc, hu0, hu1⟩

def OpenT (w : World) (e : Ending) (w' : World) : Prop := ∃ r, e = .returned (.pointer (some ⟨r, 0, none⟩)) ∧ w.heap.size ≤ r ∧ Rd w' r 0 ∧ Below w.heap.size w w'

theorem rd_new {w : World} {sp : Option Addr} {n cap : Nat} {t : TypeId} (h : Code w sp n cap) (hn : n ≤ 2000) : Rd (w.alloc (.cells #[.slice sp n cap, .int .i64 0] t)) w.heap.size 0 := by
  refine ⟨0, n, cap, sp, rfl, hn, by simp, by simp [go_sem], by simp [go_sem], by simp [go_sem], ?_⟩
  rcases h.2.2 with h0 | ⟨b, off, he, hu⟩
  · exact Or.inl h0
  · by_cases hz : n = 0
    · exact Or.inl hz
    · refine Or.inr ⟨b, off, he, ?_, fun i hi => ?_⟩
      · obtain ⟨u, hc, _⟩ := hu 0 (by omega)
        exact World.block_lt_of_cell? w _ hc
      · obtain ⟨u, hc, hu0, hu1⟩ := hu i hi
        exact ⟨u, (cell_old (World.block_lt_of_cell? w _ hc)).trans hc, hu0, hu1⟩

set_option maxHeartbeats 400000 in
theorem l17Open_t (sp : Option Addr) (n cap : Nat) (w : World) (h : Code w sp n cap) :
    Calls Try.prog 50 #[.slice sp n cap] w (OpenT w) := by
  have hc1 := h.1
  have hc2 := h.2.1
  have H := Lib.hid h
  clear h
  by_cases hn : n ≤ 2000
  · have hn' : ¬ (2000 : Int) < (n : Int) := by omega
    go_enter Try.func50, Try.ntmps50
    go_wp2
    go_ret
    exact ⟨w.heap.size, rfl, Nat.le_refl _, rd_new H.out hn, by go_grown⟩
  · have hn' : (2000 : Int) < (n : Int) := by omega
    have hcap : 2000 ≤ cap := by omega
    have H2 : Hid (Code w sp 2000 cap) := by
      obtain ⟨_, _, h3⟩ := H.out
      refine ⟨hcap, hc2, ?_⟩
      rcases h3 with h0 | ⟨b, off, he, hu⟩
      · omega
      · exact Or.inr ⟨b, off, he, fun i hi => hu i (by omega)⟩
    obtain ⟨b, off, rfl⟩ : ∃ b off, sp = some ⟨b, off, none⟩ := by
      rcases H.out.2.2 with h0 | ⟨b, off, he, _⟩
      · omega
      · exact ⟨b, off, he⟩
    go_enter Try.func50, Try.ntmps50
    go_wp2
    go_ret
    exact ⟨w.heap.size, rfl, Nat.le_refl _, rd_new H2.out (Nat.le_refl _), by go_grown⟩

set_option maxHeartbeats 400000 in
theorem l1Open_t (r : Nat) (p : Int) (w : World) (h : Rd w r p) (hp : p ≤ 700000) :
    Calls Try.prog 51 #[.pointer (some ⟨r, 0, none⟩)] w (TermT r p 10 w) := by
  have hr := rd_lt h
  have H := Lib.hid h
  clear h
  go_enter Try.func51, Try.ntmps51
  go_wp2_with fail
  generalize hW : w.alloc (.cells #[.int .i64 0, .int .i64 0, .int .i64 0, .int .i64 0, .int .i64 0] 24) = W
  have hz : C5 W w.heap.size 0 0 0 0 0 := by subst hW; exact (by refine ⟨?_, ?_, ?_, ?_, ?_, ?_⟩ <;> first | (simp [go_sem]; done) | (simp; omega))
  have fz : Hid (∀ o, W.frozen? ⟨w.heap.size, o, none⟩ = false) := by intro o; subst hW; simp [go_sem]
  have hb0 : Below w.heap.size w W := by subst hW; go_grown
  clear hW
  refine (l1Some_t r p W (rd_on H.out hb0) (by omega)).mono ?_
  rintro e w1 ⟨a, b, c, d, n, rfl, ht1⟩
  have HT := Lib.hid (below_turned hb0 ht1)
  have hz1 := c5_only hz ht1.1 (by omega)
  have fz1 := fz_only fz ht1.1 hz.1 (by omega)
  obtain ⟨_, q, q0, q1, hR1⟩ := ht1
  have HR := Lib.hid hR1
  clear hR1
  go_wp2_with fail
  refine (l1Bad_t r q a b c d n w1 HR.out (by omega)).mono ?_
  rintro e w2 ⟨a', b', c', d', n', rfl, ht2⟩
  have HT2 := Lib.hid (turned_two HT.out HR.out ht2 q0 q1)
  obtain ⟨z0, z1, z2, z3, z4, z5⟩ := c5_only hz1 ht2.1 (by omega)
  have fz2 := (fz_only fz1 ht2.1 hz1.1 (by omega)).out
  clear ht2
  go_wp2
  refine bodyPost_ret (v := .agg #[.int .i64 a', .int .i64 b', .int .i64 c', .int .i64 d', .int .i64 n']) (by simp [results, Try.results51, go_sem, z1, z2, z3, z4, z5]) rfl ⟨a', b', c', d', n', rfl, ?_⟩
  repeat (first | (with_reducible refine turned_put ?_ hr (by omega)) | exact turned_more HT2.out (by omega))

def SomeTerm (w : World) (e : Ending) (w' : World) : Prop := ∃ a b c d n : Int, e = .returned (.agg #[.int .i64 a, .int .i64 b, .int .i64 c, .int .i64 d, .int .i64 n]) ∧ Below w.heap.size w w'

end Go.Proofs.Ytcgolbkpfncgpaa
