/- The program's sums below a limit. -/
import Derived.Test.YtmhpjaaffpomnaaDoorSdB
import Derived.Test.YtmhpjaaffpomnaaDoorSetI
namespace Go.Proofs.YtmhpjaaffpomnaaDoor
open Go.RowKit

/-- A list of numbers that lies from block B on. -/
def RdN (W : World) (B : Nat) (sp : Option Addr) (L : List Nat) : Prop := L.length = 0 ∨ ∃ g, sp = some ⟨g, 0, none⟩ ∧ B ≤ g ∧ g < W.heap.size ∧ ∀ (i : Nat) x, L[i]? = some x → W.cell? ⟨g, i, none⟩ = some (.int .i64 (x : Int))
theorem own_rd {w : World} {B : Nat} {v : Value} {L : List Nat} (h : OwnN w B v L) : ∃ sp cap, v = .slice sp L.length cap ∧ L.length ≤ cap ∧ cap ≤ maxLen ∧ RdN w B sp L := by
  have h' : w.ownsRow B 3 1 v L.length (L.map nV) := h
  obtain ⟨_, hv | ⟨g, cap, cur, hv, hB, hg, hn, hc, _, _⟩⟩ := h'
  · exact ⟨none, 0, by rw [hv.1, hv.2], by omega, by unfold maxLen; omega, .inl hv.2⟩
  · refine ⟨_, cap, hv, hn, hc, ?_⟩
    rcases Nat.eq_zero_or_pos L.length with h0 | h0
    · exact .inl h0
    · refine .inr ⟨g, rfl, hB, ?_, fun i x hx => ?_⟩
      · rcases Nat.lt_or_ge g w.heap.size with q | q
        · exact q
        · rw [Array.getElem?_eq_none q] at hg; cases hg
      · subst hv
        have hi := (List.getElem?_eq_some_iff.1 hx).1
        have := World.ownsRow.cellAt (show w.ownsRow B 3 1 (.slice (some ⟨g, 0, none⟩) L.length cap) L.length (L.map nV) from h) i (by omega)
        rw [this, List.getElem?_map, hx]
        rfl
theorem rdn_on {W w' : World} {B : Nat} {sp : Option Addr} {L : List Nat} (h : RdN W B sp L) (hb : Below W.heap.size W w') : RdN w' B sp L := by
  rcases h with h0 | ⟨g, e, hB, hg, hc⟩
  · exact .inl h0
  · exact .inr ⟨g, e, hB, Nat.lt_of_lt_of_le hg hb.size, fun i x hx => ((bcell hb).1 g i hg).trans (hc i x hx)⟩
theorem rdn_set {W : World} {B b j : Nat} {sp : Option Addr} {L : List Nat} {v : Value} (h : RdN W B sp L) (hb : b < B) : RdN (W.setCell ⟨b, j, none⟩ v) B sp L := by
  rcases h with h0 | ⟨g, e, hB, hg, hc⟩
  · exact .inl h0
  · exact .inr ⟨g, e, hB, by simpa [World.setCell] using hg, fun i x hx => by rw [World.cell?_setCell_far _ _ _ _ (by show b ≠ g; omega)]; exact hc i x hx⟩
/-- A row of bools. -/
def SB (W : World) (b : Nat) (g : Nat → Bool) (m : Nat) : Prop := ∃ c, W.heap[b]? = some (.cells c 4 (0, 0)) ∧ c.size = m ∧ ∀ i, i < m → c[i]? = some (.bool (g i))
theorem sb_on {W w' : World} {b m : Nat} {g : Nat → Bool} (h : SB W b g m) (hb : Below W.heap.size W w') : SB w' b g m := by
  obtain ⟨c, h1, h2, h3⟩ := h
  exact ⟨c, row_on h1 hb, h2, h3⟩
theorem sb_lt {W : World} {b m : Nat} {g : Nat → Bool} (h : SB W b g m) : b < W.heap.size := by
  obtain ⟨c, h1, _⟩ := h
  rcases Nat.lt_or_ge b W.heap.size with q | q
  · exact q
  · rw [Array.getElem?_eq_none q] at h1; cases h1
theorem sb_cell {W : World} {b m j : Nat} {g : Nat → Bool} (h : SB W b g m) (hj : j < m) : W.cell? ⟨b, j, none⟩ = some (.bool (g j)) ∧ W.frozen? ⟨b, j, none⟩ = false := by
  obtain ⟨c, h1, h2, h3⟩ := h
  exact ⟨by rw [cell_of_row _ _ _ _ _ _ h1]; exact h3 j hj, frozen_of_row _ _ _ _ _ h1⟩
theorem sb_put {W : World} {b m j : Nat} {g : Nat → Bool} (h : SB W b g m) (hj : j < m) : SB (W.setCell ⟨b, j, none⟩ (.bool true)) b (fun i => g i || decide (i = j)) m := by
  obtain ⟨c, h1, h2, h3⟩ := h
  refine ⟨_, heap_setCell_same _ _ _ _ _ _ h1, by simpa using h2, fun i hi => ?_⟩
  by_cases e : i = j
  · subst e
    rw [Array.getElem?_setIfInBounds_self_of_lt (by omega)]
    simp
  · rw [Array.getElem?_setIfInBounds_ne (by omega), h3 i hi]
    simp [e]
theorem sb_as {W : World} {b m : Nat} {g g' : Nat → Bool} (h : SB W b g m) (e : ∀ n, n < m → g n = g' n) : SB W b g' m := by
  obtain ⟨c, h1, h2, h3⟩ := h
  exact ⟨c, h1, h2, fun i hi => by rw [h3 i hi, e i hi]⟩
theorem sb_new (m : Nat) (hm : m ≤ 100000000) : ∃ M : Array Value, (∀ W, (Instr.makeSlice 56 (.int .i64 m) (.int .i64 m)).run Tryd.prog W = .ok (.slice (some ⟨W.heap.size, 0, none⟩) m m) (W.alloc (.cells M 4))) ∧ M.size = m ∧ ∀ i, i < m → M[i]? = some (.bool false) := by
  obtain ⟨i0, hi, hz0, hz1, hz2⟩ := info_parts (P := Tryd.prog) (e := 4) (z := .bool false) (size := 1) (bytes := 1) (by kernel_rfl)
  refine ⟨madeCells (Value.bool false).cells (((m : Nat) : Int).toNat * i0.size), fun W => ?_, by rw [size_madeCells, hz1]; simp, fun i hi => ?_⟩
  · have h := run_make (P := Tryd.prog) W 56 4 i0 (.bool false) Tryd.underlying56 hi hz0 .i64 .i64 (m : Int) (m : Int) (by omega) (by omega) (by rw [hz2]; omega) (by omega)
    simpa using h
  · rw [hz1]
    simp [madeCells, Value.cells, hi, Nat.mod_one]

/-- What is told so far. -/
def gO (L1 L2 : List Nat) (k n : Nat) : Bool := (L1.take k).any fun x => L2.any fun y => decide (x + y = n)
def gI (L1 L2 : List Nat) (k x j n : Nat) : Bool := gO L1 L2 k n || (L2.take j).any fun y => decide (x + y = n)
theorem gI_zero (L1 L2 : List Nat) (k x n : Nat) : gI L1 L2 k x 0 n = gO L1 L2 k n := by unfold gI; simp
theorem gI_put {L1 L2 : List Nat} {k x j y n : Nat} (hy : L2[j]? = some y) : (gI L1 L2 k x j n || decide (n = x + y)) = gI L1 L2 k x (j + 1) n := by
  unfold gI
  rw [List.take_add_one, hy, Bool.or_assoc]
  congr 1
  simp [List.any_append]
  congr 1
  rw [decide_eq_decide]
  exact eq_comm
theorem gO_next {L1 L2 : List Nat} {k x n : Nat} (hx : L1[k]? = some x) : gO L1 L2 (k + 1) n = (gO L1 L2 k n || L2.any fun y => decide (x + y = n)) := by
  unfold gO
  rw [List.take_add_one, hx]
  simp [List.any_append]
theorem gI_all {L1 L2 : List Nat} {k x n : Nat} (hx : L1[k]? = some x) : gI L1 L2 k x L2.length n = gO L1 L2 (k + 1) n := by
  rw [gO_next hx]
  unfold gI
  rw [List.take_length]
theorem gI_stop {L1 : List Nat} {a : Nat → UInt8} {m k x j y n lim : Nat} (hx : L1[k]? = some x) (hy : (blN a m)[j]? = some y) (hs : lim ≤ x + y) (hn : n < lim) : gI L1 (blN a m) k x j n = gO L1 (blN a m) (k + 1) n := by
  rw [gO_next hx]
  unfold gI
  congr 1
  rw [Bool.eq_iff_iff, List.any_eq_true, List.any_eq_true]
  constructor
  · rintro ⟨z, hz, h⟩
    exact ⟨z, List.mem_of_mem_take hz, h⟩
  · rintro ⟨z, hz, h⟩
    refine ⟨z, ?_, h⟩
    have hzn : x + z = n := by simpa using h
    obtain ⟨i, hi, e⟩ := List.mem_iff_getElem.1 hz
    have hjl := (List.getElem?_eq_some_iff.1 hy).1
    have hji : i < j := by
      rcases Nat.lt_or_ge i j with q | q
      · exact q
      · exfalso
        have hp : (blN a m).Pairwise (· < ·) := List.Pairwise.filter _ List.pairwise_lt_range
        have hyz : y ≤ z := by
          rcases Nat.eq_or_lt_of_le q with q2 | q2
          · subst q2
            rw [List.getElem?_eq_getElem hi] at hy
            have := Option.some.inj hy
            omega
          · have := List.pairwise_iff_getElem.1 hp j i hjl hi q2
            have hy2 := (List.getElem?_eq_some_iff.1 hy).2
            omega
        omega
    rw [← e]
    exact List.mem_take_iff_getElem.2 ⟨i, by omega, rfl⟩
theorem gO_sum {a b : Nat → UInt8} {lim n : Nat} (hn : n < lim) : gO (blN a lim) (blN b lim) (blN a lim).length n = sumB a b n := by
  unfold gO
  rw [List.take_length, Bool.eq_iff_iff, List.any_eq_true, sumB_iff]
  constructor
  · rintro ⟨x, hx, h⟩
    obtain ⟨y, hy, h2⟩ := List.any_eq_true.1 h
    exact ⟨x, y, by simpa using h2, (bl_mem.1 hx).2, (bl_mem.1 hy).2⟩
  · rintro ⟨x, y, e, h1, h2⟩
    exact ⟨x, bl_mem.2 ⟨by omega, h1⟩, List.any_eq_true.2 ⟨y, bl_mem.2 ⟨by omega, h2⟩, by simpa using e⟩⟩
end Go.Proofs.YtmhpjaaffpomnaaDoor
