/- Lists of ints as a law reads, marks and holds them; the walks of the laws that say that TermVars and AtomVars answer as their models do. -/
import Derived.Test.YtmkflokcficmoaaDoorVarsA
import Derived.Test.YtmkflokcficmoaaDoorLawB
import Derived.Test.YtmkflokcficmoaaDoorAtC
import Derived.Deep.QuietTactic
import Derived.BigQuiet
namespace Go.Proofs.YtmkflokcficmoaaDoor
open Go.RowKit

theorem below_dq (B : Nat) (w : World) (q : Nat) : Below B w (w.drewN q) := ⟨rfl, rfl, rfl, Nat.le_refl _, fun _ _ => rfl⟩

/-- The slice v reads as the ints L. -/
def RdI (w : World) (v : Value) (L : List Int) : Prop :=
  ∃ sp cap, v = .slice sp L.length cap ∧ (L.length = 0 ∨ ∃ b, sp = some ⟨b, 0, none⟩ ∧ b < w.heap.size ∧ ∀ i x, L[i]? = some x → w.cell? ⟨b, i, none⟩ = some (.int .i64 x))

theorem own_reads {w : World} {B : Nat} {v : Value} {L : List Int} (h : OwnI w B v L) : RdI w v L := by
  have h' : w.ownsRow B 3 1 v L.length (L.map (Value.int .i64)) := h
  rcases h'.2 with ⟨rfl, hn⟩ | ⟨g, cap, cur, rfl, hb, hg, _⟩
  · exact ⟨none, 0, by rw [hn], Or.inl hn⟩
  · refine ⟨some ⟨g, 0, none⟩, cap, rfl, Or.inr ⟨g, rfl, (Array.getElem?_eq_some_iff.1 hg).1, fun i x hx => ?_⟩⟩
    have hi : i < L.length := (List.getElem?_eq_some_iff.1 hx).1
    rw [h'.cellAt i (by omega)]
    simp [hx]

theorem reads_on {w w' : World} {v : Value} {L : List Int} (h : RdI w v L) (hb : Below w.heap.size w w') : RdI w' v L := by
  obtain ⟨sp, cap, hv, hc⟩ := h
  refine ⟨sp, cap, hv, ?_⟩
  rcases hc with h0 | ⟨b, he, hlt, hc⟩
  · exact Or.inl h0
  · exact Or.inr ⟨b, he, Nat.lt_of_lt_of_le hlt hb.size, fun i x hx => (hb.cell (p := ⟨b, i, none⟩) hlt).trans (hc i x hx)⟩

/-- Marks from k on. -/
def marks (k : Int) (n : Nat) : List Int := (List.range n).map fun i : Nat => k + Int.ofNat i
theorem marks_len (k : Int) (n : Nat) : (marks k n).length = n := by simp [marks]
theorem marks_at (k : Int) (n i : Nat) (h : i < n) : (marks k n)[i]? = some (k + (i : Int)) := by simp [marks, h]

/-- A list whose first j elements are marks. -/
def part (k : Int) (L : List Int) (j : Nat) : List Int := marks k j ++ L.drop j
theorem part_set (k : Int) (L : List Int) (j : Nat) (h : j < L.length) : ((part k L j).map (Value.int .i64)).set j (.int .i64 (k + (j : Int))) = (part k L (j + 1)).map (Value.int .i64) := by
  unfold part
  apply List.ext_getElem?
  intro i
  rw [List.getElem?_set]
  simp only [List.length_map, List.length_append, marks_len, List.length_drop, List.getElem?_map]
  by_cases hij : j = i
  · subst hij
    rw [if_pos rfl, if_pos (by omega), List.getElem?_append_left (by rw [marks_len]; omega), marks_at _ _ _ (by omega)]
    rfl
  · rw [if_neg hij]
    by_cases hlt : i < j
    · rw [List.getElem?_append_left (by rw [marks_len]; omega), List.getElem?_append_left (by rw [marks_len]; omega), marks_at _ _ _ hlt, marks_at _ _ _ (by omega)]
    · rw [List.getElem?_append_right (by rw [marks_len]; omega), List.getElem?_append_right (by rw [marks_len]; omega), marks_len, marks_len, List.getElem?_drop, List.getElem?_drop]
      have e : j + (i - j) = j + 1 + (i - (j + 1)) := by omega
      rw [e]
theorem part_all (k : Int) (L : List Int) : part k L L.length = marks k L.length := by simp [part]
theorem part_none (k : Int) (L : List Int) : part k L 0 = L := by simp [part, marks]
theorem part_len (k : Int) (L : List Int) (j : Nat) (h : j ≤ L.length) : (part k L j).length = L.length := by simp [part, marks_len]; omega

def MarkR (B : Nat) (v : Value) (k : Int) (L : List Int) (w : World) (i kv : Value) (wr : World) : Prop :=
  ∃ j : Nat, i = .int .i64 j ∧ j ≤ L.length ∧ kv = .int .i64 (k + j) ∧ wr.ownsRow B 3 1 v L.length ((part k L j).map (Value.int .i64)) ∧ Below B w wr

theorem marks_own {w : World} {B : Nat} {v : Value} {k : Int} {M : Nat} (h : OwnI w B v (marks k M)) : RdI w v (marks k M) := own_reads h

end Go.Proofs.YtmkflokcficmoaaDoor
