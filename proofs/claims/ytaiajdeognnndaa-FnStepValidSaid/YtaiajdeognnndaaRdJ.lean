/- Lists of ints as arguments. -/
import Derived.Test.YtaiajdeognnndaaDr1
import Derived.Laws.OwnMore
import Derived.Deep.RegionWith
import Derived.BigQuiet
namespace Go.Proofs.Ytaiajdeognnndaa
open Go.RowKit

/-- The slice v reads as the ints L. -/
def RdJ (w : World) (v : Value) (L : List Int) : Prop :=
  ∃ sp cap, v = .slice sp L.length cap ∧ L.length ≤ cap ∧ cap ≤ maxLen ∧ (L.length = 0 ∨ ∃ b o, sp = some ⟨b, o, none⟩ ∧ b < w.heap.size ∧ ∀ i x, L[i]? = some x → w.cell? ⟨b, o + i, none⟩ = some (.int .i64 x))
theorem rdJ_on {w w' : World} {v : Value} {L : List Int} (h : RdJ w v L) (hb : Below w.heap.size w w') : RdJ w' v L := by
  obtain ⟨sp, cap, hv, h1, h2, hc⟩ := h
  refine ⟨sp, cap, hv, h1, h2, ?_⟩
  rcases hc with h0 | ⟨b, o', he, hlt, hc⟩
  · exact Or.inl h0
  · exact Or.inr ⟨b, o', he, Nat.lt_of_lt_of_le hlt hb.size, fun i x hx => (hb.cell (p := ⟨b, o' + i, none⟩) hlt).trans (hc i x hx)⟩
theorem RdJ.slice {w : World} {v : Value} {L : List Int} (h : RdJ w v L) : ∃ a n c, v = .slice a n c := by
  obtain ⟨sp, cap, e, _⟩ := h
  exact ⟨_, _, _, e⟩

/-- As RdJ, in a block from B on. -/
def RdJb (w : World) (B : Nat) (v : Value) (L : List Int) : Prop :=
  ∃ sp cap, v = .slice sp L.length cap ∧ L.length ≤ cap ∧ cap ≤ maxLen ∧ (L.length = 0 ∨ ∃ b o, sp = some ⟨b, o, none⟩ ∧ B ≤ b ∧ b < w.heap.size ∧ ∀ i x, L[i]? = some x → w.cell? ⟨b, o + i, none⟩ = some (.int .i64 x))
theorem RdJb.rd {w : World} {B : Nat} {v : Value} {L : List Int} (h : RdJb w B v L) : RdJ w v L := by
  obtain ⟨sp, cap, e, h1, h2, h⟩ := h
  exact ⟨sp, cap, e, h1, h2, h.imp id fun ⟨b, o, e, _, h1, h2⟩ => ⟨b, o, e, h1, h2⟩⟩
theorem RdJb.slice {w : World} {B : Nat} {v : Value} {L : List Int} (h : RdJb w B v L) : ∃ a n c, v = .slice a n c := h.rd.slice
theorem rdJb_on {w w' : World} {B : Nat} {v : Value} {L : List Int} (h : RdJb w B v L) (hb : Below w.heap.size w w') : RdJb w' B v L := by
  obtain ⟨sp, cap, e, h1, h2, h⟩ := h
  exact ⟨sp, cap, e, h1, h2, h.imp id fun ⟨b, o, e, hB, hlt, hc⟩ => ⟨b, o, e, hB, Nat.lt_of_lt_of_le hlt hb.size, fun i x hx => (hb.cell (p := ⟨b, o + i, none⟩) hlt).trans (hc i x hx)⟩⟩
theorem rdJb_mono {w : World} {B C : Nat} {v : Value} {L : List Int} (h : RdJb w B v L) (hC : C ≤ B) : RdJb w C v L := by
  obtain ⟨sp, cap, e, h1, h2, h⟩ := h
  exact ⟨sp, cap, e, h1, h2, h.imp id fun ⟨b, o, e, hB, h⟩ => ⟨b, o, e, Nat.le_trans hC hB, h⟩⟩
theorem rdJb_put {w : World} {B x k : Nat} {u v : Value} {L : List Int} (h : RdJb w B v L) (hx : x < B) : RdJb (w.setCell ⟨x, k, none⟩ u) B v L := by
  obtain ⟨sp, cap, e, h1, h2, h⟩ := h
  exact ⟨sp, cap, e, h1, h2, h.imp id fun ⟨b, o, e, hB, hlt, hc⟩ => ⟨b, o, e, hB, by simpa using hlt, fun i y hy => (World.cell?_setCell_other w ⟨x, k, none⟩ ⟨b, o + i, none⟩ u (fun e => by have := congrArg Addr.block e; simp at this; omega)).trans (hc i y hy)⟩⟩

end Go.Proofs.Ytaiajdeognnndaa
