/- The words of the kinds of formulas. -/
import Derived.Test.YtbppcpaodfjpkaaDoorStA
namespace Go.Proofs.YtbppcpaodfjpkaaDoor
open Go.RowKit

/-- The word of a kind. -/
def wdT (k : Int) : List UInt8 := if k = 0 then [116, 114, 117, 101] else if k = 1 then [102, 97, 108, 115, 101] else if k = 3 then [110, 111, 116] else if k = 4 then [97, 110, 100] else if k = 5 then [111, 114] else if k = 6 then [97, 108, 108] else if k = 7 then [115, 111, 109, 101] else []
theorem wd_len (k : Int) : (wdT k).length ≤ 5 := by
  unfold wdT
  repeat' split
  all_goals simp

/-- The words of the kinds, as the program lays them. -/
def WordsAt (w : World) (b o cap : Nat) : Prop := w.cell? ⟨0, 0, none⟩ = some (.slice (some ⟨b, o, none⟩) 8 cap) ∧ 8 ≤ cap ∧ cap ≤ 9223372036854775807 ∧ 0 < w.heap.size ∧ b < w.heap.size ∧ ∀ i : Nat, i ≤ 7 → w.cell? ⟨b, o + i, none⟩ = some (.string (bs (wdT i)))
def Words (w : World) : Prop := ∃ b o cap, WordsAt w b o cap
theorem wordsAt_on {w w' : World} {b o cap : Nat} (h : WordsAt w b o cap) (hb : Below w.heap.size w w') : WordsAt w' b o cap := by
  obtain ⟨h1, h2, h3, h4, h5, h6⟩ := h
  exact ⟨(hb.cell (p := ⟨_, 0, none⟩) h4).trans h1, h2, h3, Nat.lt_of_lt_of_le h4 hb.size, Nat.lt_of_lt_of_le h5 hb.size, fun i hi => (hb.cell (p := ⟨b, o + i, none⟩) h5).trans (h6 i hi)⟩
theorem words_on {w w' : World} (h : Words w) (hb : Below w.heap.size w w') : Words w' := by
  obtain ⟨b, o, cap, h⟩ := h
  exact ⟨b, o, cap, wordsAt_on h hb⟩
theorem keepWd {w w' : World} {b o cap : Nat} (h : WordsAt w b o cap) (i : Nat) (hi : i ≤ 7) (hB : Below w.heap.size w w') :
    Below w.heap.size w w' ∧ w'.cell? ⟨0, 0, none⟩ = some (.slice (some ⟨b, o, none⟩) 8 cap) ∧ w'.cell? ⟨b, o + i, none⟩ = some (.string (bs (wdT i))) :=
  ⟨hB, (wordsAt_on h hB).1, (wordsAt_on h hB).2.2.2.2.2 i hi⟩

end Go.Proofs.YtbppcpaodfjpkaaDoor
