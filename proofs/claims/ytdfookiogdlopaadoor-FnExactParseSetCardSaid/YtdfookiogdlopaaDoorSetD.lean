/- The model's normal form, and what it returns of a form of any size. -/
import Derived.Test.YtdfookiogdlopaaDoorSetC
import Derived.Lib.SmallJoins
namespace Go.Proofs.YtdfookiogdlopaaDoor
open Go.RowKit

theorem snoc_of {l : List UInt8} (h : l ≠ []) : ∃ m x, l = m ++ [x] := ⟨l.dropLast, l.getLast h, (List.dropLast_concat_getLast h).symm⟩
theorem snoc_at (m : List UInt8) (x : UInt8) : (m ++ [x])[m.length]? = some x := by simp
def strSz : Value → Nat | .string s => s.size | _ => 0
/-- A box of two strings. -/
def S2 (w : World) (b : Nat) (x y : ByteArray) : Prop := b < w.heap.size ∧ w.cell? ⟨b, 0, none⟩ = some (.string x) ∧ w.cell? ⟨b, 1, none⟩ = some (.string y) ∧ ∀ o, w.frozen? ⟨b, o, none⟩ = false
theorem s2_on {W w' : World} {b : Nat} {x y : ByteArray} (h : S2 W b x y) (hb : Below W.heap.size W w') : S2 w' b x y :=
  ⟨Nat.lt_of_lt_of_le h.1 hb.size, ((bcell hb).1 b 0 h.1).trans h.2.1, ((bcell hb).1 b 1 h.1).trans h.2.2.1, fun o => ((bcell hb).2 b o h.1).trans (h.2.2.2 o)⟩
theorem s2_new {w W : World} {x y : ByteArray} {t : TypeId} (hW : w.alloc (.cells #[.string x, .string y] t) = W) : S2 W w.heap.size x y ∧ W.heap.size = w.heap.size + 1 ∧ Below w.heap.size w W := by
  subst hW
  exact ⟨by refine ⟨?_, ?_, ?_, ?_⟩ <;> first | (simp [go_sem]; done) | (intro o; simp [go_sem]; done), by simp, by go_grown⟩
theorem s2_put {W W' : World} {b : Nat} {x y : ByteArray} (hW : (W.setCell ⟨b, 0, none⟩ (.string x)).setCell ⟨b, 1, none⟩ (.string y) = W') (x' y' : ByteArray) (hx : S2 W b x' y') :
    S2 W' b x y ∧ W'.heap.size = W.heap.size ∧ (∀ c u v, c ≠ b → S2 W c u v → S2 W' c u v) ∧ (∀ (w : World), Below w.heap.size w W → w.heap.size ≤ b → Below w.heap.size w W') := by
  obtain ⟨x0, c0, c1, fz⟩ := hx
  subst hW
  have hsz : ((W.setCell ⟨b, 0, none⟩ (.string x)).setCell ⟨b, 1, none⟩ (.string y)).heap.size = W.heap.size := by simp [World.setCell]
  refine ⟨⟨by rw [hsz]; exact x0, by simp [go_sem, *], by simp [go_sem, *], fun o => by simp [go_sem, *]⟩, hsz, fun c u v hy hc => ?_, fun w hw hx => ?_⟩
  · obtain ⟨y0, d0, d1, gz⟩ := hc
    exact ⟨by rw [hsz]; exact y0, by simp [go_sem, *], by simp [go_sem, *], fun o => by simp [go_sem, *]⟩
  · exact (hw.setCell hx _).setCell hx _
/-- The model's loop: what holds at each round. -/
def NrR (h l : List UInt8) (A M : List UInt8) : Prop := M ≠ [] ∧ M.length ≤ l.length ∧ A.length ≤ h.length ∧ nfS A M = nfS h l ∧ MinS (atS A M) M.length
theorem nr_turn {h l A M : List UInt8} {x : UInt8} (hr : NrR h l (A ++ [x]) (M ++ [x])) : NrR h l A (x :: M) := by
  obtain ⟨h1, h2, h3, h4, h5⟩ := hr
  refine ⟨by simp, by simpa using h2, by simp at h3; omega, by rw [← nfS_turn]; exact h4, ?_⟩
  rw [← at_turn']
  simpa using h5
theorem nr_nil {h l M : List UInt8} (hr : NrR h l [] M) : nfS h l = ([], M) := by
  rw [← hr.2.2.2.1]
  exact nfS_nf ⟨hr.1, hr.2.2.2.2, .inl rfl⟩
theorem nr_ne {h l A M : List UInt8} {x y : UInt8} (hr : NrR h l (A ++ [x]) (M ++ [y])) (hne : ¬ x = y) : nfS h l = (A ++ [x], M ++ [y]) := by
  rw [← hr.2.2.2.1]
  exact nfS_nf ⟨hr.1, hr.2.2.2.2, .inr (by rw [List.getLast?_concat, List.getLast?_concat]; exact fun e => hne (Option.some.inj e))⟩
theorem nr_least {h l : List UInt8} {d : Nat} (hl : l ≠ []) (hd : IsLs l d) : NrR h l h (l.take d) := by
  obtain ⟨d0, d1, d2, d3⟩ := hd
  have hl0 : 0 < l.length := List.length_pos_iff.2 hl
  have hdl : d ≤ l.length := Nat.le_of_dvd hl0 d1
  have hlen : (l.take d).length = d := by rw [List.length_take]; omega
  have hne : l.take d ≠ [] := fun e => by rw [e] at hlen; simp at hlen; omega
  refine ⟨hne, by omega, Nat.le_refl _, ?_, by rw [hlen]; exact least_min d0 d1 hl0 d2 d3⟩
  exact nfS_congr hne hl fun n => rep_at d0 d1 d2 n

end Go.Proofs.YtdfookiogdlopaaDoor
