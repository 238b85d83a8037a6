/- The model's changed bits and OtherSet; its stretched strings. -/
import Derived.Test.YtkhnninnmpffmaaDoorSeB
namespace Go.Proofs.YtkhnninnmpffmaaDoor
open Go.RowKit

/-- Bytes in a block, none of them frozen. -/
def CB (W : World) (b : Nat) (l : List UInt8) : Prop := b < W.heap.size ∧ (∀ (i : Nat) x, l[i]? = some x → W.cell? ⟨b, i, none⟩ = some (.int .u8 (x.toNat : Int))) ∧ ∀ i, i < l.length → W.frozen? ⟨b, i, none⟩ = false
theorem cb_set {W : World} {b k : Nat} {l : List UInt8} {y : UInt8} {z : Int} (h : CB W b l) (hk : k < l.length) (hz : z = (y.toNat : Int)) : CB (W.setCell ⟨b, k, none⟩ (.int .u8 z)) b (l.set k y) := by
  obtain ⟨h1, h2, h3⟩ := h
  refine ⟨by simpa [World.setCell] using h1, fun i x hx => ?_, fun i hi => ?_⟩
  · by_cases e : i = k
    · subst e
      rw [List.getElem?_set_self hk] at hx
      rw [World.cell?_setCell_same' _ _ _ (by rw [h2 i l[i] (List.getElem?_eq_getElem hk)]; rfl), hz, ← Option.some.inj hx]
    · rw [List.getElem?_set_ne (fun e2 => e e2.symm)] at hx
      rw [World.cell?_setCell_other (h := by intro e2; exact e (by injection e2 with _ e3 _; exact e3.symm))]
      exact h2 i x hx
  · rw [World.frozen?_setCell]
    exact h3 i (by simpa using hi)
/-- The bits, k of them changed. -/
def flK (l : List UInt8) (k : Nat) : List UInt8 := (l.take k).map (fun x => 97 - x) ++ l.drop k
theorem flK_zero (l : List UInt8) : flK l 0 = l := by simp [flK]
theorem flK_all (l : List UInt8) : flK l l.length = l.map fun x => 97 - x := by simp [flK]
theorem flK_len (l : List UInt8) (k : Nat) : (flK l k).length = l.length := by simp [flK]; omega
theorem flK_at {l : List UInt8} {k : Nat} {x : UInt8} (hx : l[k]? = some x) : (flK l k)[k]? = some x := by
  have hk := (List.getElem?_eq_some_iff.1 hx).1
  unfold flK
  rw [List.getElem?_append_right (by simp; omega)]
  simp [Nat.min_eq_left (Nat.le_of_lt hk), hx]
theorem flK_next {l : List UInt8} {k : Nat} {x : UInt8} (hx : l[k]? = some x) : (flK l k).set k (97 - x) = flK l (k + 1) := by
  have hk := (List.getElem?_eq_some_iff.1 hx).1
  unfold flK
  rw [List.set_append_right _ _ (by simp; omega)]
  rw [List.take_add_one, hx, List.map_append, List.append_assoc]
  congr 1
  have e : l.drop k = x :: l.drop (k + 1) := by
    rw [List.drop_eq_getElem_cons hk, (List.getElem?_eq_some_iff.1 hx).2]
  rw [e]
  simp [Nat.min_eq_left (Nat.le_of_lt hk)]
theorem flip_bits {l : List UInt8} (h : ∀ x ∈ l, x = 48 ∨ x = 49) : ∀ x ∈ l.map (fun x => 97 - x), x = 48 ∨ x = 49 := by
  intro x hx
  obtain ⟨y, hy, rfl⟩ := List.mem_map.1 hx
  rcases h y hy with rfl | rfl
  · exact .inr rfl
  · exact .inl rfl

/-- Bits with zeros behind each, one more. -/
theorem str_next {l : List UInt8} {i k : Nat} {x : UInt8} (hx : l[i]? = some x) : strL (l.take (i + 1)) k = strL (l.take i) k ++ (x :: List.replicate (k - 1) 48) := by
  unfold strL
  rw [List.take_add_one, hx]
  simp

end Go.Proofs.YtkhnninnmpffmaaDoor
