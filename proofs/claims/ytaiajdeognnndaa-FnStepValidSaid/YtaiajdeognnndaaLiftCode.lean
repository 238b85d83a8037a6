/- An argument of bytes, read: what the walks want to know of it. -/
import Derived.Test.YtaiajdeognnndaaLift
import Derived.Test.YtaiajdeognnndaaCode
import Derived.OpenShut
namespace Go.Proofs.Ytaiajdeognnndaa
open Go.ChangeShapes Go.WideShapes Go.ChangeAt Go.RowKit

theorem code_of {H : Type} {enc : TypeId × Value → H} {P : Program} {W : World} {r : Reach} {b0 base : Nat} {held : Bool} {t e : TypeId} {v : Value} {d : DataW H} {p : List MemPlace} (ht : P.underlying t = some (.slice e)) (he : P.underlying e = some (.int .u8)) (hc : P.cellsOf e = 1)
    (hv : Value.okWide P W r b0 t v) (h : DataW.Trod enc P W base (fun _ => true) held t v d p) : ∃ sp n cap, v = .slice sp n cap ∧ Code W sp n cap := by
  obtain ⟨a0, len, cap, rfl⟩ := okWide_slice ht hv
  obtain ⟨fuel, hf⟩ := h
  rcases open_ints ht he hc hf with ⟨hcs, _⟩ | ⟨a, len', cap', zs, hcs, _, hl, hm, hz, _, hcell, hwz⟩
  · simp [Value.cells] at hcs
    obtain ⟨rfl, rfl, rfl⟩ := hcs
    exact ⟨none, 0, 0, rfl, Nat.le_refl _, by omega, Or.inl rfl⟩
  · simp [Value.cells] at hcs
    obtain ⟨rfl, rfl, rfl⟩ := hcs
    unfold maxLen at hm
    refine ⟨some a, len, cap, rfl, hl, hm, ?_⟩
    by_cases h0 : len = 0
    · exact Or.inl h0
    · have hz' : zs.length = cap := by simpa using hz
      obtain ⟨b, off, rfl, hat⟩ := ints_at hcell (by omega)
      refine Or.inr ⟨b, off, rfl, fun i hi => ⟨_, hat i (by omega), ?_⟩⟩
      have hb := bounds_u8 (hwz (zs.getD i 0) (by
        have hi' : i < zs.length := by omega
        simp [List.getD, List.getElem?_eq_getElem hi']))
      exact hb

end Go.Proofs.Ytaiajdeognnndaa
