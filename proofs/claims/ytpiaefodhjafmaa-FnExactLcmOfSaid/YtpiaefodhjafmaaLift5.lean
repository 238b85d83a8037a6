/- From an argument that is a list of ints to its ints. -/
import Derived.Test.YtpiaefodhjafmaaLift
import Derived.Test.YtpiaefodhjafmaaLcm
import Derived.OpenShut
namespace Go.Proofs.Ytpiaefodhjafmaa
open Go.ChangeShapes Go.WideShapes Go.ChangeAt Go.RowKit

theorem open_ints_list {H : Type} {enc : TypeId × Value → H} {P : Program} {W : World} {r : Reach} {b0 base : Nat} {held : Bool} {t e : TypeId} {v : Value} {d : DataW H} {p : List MemPlace} (ht : P.underlying t = some (.slice e)) (he : P.underlying e = some (.int .i64)) (hc : P.cellsOf e = 1)
    (hv : Value.okWide P W r b0 t v) (h : DataW.Trod enc P W base (fun _ => true) held t v d p) : ∃ L, RdJ W v L := by
  obtain ⟨a0, len, cap, rfl⟩ := okWide_slice ht hv
  obtain ⟨fuel, hf⟩ := h
  rcases open_ints ht he hc hf with ⟨hcs, _⟩ | ⟨a, len', cap', zs, hcs, _, hl, hm, hz, _, hcell, _⟩
  · simp [Value.cells] at hcs
    obtain ⟨rfl, rfl, rfl⟩ := hcs
    exact ⟨[], none, 0, rfl, Nat.le_refl _, by simp, .inl rfl⟩
  · simp [Value.cells] at hcs
    obtain ⟨rfl, rfl, rfl⟩ := hcs
    have hz' : zs.length = cap := by simpa using hz
    refine ⟨zs.take len, some a, cap, by rw [List.length_take, hz']; congr 1; omega, by rw [List.length_take]; omega, hm, ?_⟩
    by_cases h0 : len = 0
    · exact .inl (by simp [h0])
    · obtain ⟨b, off, rfl, hat⟩ := ints_at hcell (by omega)
      have hb0 := World.block_lt_of_cell? W _ (hat 0 (by omega))
      refine .inr ⟨b, off, rfl, hb0, fun i x hx => ?_⟩
      have hi : i < (zs.take len).length := (List.getElem?_eq_some_iff.1 hx).1
      rw [List.length_take] at hi
      rw [List.getElem?_take] at hx
      split at hx
      · have hg := hat i (by omega)
        have : zs.getD i 0 = x := by simp [List.getD, hx]
        rw [this] at hg
        exact hg
      · exact absurd hx (by simp)

end Go.Proofs.Ytpiaefodhjafmaa
