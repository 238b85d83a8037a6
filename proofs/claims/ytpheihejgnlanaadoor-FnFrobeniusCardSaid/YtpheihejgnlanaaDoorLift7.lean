/- From an argument that is a struct of strings (a set) to its strings. -/
import Derived.Test.YtpheihejgnlanaaDoorLift
namespace Go.Proofs.YtpheihejgnlanaaDoor
open Go.ChangeShapes Go.WideShapes Go.ChangeAt Go.RowKit Go.Joins Go.Deep

section
variable {H : Type} {enc : TypeId × Value → H} {P : Program} {w : World} {base : Nat} {spare : Nat → Bool} {held : Bool}
/-- A struct of strings by value, of whatever number of fields: its value is a row of strings. -/
theorem open_strs_agg {r : Reach} {b0 : Nat} {t ti : TypeId} {fs : Array Field} {v : Value} {d : DataW H} {p : List MemPlace} (hs : P.underlying t = some (.struct fs)) (hone : oneCellFields P fs = true) (hC : P.cellsOf t = fs.size)
    (hti : P.underlying ti = some .string) (hall0 : fs.toList.all (fun f => f.type == ti) = true)
    (hv : Value.okWide P w r b0 t v) (h : DataW.Trod enc P w base spare held t v d p) :
    ∃ xs : List ByteArray, xs.length = fs.size ∧ v = .agg (xs.map Value.string).toArray ∧ (∀ x ∈ xs, x.size ≤ maxLen) := by
  have hall : ∀ f ∈ fs.toList, f.type = ti := fun f hf => by simpa using List.all_eq_true.1 hall0 f hf
  obtain ⟨cs, rfl, hsz⟩ := okWide_struct hs hv
  obtain ⟨fuel, hf⟩ := h
  obtain ⟨ys, n, _, hx, _, hlen, hg⟩ := DataW.trod_struct hs hf
  have key : ∀ j (hj : j < fs.size), ∃ x : ByteArray, cs[j]? = some (.string x) ∧ x.size ≤ maxLen := by
    intro j hj
    have hfj : fs[j]? = some (fs[j]) := Array.getElem?_eq_getElem hj
    obtain ⟨ho, hk⟩ := hone_of hone j fs[j] hfj
    have h1 := hg j fs[j] hfj
    rw [ho, hk] at h1
    have hjc : j < cs.size := by omega
    have hcl : (Value.agg cs).cells.toList = cs.toList := rfl
    have hone' : ((Value.agg cs).cells.toList.drop j).take 1 = [cs[j]] := by
      rw [hcl, List.drop_eq_getElem_cons (by simpa using hjc)]
      rfl
    rw [hone'] at h1
    have hty : fs[j].type = ti := hall _ (by simp)
    rw [hty] at h1
    cases hy : ys[j]? with
    | none => have := List.getElem?_eq_none_iff.1 hy; omega
    | some y =>
      rw [hy] at h1
      obtain ⟨x, e0, _, wx⟩ := DataW.trod_string hti h1
      refine ⟨x, ?_, wx⟩
      rw [Array.getElem?_eq_getElem hjc]
      simpa using e0
  let g : Nat → ByteArray := fun j => match cs[j]? with | some (.string x) => x | _ => ByteArray.empty
  refine ⟨(List.range fs.size).map g, by simp, ?_, ?_⟩
  · congr 1
    apply Array.ext
    · simp; omega
    · intro j h1 h2
      obtain ⟨x, hx, _⟩ := key j (by simpa using h2)
      have e1 : cs[j] = .string x := by rw [Array.getElem?_eq_getElem h1] at hx; simpa using hx
      simp [g, hx, e1]
  · intro x hx
    simp only [List.mem_map, List.mem_range] at hx
    obtain ⟨j, hj, rfl⟩ := hx
    obtain ⟨x, hx, hb⟩ := key j hj
    simpa [g, hx] using hb
theorem len2s {xs : List ByteArray} (h : xs.length = 2) : ∃ a b, (Value.agg (xs.map Value.string).toArray) = .agg #[.string a, .string b] ∧ xs = [a, b] := by
  match xs, h with
  | [a, b], _ => exact ⟨a, b, rfl, rfl⟩
end

end Go.Proofs.YtpheihejgnlanaaDoor
