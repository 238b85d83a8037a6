/- From an argument that is an atom, a bool, to its ints: what the rows of chapter 2 want. -/
import Derived.Test.YtbppcpaodfjpkaaDoorLift
import Derived.Deep.Strs
namespace Go.Proofs.YtbppcpaodfjpkaaDoor
open Go.ChangeShapes Go.WideShapes Go.ChangeAt Go.RowKit Go.Joins Go.Deep

section
variable {H : Type} {enc : TypeId × Value → H} {P : Program} {w : World} {base : Nat} {spare : Nat → Bool} {held : Bool}

/-- The cells of a struct of ints are ints. -/
theorem ints_cells {t ti : TypeId} {fs : Array Field} {cs : List Value} {x : DataW H × List MemPlace} {fuel : Nat} (hs : P.underlying t = some (.struct fs)) (hone : oneCellFields P fs = true)
    (hti : P.underlying ti = some (.int .i64)) (hall0 : fs.toList.all (fun f => f.type == ti) = true) (hl0 : cs.length = fs.size)
    (h : DataW.trod enc P w base spare held fuel t cs = some x) : ∃ xs : List Int, xs.length = fs.size ∧ cs = xs.map (Value.int .i64) := by
  have hall : ∀ f ∈ fs.toList, f.type = ti := fun f hf => by simpa using List.all_eq_true.1 hall0 f hf
  obtain ⟨ys, n, _, hx, _, hlen, hg⟩ := DataW.trod_struct hs h
  have key : ∀ j (hj : j < fs.size), ∃ x : Int, cs[j]? = some (.int .i64 x) := by
    intro j hj
    have hfj : fs[j]? = some (fs[j]) := Array.getElem?_eq_getElem hj
    obtain ⟨ho, hk⟩ := hone_of hone j fs[j] hfj
    have h1 := hg j fs[j] hfj
    rw [ho, hk] at h1
    have hjc : j < cs.length := by omega
    have hone' : (cs.drop j).take 1 = [cs[j]] := by
      rw [List.drop_eq_getElem_cons hjc]
      rfl
    rw [hone'] at h1
    have hty : fs[j].type = ti := hall _ (by simp)
    rw [hty] at h1
    cases hy : ys[j]? with
    | none => have := List.getElem?_eq_none_iff.1 hy; omega
    | some y =>
      rw [hy] at h1
      obtain ⟨x, e0, _, wx⟩ := DataW.trod_int hti h1
      refine ⟨x, ?_⟩
      rw [List.getElem?_eq_getElem hjc]
      simpa using e0
  let g : Nat → Int := fun j => match cs[j]? with | some (.int .i64 x) => x | _ => 0
  refine ⟨(List.range fs.size).map g, by simp, ?_⟩
  apply List.ext_getElem
  · simp; omega
  · intro j h1 h2
    obtain ⟨x, hx⟩ := key j (by simpa using h2)
    have e1 : cs[j] = .int .i64 x := by rw [List.getElem?_eq_getElem h1] at hx; simpa using hx
    simp [g, hx, e1]

/-- An atom by value: two ints and a term. -/
theorem open_atom {r : Reach} {b0 : Nat} {t tt ti : TypeId} {f0 f1 f2 : Field} {gs : Array Field} {v : Value} {d : DataW H} {p : List MemPlace} (hs : P.underlying t = some (.struct #[f0, f1, f2])) (hC : P.cellsOf t = 7)
    (e0 : f0.type = ti) (o0 : f0.offset = 0) (e1 : f1.type = ti) (o1 : f1.offset = 1) (e2 : f2.type = tt) (o2 : f2.offset = 2) (hci : P.cellsOf ti = 1)
    (htt : P.underlying tt = some (.struct gs)) (hone : oneCellFields P gs = true) (hCt : P.cellsOf tt = 5) (hgs : gs.size = 5) (hti : P.underlying ti = some (.int .i64)) (hall : gs.toList.all (fun f => f.type == ti) = true)
    (hv : Value.okWide P w r b0 t v) (h : DataW.Trod enc P w base spare held t v d p) :
    ∃ k m a b c e n : Int, v = .agg #[.int .i64 k, .int .i64 m, .int .i64 a, .int .i64 b, .int .i64 c, .int .i64 e, .int .i64 n] := by
  obtain ⟨cs, rfl, hsz⟩ := okWide_struct hs hv
  obtain ⟨l⟩ := cs
  match l, hsz.trans hC with
  | [c0, c1, c2, c3, c4, c5, c6], _ =>
    obtain ⟨fuel, hf⟩ := h
    obtain ⟨y0, y1, y2, n, _, _, h0, h1, h2⟩ := trod_struct3 hs hf
    rw [e0, o0, hci] at h0
    rw [e1, o1, hci] at h1
    rw [e2, o2, hCt] at h2
    obtain ⟨x0, q0, _, _⟩ := DataW.trod_int hti h0
    obtain ⟨x1, q1, _, _⟩ := DataW.trod_int hti h1
    obtain ⟨xs, hl, q2⟩ := ints_cells htt hone hti hall (by simp [Value.cells, hgs]) h2
    rw [hgs] at hl
    obtain ⟨a, b, c, e, n, rfl⟩ := len5 hl
    simp [Value.cells] at q0 q1 q2
    obtain ⟨rfl, rfl, rfl, rfl, rfl⟩ := q2
    subst q0 q1
    exact ⟨x0, x1, a, b, c, e, n, rfl⟩
end
end Go.Proofs.YtbppcpaodfjpkaaDoor
