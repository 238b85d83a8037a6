/- From an argument that is a list of steps to its lists. -/
import Derived.Test.YtbppcpaodfjpkaaDoorLift3
import Derived.Test.YtbppcpaodfjpkaaDoorStp
import Derived.OpenShut
namespace Go.Proofs.YtbppcpaodfjpkaaDoor
open Go.ChangeShapes Go.WideShapes Go.ChangeAt Go.RowKit Go.Joins Go.Deep

section
variable {H : Type} {enc : TypeId × Value → H} {P : Program} {w : World} {base : Nat} {held : Bool}
theorem slice_ints {t e : TypeId} {cs : List Value} {x : DataW H × List MemPlace} {fuel : Nat} (ht : P.underlying t = some (.slice e)) (he : P.underlying e = some (.int .i64)) (hc : P.cellsOf e = 1)
    (hf : DataW.trod enc P w base (fun _ => true) held fuel t cs = some x) : ∃ s L, cs = [s] ∧ RdJ w s L := by
  rcases open_ints ht he hc hf with ⟨hcs, _⟩ | ⟨a, len, cap, zs, hcs, _, hl, hm, hz, _, hcell, _⟩
  · exact ⟨_, [], hcs, none, 0, rfl, Nat.le_refl _, by simp, .inl rfl⟩
  · have hz' : zs.length = cap := by simpa using hz
    refine ⟨_, zs.take len, hcs, some a, cap, by rw [List.length_take, hz']; congr 1; omega, by rw [List.length_take]; omega, hm, ?_⟩
    by_cases h0 : len = 0
    · exact .inl (by simp [h0])
    · obtain ⟨b, off, rfl, hat⟩ := ints_at hcell (by omega)
      have hb0 := World.block_lt_of_cell? w _ (hat 0 (by omega))
      refine .inr ⟨b, off, rfl, hb0, fun i x hx => ?_⟩
      have hi : i < (zs.take len).length := (List.getElem?_eq_some_iff.1 hx).1
      rw [List.length_take] at hi
      rw [List.getElem?_take] at hx
      split at hx
      · have hg := hat i (by omega)
        have : zs.getD i 0 = x := by simp [List.getD, hx]
        rw [this] at hg
        exact hg
      · exact absurd hx (by simp)

theorem step_cells {t ts e : TypeId} {f0 f1 : Field} {cs : List Value} {x : DataW H × List MemPlace} {fuel : Nat} (hs : P.underlying t = some (.struct #[f0, f1])) (hC : P.cellsOf t = 2)
    (e0 : f0.type = ts) (o0 : f0.offset = 0) (e1 : f1.type = ts) (o1 : f1.offset = 1) (hcs : P.cellsOf ts = 1) (hts : P.underlying ts = some (.slice e)) (he : P.underlying e = some (.int .i64)) (hce : P.cellsOf e = 1)
    (hf : DataW.trod enc P w base (fun _ => true) held fuel t cs = some x) : ∃ s u F T, cs = [s, u] ∧ RdJ w s F ∧ RdJ w u T := by
  obtain ⟨ys, n, hn, _, hl, hlen, hg⟩ := DataW.trod_struct hs hf
  rw [hC] at hl
  match ys, hlen with
  | [y0, y1], _ =>
    match cs, hl with
    | [c0, c1], _ =>
      have h0 := hg 0 f0 rfl
      have h1 := hg 1 f1 rfl
      rw [e0, o0, hcs] at h0
      rw [e1, o1, hcs] at h1
      obtain ⟨s, F, q0, r0⟩ := slice_ints hts he hce h0
      obtain ⟨u, T, q1, r1⟩ := slice_ints hts he hce h1
      simp at q0 q1
      subst q0 q1
      exact ⟨_, _, F, T, rfl, r0, r1⟩

theorem open_steps {r : Reach} {b0 : Nat} {tss t ts e : TypeId} {f0 f1 : Field} {v : Value} {d : DataW H} {p : List MemPlace} (hs : P.underlying t = some (.struct #[f0, f1])) (hC : P.cellsOf t = 2)
    (e0 : f0.type = ts) (o0 : f0.offset = 0) (e1 : f1.type = ts) (o1 : f1.offset = 1) (hcs : P.cellsOf ts = 1) (hts : P.underlying ts = some (.slice e)) (he : P.underlying e = some (.int .i64)) (hce : P.cellsOf e = 1)
    (htss : P.underlying tss = some (.slice t)) (hv : Value.okWide P w r b0 tss v) (h : DataW.Trod enc P w base (fun _ => true) held tss v d p) :
    ∃ LL, RdSG w v LL := by
  obtain ⟨fuel, hf⟩ := h
  obtain ⟨a', n', c', hvv⟩ := okWide_slice htss hv
  subst hvv
  rcases DataW.trod_slice htss hf with ⟨e, _⟩ | ⟨a, len, cap, elems, rest, n, hn, e, _, hb, hl, hm, hlen, hel, _, _⟩
  · simp [Value.cells] at e
    obtain ⟨rfl, rfl, rfl⟩ := e
    exact ⟨[], none, 0, rfl, Nat.le_refl _, by simp, .inl rfl⟩
  · simp [Value.cells] at e
    obtain ⟨rfl, rfl, rfl⟩ := e
    have hel' : ∀ i, i < n' → ∃ x : SpD, SRow w a.block (a.off + i * 2) x := by
      intro i hi
      have h1 := hel i hi
      rw [hC, List.getElem?_eq_getElem (by omega)] at h1
      obtain ⟨cs', h2, h3⟩ := Option.bind_eq_some_iff.1 h1
      obtain ⟨s, u, F, T, rfl, r0, r1⟩ := step_cells hs hC e0 o0 e1 o1 hcs hts he hce h3
      obtain ⟨_, _, hat⟩ := World.cells?_some h2
      have g : ∀ j, (hj : j < 2) → w.cell? ⟨a.block, a.off + i * 2 + j, none⟩ = [s, u][j]? := by
        intro j hj
        have h1 := hat j hj
        have h2 : [s, u][j]? = some ([s, u][j]'(by simpa using hj)) := List.getElem?_eq_getElem _
        rw [h2] at h1
        obtain ⟨_, e⟩ := cell_lt h1
        rw [e] at h1
        have hbk : ((a.add (i * 2)).add j).block = a.block ∧ ((a.add (i * 2)).add j).off = a.off + i * 2 + j := by
          unfold Addr.add
          split <;> split <;> refine ⟨rfl, ?_⟩ <;> (try dsimp only) <;> omega
        rw [hbk.1, hbk.2] at h1
        rw [h1, h2]
      exact ⟨⟨F, T⟩, s, u, g 0 (by omega), g 1 (by omega), r0, r1⟩
    refine ⟨List.ofFn (n := n') (fun i => Classical.choose (hel' i.1 i.2)), some a, c', by simp, by simpa using hl, hm, ?_⟩
    by_cases h0 : n' = 0
    · exact .inl (by simp [h0])
    · obtain ⟨cs', h2, h3⟩ : ∃ cs', w.cells? base (a.add (0 * 2)) 2 = some cs' ∧ _ := by
        have h1 := hel 0 (by omega)
        rw [hC, List.getElem?_eq_getElem (by omega)] at h1
        exact Option.bind_eq_some_iff.1 h1
      obtain ⟨s, u, F, T, rfl, r0, r1⟩ := step_cells hs hC e0 o0 e1 o1 hcs hts he hce h3
      obtain ⟨_, _, hat⟩ := World.cells?_some h2
      have h1 := hat 0 (by omega)
      have h2' : w.cell? a = some s := by simpa [Addr.add] using h1
      obtain ⟨h5, h6⟩ := cell_lt h2'
      refine .inr ⟨a.block, a.off, by rw [← h6], h5, fun i x hx => ?_⟩
      have hi : i < n' := by have := (List.getElem?_eq_some_iff.1 hx).1; simpa using this
      rw [List.getElem?_ofFn, dif_pos hi] at hx
      obtain rfl := Option.some.inj hx
      exact Classical.choose_spec (hel' i hi)
end
end Go.Proofs.YtbppcpaodfjpkaaDoor
