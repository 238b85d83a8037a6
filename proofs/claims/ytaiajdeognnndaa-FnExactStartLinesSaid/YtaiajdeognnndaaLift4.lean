/- From an argument that is a list of atoms to its atoms. -/
import Derived.Test.YtaiajdeognnndaaLift3
import Derived.Test.YtaiajdeognnndaaAtX
namespace Go.Proofs.Ytaiajdeognnndaa
open Go.ChangeShapes Go.WideShapes Go.ChangeAt Go.RowKit Go.Joins Go.Deep

section
variable {H : Type} {enc : TypeId × Value → H} {P : Program} {w : World} {base : Nat} {spare : Nat → Bool} {held : Bool}
theorem open_atoms {r : Reach} {b0 : Nat} {ts t tt ti : TypeId} {f0 f1 f2 : Field} {gs : Array Field} {v : Value} {d : DataW H} {p : List MemPlace} (hs : P.underlying t = some (.struct #[f0, f1, f2])) (hC : P.cellsOf t = 7)
    (e0 : f0.type = ti) (o0 : f0.offset = 0) (e1 : f1.type = ti) (o1 : f1.offset = 1) (e2 : f2.type = tt) (o2 : f2.offset = 2) (hci : P.cellsOf ti = 1)
    (htt : P.underlying tt = some (.struct gs)) (hone : oneCellFields P gs = true) (hCt : P.cellsOf tt = 5) (hgs : gs.size = 5) (hti : P.underlying ti = some (.int .i64)) (hall : gs.toList.all (fun f => f.type == ti) = true)
    (hts : P.underlying ts = some (.slice t)) (hv : Value.okWide P w r b0 ts v) (h : DataW.Trod enc P w base spare held ts v d p) :
    ∃ L, RdG w v L := by
  obtain ⟨fuel, hf⟩ := h
  obtain ⟨a', n', c', hvv⟩ := okWide_slice hts hv
  subst hvv
  rcases DataW.trod_slice hts hf with ⟨e, _⟩ | ⟨a, len, cap, elems, rest, n, hn, e, _, hb, hl, hm, hlen, hel, _, _⟩
  · simp [Value.cells] at e
    obtain ⟨rfl, rfl, rfl⟩ := e
    exact ⟨[], none, 0, rfl, Nat.le_refl _, by simp, .inl rfl⟩
  · simp [Value.cells] at e
    obtain ⟨rfl, rfl, rfl⟩ := e
    have hel' : ∀ i, i < n' → ∃ x : AtD, ARow w a.block (a.off + i * 7) x := by
      intro i hi
      have h1 := hel i hi
      rw [hC, List.getElem?_eq_getElem (by omega)] at h1
      obtain ⟨cs', h2, h3⟩ := Option.bind_eq_some_iff.1 h1
      obtain ⟨k, m, aa, b, c, e, nn, rfl⟩ := atom_cells hs hC e0 o0 e1 o1 e2 o2 hci htt hone hCt hgs hti hall h3
      obtain ⟨_, _, hat⟩ := World.cells?_some h2
      have hoff : (a.add (i * 7)).block = a.block ∧ (a.add (i * 7)).off = a.off + i * 7 := by
        unfold Addr.add
        split
        · rename_i h0; exact ⟨rfl, by omega⟩
        · exact ⟨rfl, rfl⟩
      have g : ∀ j, (hj : j < 7) → w.cell? ⟨a.block, a.off + i * 7 + j, none⟩ = [Value.int .i64 k, .int .i64 m, .int .i64 aa, .int .i64 b, .int .i64 c, .int .i64 e, .int .i64 nn][j]? := by
        intro j hj
        have h1 := hat j hj
        have h2 : [Value.int .i64 k, .int .i64 m, .int .i64 aa, .int .i64 b, .int .i64 c, .int .i64 e, .int .i64 nn][j]? = some ([Value.int .i64 k, .int .i64 m, .int .i64 aa, .int .i64 b, .int .i64 c, .int .i64 e, .int .i64 nn][j]'(by simpa using hj)) := List.getElem?_eq_getElem _
        rw [h2] at h1
        obtain ⟨_, e⟩ := cell_lt h1
        rw [e] at h1
        have hbk : ((a.add (i * 7)).add j).block = a.block ∧ ((a.add (i * 7)).add j).off = a.off + i * 7 + j := by
          unfold Addr.add
          split <;> split <;> refine ⟨rfl, ?_⟩ <;> (try dsimp only) <;> omega
        rw [hbk.1, hbk.2] at h1
        rw [h1, h2]
      exact ⟨⟨k, m, aa, b, c, e, nn⟩, g 0 (by omega), g 1 (by omega), g 2 (by omega), g 3 (by omega), g 4 (by omega), g 5 (by omega), g 6 (by omega)⟩
    refine ⟨List.ofFn (n := n') (fun i => Classical.choose (hel' i.1 i.2)), some a, c', by simp, by simpa using hl, hm, ?_⟩
    by_cases h0 : n' = 0
    · exact .inl (by simp [h0])
    · obtain ⟨cs', h2, h3⟩ : ∃ cs', w.cells? base (a.add (0 * 7)) 7 = some cs' ∧ _ := by
        have h1 := hel 0 (by omega)
        rw [hC, List.getElem?_eq_getElem (by omega)] at h1
        exact Option.bind_eq_some_iff.1 h1
      obtain ⟨k, m, aa, b, c, e, nn, rfl⟩ := atom_cells hs hC e0 o0 e1 o1 e2 o2 hci htt hone hCt hgs hti hall h3
      obtain ⟨_, _, hat⟩ := World.cells?_some h2
      have h1 := hat 0 (by omega)
      have h2' : w.cell? a = some (.int .i64 k) := by simpa [Addr.add] using h1
      obtain ⟨h5, h6⟩ := cell_lt h2'
      refine .inr ⟨a.block, a.off, by rw [← h6], h5, fun i x hx => ?_⟩
      have hi : i < n' := by have := (List.getElem?_eq_some_iff.1 hx).1; simpa using this
      rw [List.getElem?_ofFn, dif_pos hi] at hx
      obtain rfl := Option.some.inj hx
      exact Classical.choose_spec (hel' i hi)
end
end Go.Proofs.Ytaiajdeognnndaa
