/- From an argument that is a formula, or a list of formulas, to its forest. -/
import Derived.Test.YtbppcpaodfjpkaaDoorLift2
import Derived.Test.YtbppcpaodfjpkaaDoorTree
namespace Go.Proofs.YtbppcpaodfjpkaaDoor
open Go.ChangeShapes Go.WideShapes Go.ChangeAt Go.RowKit Go.Joins Go.Deep

def fcells (h : FH) (s : Value) : List Value := [.int .i64 h.k, .int .i64 h.ak, .int .i64 h.am, .int .i64 h.a, .int .i64 h.b, .int .i64 h.c, .int .i64 h.d, .int .i64 h.n, .int .i64 h.v, s]

theorem cell_lt {w : World} {a : Addr} {v : Value} (h : w.cell? a = some v) : a.block < w.heap.size ∧ a = ⟨a.block, a.off, none⟩ := by
  unfold World.cell? at h
  split at h
  · rename_i c _ _ hc
    refine ⟨?_, ?_⟩
    · exact (Array.getElem?_eq_some_iff.1 hc).1
    · split at h
      · simp at h
      · rename_i hs
        cases a with
        | mk b o s =>
          cases s with
          | none => rfl
          | some _ => simp at hs
  · simp at h

section
variable {H : Type} {enc : TypeId × Value → H} {P : Program} {w : World} {base : Nat} {spare : Nat → Bool} {held : Bool}
/-- The cells of an atom are seven ints. -/
theorem atom_cells {t tt ti : TypeId} {f0 f1 f2 : Field} {gs : Array Field} {cs : List Value} {x : DataW H × List MemPlace} {fuel : Nat} (hs : P.underlying t = some (.struct #[f0, f1, f2])) (hC : P.cellsOf t = 7)
    (e0 : f0.type = ti) (o0 : f0.offset = 0) (e1 : f1.type = ti) (o1 : f1.offset = 1) (e2 : f2.type = tt) (o2 : f2.offset = 2) (hci : P.cellsOf ti = 1)
    (htt : P.underlying tt = some (.struct gs)) (hone : oneCellFields P gs = true) (hCt : P.cellsOf tt = 5) (hgs : gs.size = 5) (hti : P.underlying ti = some (.int .i64)) (hall : gs.toList.all (fun f => f.type == ti) = true)
    (hf : DataW.trod enc P w base spare held fuel t cs = some x) :
    ∃ k m a b c e n : Int, cs = [.int .i64 k, .int .i64 m, .int .i64 a, .int .i64 b, .int .i64 c, .int .i64 e, .int .i64 n] := by
  obtain ⟨y0, y1, y2, n, _, hl, h0, h1, h2⟩ := trod_struct3 hs hf
  rw [hC] at hl
  match cs, hl with
  | [c0, c1, c2, c3, c4, c5, c6], _ =>
    rw [e0, o0, hci] at h0
    rw [e1, o1, hci] at h1
    rw [e2, o2, hCt] at h2
    obtain ⟨x0, q0, _, _⟩ := DataW.trod_int hti h0
    obtain ⟨x1, q1, _, _⟩ := DataW.trod_int hti h1
    obtain ⟨xs, hl, q2⟩ := ints_cells htt hone hti hall (by simp [hgs]) h2
    rw [hgs] at hl
    obtain ⟨a, b, c, e, n, rfl⟩ := len5 hl
    simp at q0 q1 q2
    obtain ⟨rfl, rfl, rfl, rfl, rfl⟩ := q2
    subst q0 q1
    exact ⟨x0, x1, a, b, c, e, n, rfl⟩

/-- The elements of a list of formulas from the i-th one on. -/
theorem elems_forest {len : Nat} {a : Addr}
    (hel : ∀ i, i < len → ∃ h fo s, w.cells? base (a.add (i * 10)) 10 = some (fcells h s) ∧ FS w base fo s) :
    ∀ d i, i + d = len → ∃ fo : Fo, fo.len = d ∧ FEl w base fo a.block (a.off + i * 10) := by
  intro d
  induction d with
  | zero => intro i _; exact ⟨.nil, rfl, trivial⟩
  | succ d ih =>
    intro i hi
    obtain ⟨rest, hl, hr⟩ := ih (i + 1) (by omega)
    obtain ⟨h, fo, s, hc, hs⟩ := hel i (by omega)
    obtain ⟨_, _, hat⟩ := World.cells?_some hc
    have hoff : (a.add (i * 10)).block = a.block ∧ (a.add (i * 10)).off = a.off + i * 10 := by
      unfold Addr.add
      split
      · rename_i h0; exact ⟨rfl, by omega⟩
      · exact ⟨rfl, rfl⟩
    have g : ∀ j, (hj : j < 10) → w.cell? ⟨a.block, a.off + i * 10 + j, none⟩ = (fcells h s)[j]? := by
      intro j hj
      have h1 := hat j hj
      have h2 : (fcells h s)[j]? = some ((fcells h s)[j]'(by simpa [fcells] using hj)) := List.getElem?_eq_getElem _
      rw [h2] at h1
      obtain ⟨_, e⟩ := cell_lt h1
      rw [e] at h1
      have hbk : ((a.add (i * 10)).add j).block = a.block ∧ ((a.add (i * 10)).add j).off = a.off + i * 10 + j := by
        unfold Addr.add
        split <;> split <;> refine ⟨rfl, ?_⟩ <;> (try dsimp only) <;> omega
      rw [hbk.1, hbk.2] at h1
      rw [h1, h2]
    refine ⟨.cons h fo rest, by simp [Fo.len, hl], ⟨s, ?_, hs⟩, ?_⟩
    · exact ⟨g 0 (by omega), g 1 (by omega), g 2 (by omega), g 3 (by omega), g 4 (by omega), g 5 (by omega), g 6 (by omega), g 7 (by omega), g 8 (by omega), g 9 (by omega)⟩
    · have e : a.off + (i + 1) * 10 = a.off + i * 10 + 10 := by omega
      rw [e] at hr
      exact hr

theorem slice_forest {ts t : TypeId} {fuel : Nat} {cs : List Value} {x : DataW H × List MemPlace} (hts : P.underlying ts = some (.slice t)) (hC : P.cellsOf t = 10)
    (hA : ∀ n, n < fuel → ∀ cs x, DataW.trod enc P w base spare held n t cs = some x → ∃ h fo s, cs = fcells h s ∧ FS w base fo s)
    (hf : DataW.trod enc P w base spare held fuel ts cs = some x) : ∃ fo s, cs = [s] ∧ FS w base fo s := by
  rcases DataW.trod_slice hts hf with ⟨rfl, _⟩ | ⟨a, len, cap, elems, rest, n, hn, rfl, _, hb, hl, hm, hlen, hel, _, _⟩
  · exact ⟨.nil, _, rfl, .inl ⟨rfl, none, 0, rfl, Nat.le_refl _, Nat.zero_le _⟩⟩
  · have hel' : ∀ i, i < len → ∃ h fo s, w.cells? base (a.add (i * 10)) 10 = some (fcells h s) ∧ FS w base fo s := by
      intro i hi
      have h1 := hel i hi
      rw [hC, List.getElem?_eq_getElem (by omega)] at h1
      obtain ⟨cs', h2, h3⟩ := Option.bind_eq_some_iff.1 h1
      obtain ⟨h, fo, s, rfl, hs⟩ := hA n (by omega) _ _ h3
      exact ⟨h, fo, s, h2, hs⟩
    obtain ⟨fo, hfl, hfe⟩ := elems_forest hel' len 0 (by omega)
    refine ⟨fo, _, rfl, ?_⟩
    by_cases h0 : len = 0
    · subst h0
      exact .inl ⟨hfl, some a, cap, rfl, Nat.zero_le _, hm⟩
    · refine .inr ⟨by omega, a.block, a.off, cap, ?_, by omega, hm, hb, ?_, by simpa using hfe⟩
      · obtain ⟨h, fo', s, hc, _⟩ := hel' 0 (by omega)
        obtain ⟨_, _, hat⟩ := World.cells?_some hc
        have h1 := hat 0 (by omega)
        have h2 : w.cell? a = some (.int .i64 h.k) := by simpa [Addr.add, fcells] using h1
        obtain ⟨_, e⟩ := cell_lt h2
        rw [← e, hfl]
      · obtain ⟨h, fo', s, hc, _⟩ := hel' 0 (by omega)
        obtain ⟨_, _, hat⟩ := World.cells?_some hc
        have h1 := hat 0 (by omega)
        have h2 : w.cell? a = some (.int .i64 h.k) := by simpa [Addr.add, fcells] using h1
        exact (cell_lt h2).1

theorem formula_cells {t ta tt ti ts : TypeId} {f0 f1 f2 f3 g0 g1 g2 : Field} {gs : Array Field} (hs : P.underlying t = some (.struct #[f0, f1, f2, f3])) (hC : P.cellsOf t = 10)
    (e0 : f0.type = ti) (o0 : f0.offset = 0) (e1 : f1.type = ta) (o1 : f1.offset = 1) (e2 : f2.type = ti) (o2 : f2.offset = 8) (e3 : f3.type = ts) (o3 : f3.offset = 9) (hci : P.cellsOf ti = 1) (hcs : P.cellsOf ts = 1)
    (hsa : P.underlying ta = some (.struct #[g0, g1, g2])) (hCa : P.cellsOf ta = 7)
    (ea0 : g0.type = ti) (oa0 : g0.offset = 0) (ea1 : g1.type = ti) (oa1 : g1.offset = 1) (ea2 : g2.type = tt) (oa2 : g2.offset = 2)
    (htt : P.underlying tt = some (.struct gs)) (hone : oneCellFields P gs = true) (hCt : P.cellsOf tt = 5) (hgs : gs.size = 5) (hti : P.underlying ti = some (.int .i64)) (hall : gs.toList.all (fun f => f.type == ti) = true)
    (hts : P.underlying ts = some (.slice t)) :
    ∀ N fuel, fuel ≤ N → ∀ cs x, DataW.trod enc P w base spare held fuel t cs = some x → ∃ h fo s, cs = fcells h s ∧ FS w base fo s := by
  intro N
  induction N with
  | zero =>
    intro fuel hN cs x hf
    obtain ⟨_, n, hn, _⟩ := DataW.trod_struct hs hf
    omega
  | succ N ih =>
    intro fuel hN cs x hf
    obtain ⟨ys, n, hn, _, hl, hlen, hg⟩ := DataW.trod_struct hs hf
    rw [hC] at hl
    match ys, hlen with
    | [y0, y1, y2, y3], _ =>
      match cs, hl with
      | [c0, c1, c2, c3, c4, c5, c6, c7, c8, c9], _ =>
        have h0 := hg 0 f0 rfl
        have h1 := hg 1 f1 rfl
        have h2 := hg 2 f2 rfl
        have h3 := hg 3 f3 rfl
        rw [e0, o0, hci] at h0
        rw [e1, o1, hCa] at h1
        rw [e2, o2, hci] at h2
        rw [e3, o3, hcs] at h3
        obtain ⟨x0, q0, _, _⟩ := DataW.trod_int hti h0
        obtain ⟨k, m, a, b, c, e, n', q1⟩ := atom_cells hsa hCa ea0 oa0 ea1 oa1 ea2 oa2 hci htt hone hCt hgs hti hall h1
        obtain ⟨x2, q2, _, _⟩ := DataW.trod_int hti h2
        obtain ⟨fo, s, q3, hfo⟩ := slice_forest hts hC (fun n2 hn2 => ih n2 (by omega)) h3
        simp at q0 q1 q2 q3
        obtain ⟨rfl, rfl, rfl, rfl, rfl, rfl, rfl⟩ := q1
        subst q0 q2 q3
        exact ⟨⟨x0, k, m, a, b, c, e, n', x2⟩, fo, c9, rfl, hfo⟩

/-- A formula by value: its head, its parts' forest, and where these lie. -/
theorem open_formula {r : Reach} {b0 : Nat} {t ta tt ti ts : TypeId} {f0 f1 f2 f3 g0 g1 g2 : Field} {gs : Array Field} {v : Value} {d : DataW H} {p : List MemPlace} (hs : P.underlying t = some (.struct #[f0, f1, f2, f3])) (hC : P.cellsOf t = 10)
    (e0 : f0.type = ti) (o0 : f0.offset = 0) (e1 : f1.type = ta) (o1 : f1.offset = 1) (e2 : f2.type = ti) (o2 : f2.offset = 8) (e3 : f3.type = ts) (o3 : f3.offset = 9) (hci : P.cellsOf ti = 1) (hcs : P.cellsOf ts = 1)
    (hsa : P.underlying ta = some (.struct #[g0, g1, g2])) (hCa : P.cellsOf ta = 7)
    (ea0 : g0.type = ti) (oa0 : g0.offset = 0) (ea1 : g1.type = ti) (oa1 : g1.offset = 1) (ea2 : g2.type = tt) (oa2 : g2.offset = 2)
    (htt : P.underlying tt = some (.struct gs)) (hone : oneCellFields P gs = true) (hCt : P.cellsOf tt = 5) (hgs : gs.size = 5) (hti : P.underlying ti = some (.int .i64)) (hall : gs.toList.all (fun f => f.type == ti) = true)
    (hts : P.underlying ts = some (.slice t)) (hv : Value.okWide P w r b0 t v) (h : DataW.Trod enc P w base spare held t v d p) :
    ∃ (hd : FH) (fo : Fo) (s : Value), v = .agg #[.int .i64 hd.k, .int .i64 hd.ak, .int .i64 hd.am, .int .i64 hd.a, .int .i64 hd.b, .int .i64 hd.c, .int .i64 hd.d, .int .i64 hd.n, .int .i64 hd.v, s] ∧ FS w base fo s := by
  obtain ⟨cs, rfl, _⟩ := okWide_struct hs hv
  obtain ⟨l⟩ := cs
  obtain ⟨fuel, hf⟩ := h
  obtain ⟨hd, fo, s, e, hfo⟩ := formula_cells hs hC e0 o0 e1 o1 e2 o2 e3 o3 hci hcs hsa hCa ea0 oa0 ea1 oa1 ea2 oa2 htt hone hCt hgs hti hall hts fuel fuel (Nat.le_refl _) l (d, p) hf
  subst e
  exact ⟨hd, fo, s, rfl, hfo⟩

/-- A list of formulas. -/
theorem open_formulas {r : Reach} {b0 : Nat} {t ta tt ti ts : TypeId} {f0 f1 f2 f3 g0 g1 g2 : Field} {gs : Array Field} {v : Value} {d : DataW H} {p : List MemPlace} (hs : P.underlying t = some (.struct #[f0, f1, f2, f3])) (hC : P.cellsOf t = 10)
    (e0 : f0.type = ti) (o0 : f0.offset = 0) (e1 : f1.type = ta) (o1 : f1.offset = 1) (e2 : f2.type = ti) (o2 : f2.offset = 8) (e3 : f3.type = ts) (o3 : f3.offset = 9) (hci : P.cellsOf ti = 1) (hcs : P.cellsOf ts = 1)
    (hsa : P.underlying ta = some (.struct #[g0, g1, g2])) (hCa : P.cellsOf ta = 7)
    (ea0 : g0.type = ti) (oa0 : g0.offset = 0) (ea1 : g1.type = ti) (oa1 : g1.offset = 1) (ea2 : g2.type = tt) (oa2 : g2.offset = 2)
    (htt : P.underlying tt = some (.struct gs)) (hone : oneCellFields P gs = true) (hCt : P.cellsOf tt = 5) (hgs : gs.size = 5) (hti : P.underlying ti = some (.int .i64)) (hall : gs.toList.all (fun f => f.type == ti) = true)
    (hts : P.underlying ts = some (.slice t)) (hv : Value.okWide P w r b0 ts v) (h : DataW.Trod enc P w base spare held ts v d p) :
    ∃ fo, FS w base fo v := by
  obtain ⟨fuel, hf⟩ := h
  obtain ⟨fo, s, e, hfo⟩ := slice_forest hts hC (fun n _ cs x h => formula_cells hs hC e0 o0 e1 o1 e2 o2 e3 o3 hci hcs hsa hCa ea0 oa0 ea1 oa1 ea2 oa2 htt hone hCt hgs hti hall hts n n (Nat.le_refl _) cs x h) hf
  obtain ⟨a, n, c, hvv⟩ := okWide_slice hts hv
  subst hvv
  simp [Value.cells] at e
  subst e
  exact ⟨fo, hfo⟩
end
end Go.Proofs.YtbppcpaodfjpkaaDoor
