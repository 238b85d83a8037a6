/- What the rows list of impl.kindWords gives a walk. -/
import Derived.Test.YtbppcpaodfjpkaaDoorLdTab4
import Derived.Test.YtbppcpaodfjpkaaDoorWd
import Derived.SliceStrings
namespace Go.Proofs.YtbppcpaodfjpkaaDoor
open Go.ChangeShapes Go.WideShapes Go.ChangeAt Go.RowKit Go.Joins Go.Deep Go.ChangeShapes

theorem g_kw : Tryd.prog.globalNamed "loop.example/presburger/impl.kindWords" = some 0 := by kernel_rfl
theorem t_kw : (Tryd.prog.globals[0]?).map (·.type) = some 66 := by kernel_rfl

theorem bs_eq (s : ByteArray) (l : List UInt8) (h : s.data.toList = l) : s = bs l := by
  subst h
  cases s
  simp [bs]

theorem words_of_laid {W : World} (h : laidMetH Tryd.prog laid4 W) : Words W := by
  rw [MakeChecks.laidMetH_plain _ _ _ (by kernel_rfl)] at h
  obtain ⟨ps, ⟨g0, t0, cs0, f0, p0, q0, hg0, ht0, hv0, hd0, ⟨g1, t1, cs1, f1, p1, q1, hg1, ht1, hv1, hd1, ⟨g2, t2, cs2, f2, p2, q2, hg2, ht2, hv2, hd2, ⟨g3, t3, cs3, f3, p3, q3, hg3, ht3, hv3, hd3, _, _⟩, _⟩, _⟩, _⟩, _, _⟩ := h
  obtain rfl := Option.some.inj (g_kw.symm.trans hg3)
  obtain rfl := Option.some.inj (t_kw.symm.trans ht3)
  rcases open_strings Tryd.underlying66 Tryd.underlying9 (by kernel_rfl) hd3 with ⟨_, hx⟩ | ⟨a, len, cap, ss, hcs, _, hlc, hcm, hsl, hx, hcell, _⟩
  · simp [Rows.laid_loop_example_presburger_impl_kindWords] at hx
  · have hsl' : ss.length = cap := by simpa using hsl
    have hx1 := congrArg Prod.fst hx
    simp only [Rows.laid_loop_example_presburger_impl_kindWords] at hx1
    injection hx1 with e1 e2
    have hd : ss.drop len = [] := by
      have := congrArg List.length e2
      simp [strs] at this
      exact List.drop_eq_nil_of_le (by omega)
    have hle : ss.length ≤ len := List.drop_eq_nil_iff.1 hd
    rw [List.take_of_length_le hle] at e1
    have hn : ss.length = 8 := by
      have := congrArg List.length e1
      simpa [strs] using this.symm
    obtain rfl : len = 8 := by omega
    obtain rfl : cap = 8 := by omega
    have hat : ∀ i : Nat, i ≤ 7 → ss.getD i ByteArray.empty = bs (wdT i) := by
      intro i hi
      have hi8 : i < ss.length := by omega
      have := congrArg (·[i]?) e1
      simp only [strs, List.getElem?_map, List.getElem?_eq_getElem hi8, Option.map_some] at this
      rw [List.getD_eq_getElem?_getD, List.getElem?_eq_getElem hi8, Option.getD_some]
      have hi' : i = 0 ∨ i = 1 ∨ i = 2 ∨ i = 3 ∨ i = 4 ∨ i = 5 ∨ i = 6 ∨ i = 7 := by omega
      refine bs_eq _ _ ?_
      rcases hi' with rfl | rfl | rfl | rfl | rfl | rfl | rfl | rfl
      all_goals
        simp at this
        first
        | exact this.symm
        | (rw [this]; rfl)
    obtain ⟨b, off, spot⟩ := a
    have hspot : spot = none := by simpa [Addr.add] using World.cell?_spot (hcell 0 (by omega))
    subst hspot
    have hc : W.cell? ⟨0, 0, none⟩ = some (.slice (some ⟨b, off, none⟩) 8 8) := by
      rw [World.var?_cell hg3 hv3 0]
      have : cs3.toList[0]? = some (Value.slice (some ⟨b, off, none⟩) 8 8) := by rw [hcs]; rfl
      simpa using this
    have hcl : ∀ i : Nat, i ≤ 7 → W.cell? ⟨b, off + i, none⟩ = some (.string (bs (wdT i))) := fun i hi => by
      rw [← hat i hi, ← Go.WideShapes.add_plain]
      exact hcell i (by omega)
    exact ⟨b, off, 8, hc, by omega, by omega, World.block_lt_of_cell? W _ hc, World.block_lt_of_cell? W _ (hcl 0 (by omega)), hcl⟩

end Go.Proofs.YtbppcpaodfjpkaaDoor
