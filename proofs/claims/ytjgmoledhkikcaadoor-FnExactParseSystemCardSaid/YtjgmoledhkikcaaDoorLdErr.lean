/- What the rows list of the library's tables and errors: what it gives a walk, and that the door's own heap meets it. -/
import Derived.Test.YtjgmoledhkikcaaDoorPtA
import Derived.Test.YtjgmoledhkikcaaDoorRows
import Derived.ProofKit
import Derived.LaidMore
import Derived.LaidHandle
import Derived.OpenShut
import Derived.Stop.Joined
import Derived.Lib.LaidTab
namespace Go.Proofs.YtjgmoledhkikcaaDoor
open Go.ChangeShapes Go.WideShapes Go.ChangeAt Go.RowKit Go.Joins

def laid5 : List (String × DataW Unit) := [("math/bits.deBruijn32tab", Rows.laid_math_bits_deBruijn32tab), ("math/bits.deBruijn64tab", Rows.laid_math_bits_deBruijn64tab), ("internal/strconv.uint64pow10", Rows.laid_internal_strconv_uint64pow10), ("strconv.ErrRange", Rows.laid_strconv_ErrRange), ("strconv.ErrSyntax", Rows.laid_strconv_ErrSyntax)]

theorem g_pow : Tryd.prog.globalNamed "internal/strconv.uint64pow10" = some 5 := by kernel_rfl
theorem t_pow : (Tryd.prog.globals[5]?).map (·.type) = some 149 := by kernel_rfl
theorem g_rng : Tryd.prog.globalNamed "strconv.ErrRange" = some 2 := by kernel_rfl
theorem g_syn : Tryd.prog.globalNamed "strconv.ErrSyntax" = some 1 := by kernel_rfl
theorem t_rng : (Tryd.prog.globals[2]?).map (·.type) = some 66 := by kernel_rfl
theorem t_syn : (Tryd.prog.globals[1]?).map (·.type) = some 66 := by kernel_rfl

theorem iface_read {P : Program} {H : Type} {enc : TypeId × Value → H} {t : TypeId} {ms : Array (String × TypeId)} (ht : P.underlying t = some (.interface ms)) {W : World} {base : Nat} {sp : Nat → Bool} {fuel : Nat} {cs : List Value} {y : DataW H × List MemPlace} (h : DataW.trod enc P W base sp false fuel t cs = some y) :
    ∃ v, cs = [v] ∧ (v = .nilIface ∨ ∃ te pe, v = .iface te pe) := by
  cases fuel with
  | zero => simp [DataW.trod] at h
  | succ n =>
    match cs, h with
    | [], h => simp [DataW.trod, ht] at h
    | [v], h => cases v <;> simp [DataW.trod, ht] at h <;> simp
    | _ :: _ :: _, h => simp [DataW.trod, ht] at h

theorem err_of {W : World} {n : String} {g : Nat} {t : TypeId} {ms : Array (String × TypeId)} {cs : Array Value} {f : Nat} {d : DataW Unit} {p : List MemPlace} (ht : Tryd.prog.underlying t = some (.interface ms)) (hg : Tryd.prog.globalNamed n = some g)
    (hv : W.var? Tryd.prog n = some cs) (hd : DataW.trod (fun _ => ()) Tryd.prog W 0 (fun _ => true) false f t cs.toList = some (d, p)) : Err1 W g := by
  obtain ⟨v, hcs, hx⟩ := iface_read ht hd
  have hc : W.cell? ⟨g, 0, none⟩ = some v := by
    rw [World.var?_cell hg hv 0]
    have : cs.toList[0]? = some v := by rw [hcs]; rfl
    simpa using this
  exact ⟨v, hc, hx, World.block_lt_of_cell? W _ hc⟩

theorem facts_of_laid {W : World} (h : laidMetH Tryd.prog laid5 W) : Tab W ∧ Errs W := by
  rw [MakeChecks.laidMetH_plain _ _ _ (by kernel_rfl)] at h
  obtain ⟨ps, ⟨g0, t0, cs0, f0, p0, q0, hg0, ht0, hv0, hd0, ⟨g1, t1, cs1, f1, p1, q1, hg1, ht1, hv1, hd1, ⟨g2, t2, cs2, f2, p2, q2, hg2, ht2, hv2, hd2, ⟨g3, t3, cs3, f3, p3, q3, hg3, ht3, hv3, hd3, ⟨g4, t4, cs4, f4, p4, q4, hg4, ht4, hv4, hd4, _, _⟩, _⟩, _⟩, _⟩, _⟩, _, _⟩ := h
  obtain rfl := Option.some.inj (g_pow.symm.trans hg2)
  obtain rfl := Option.some.inj (t_pow.symm.trans ht2)
  obtain rfl := Option.some.inj (g_rng.symm.trans hg3)
  obtain rfl := Option.some.inj (t_rng.symm.trans ht3)
  obtain rfl := Option.some.inj (g_syn.symm.trans hg4)
  obtain rfl := Option.some.inj (t_syn.symm.trans ht4)
  refine ⟨?_, err_of Tryd.underlying66 g_syn hv4 hd4, err_of Tryd.underlying66 g_rng hv3 hd3⟩
  have hc := Lib.cells_of_tab (k := .u64) (zs := Lib.pow10Tab) Tryd.underlying149 Tryd.underlying122 (by kernel_rfl) (by kernel_rfl) hd2
  unfold Tab Lib.TabIs
  rw [hv2, ← hc]

theorem door_met (os : Os) (args : Array Value) : laidMetH Tryd.prog laid5 ((World.doorLaid Tryd.prog 400 os).forCall (fun _ _ => 0) ⟨#[], args, []⟩).memory :=
  laidMetH_of_parts3 (fuel := 8) (laidMet_of_run' 8 (by kernel_rfl) (by kernel_rfl)) (by kernel_rfl) (by kernel_rfl)

end Go.Proofs.YtjgmoledhkikcaaDoor
