/- Contracts of FormulaValid of the model and of the program, and of nodeOf. -/
import Derived.Test.YtbppcpaodfjpkaaDoorFormH
namespace Go.Proofs.YtbppcpaodfjpkaaDoor
open Go.RowKit

/-- A formula is valid. -/
def vfB (h : FH) (f : Fo) : Bool := ownB h f.len && f.okB && decide (f.size + 1 ≤ 600)

theorem vf_shp (h : FH) (f : Fo) : (vfB h f = true ∧ shpI h f = (f.size : Int) + 1 ∧ f.size + 1 ≤ 600) ∨ (vfB h f = false ∧ shpI h f = 601) := by
  unfold vfB shpI
  by_cases h1 : (ownB h f.len && f.okB) = true
  · by_cases h2 : f.size + 1 ≤ 600
    · exact .inl ⟨by rw [h1]; simpa using h2, if_pos ⟨h1, h2⟩, h2⟩
    · exact .inr ⟨by rw [h1]; simpa using h2, if_neg (fun h => h2 h.2)⟩
  · exact .inr ⟨by simp only [Bool.not_eq_true] at h1; rw [h1]; rfl, if_neg (fun h => h1 h.1)⟩

def BoolT (b : Bool) (w : World) (e : Ending) (w' : World) : Prop := e = .returned (.bool b) ∧ Below w.heap.size w w'
def IntT (n : Int) (w : World) (e : Ending) (w' : World) : Prop := e = .returned (.int .i64 n) ∧ Below w.heap.size w w'

theorem specFormulaValid_any (h : FH) (f : Fo) (w : World) (lo : Nat) (s : Value) (hs : FS w lo f s) :
    Calls Tryd.prog 22 #[.agg #[.int .i64 h.k, .int .i64 h.ak, .int .i64 h.am, .int .i64 h.a, .int .i64 h.b, .int .i64 h.c, .int .i64 h.d, .int .i64 h.n, .int .i64 h.v, s]] w (BoolT (vfB h f) w) := by
  have HC := Lib.hid (fun W hW => shF_any h f W lo s (FS.below (w := w) hW (Nat.le_refl _) hs))
  obtain ⟨sa, sn, sc, rfl⟩ := hs.slice
  clear hs
  rcases vf_shp h f with ⟨hv, he, _⟩ | ⟨hv, he⟩
  · have HV := Lib.hid hv
    rw [he] at HC
    have h6 : (f.size : Int) + 1 ≤ 600 := by omega
    clear hv he
    go_enter Tryd.func22, Tryd.ntmps22
    go_wp2_with fail
    refine (HC.out _ (by go_grown)).mono ?_
    rintro e w1 ⟨rfl, hb1⟩
    go_wp2
    go_ret
    exact ⟨va_bool (by rw [HV.out]), below_on (by go_grown) hb1⟩
  · have HV := Lib.hid hv
    rw [he] at HC
    clear hv he
    go_enter Tryd.func22, Tryd.ntmps22
    go_wp2_with fail
    refine (HC.out _ (by go_grown)).mono ?_
    rintro e w1 ⟨rfl, hb1⟩
    go_wp2
    go_ret
    exact ⟨va_bool (by rw [HV.out]), below_on (by go_grown) hb1⟩

/-- The node, and whether there is one. -/
def ndV (h : FH) (f : Fo) : Value := if vfB h f then .tuple #[nd1 h f.nds, .bool true] else .tuple #[.nilIface, .bool false]
def NdT (h : FH) (f : Fo) (w : World) (e : Ending) (w' : World) : Prop := e = .returned (ndV h f) ∧ Below w.heap.size w w'

theorem vf_cond (h : FH) (f : Fo) : vfB h f = true ↔ (ownB h f.len && f.okB) = true ∧ f.size + 1 ≤ 600 := by
  unfold vfB
  rw [Bool.and_eq_true, decide_eq_true_eq]

theorem lim_nd {h : FH} {f : Fo} {p : Nat} {w w' : World} {e : Ending} (hl : LimPost h f p 600 w e w') : e = .returned (ndV h f) ∧ w.grownBy w' (some p) := by
  unfold LimPost at hl
  unfold ndV
  by_cases hc : (ownB h f.len && f.okB) = true ∧ f.size + 1 ≤ 600
  · rw [if_pos hc] at hl
    rw [if_pos ((vf_cond h f).2 hc)]
    exact ⟨hl.1, hl.2.1⟩
  · rw [if_neg hc] at hl
    rw [if_neg (fun hv => hc ((vf_cond h f).1 hv))]
    exact hl

theorem ndV_two (h : FH) (f : Fo) : ∃ x b, ndV h f = .tuple #[x, .bool b] := by
  unfold ndV
  split
  · exact ⟨_, _, rfl⟩
  · exact ⟨_, _, rfl⟩

set_option maxHeartbeats 1000000 in
theorem nodeOf_any (h : FH) (f : Fo) (w : World) (lo : Nat) (s : Value) (hs : FS w lo f s) :
    Calls Tryd.prog 46 #[.agg #[.int .i64 h.k, .int .i64 h.ak, .int .i64 h.am, .int .i64 h.a, .int .i64 h.b, .int .i64 h.c, .int .i64 h.d, .int .i64 h.n, .int .i64 h.v, s]] w (NdT h f w) := by
  have HS := Lib.hid hs
  obtain ⟨sa, sn, sc, rfl⟩ := hs.slice
  obtain ⟨x, b, hx⟩ := ndV_two h f
  have HX := Lib.hid hx
  clear hs hx
  go_enter Tryd.func46, Tryd.ntmps46
  go_wp2_with fail
  generalize hW : World.alloc _ _ = W
  have hb : Below w.heap.size w W := by subst hW; go_grown
  have hc : W.cell? ⟨w.heap.size + 1, 0, none⟩ = some (.int .i64 (600 : Nat)) := by subst hW; simp [go_sem]
  have hf : W.frozen? ⟨w.heap.size + 1, 0, none⟩ = false := by subst hW; simp [go_sem]
  have hsz : w.heap.size + 1 < W.heap.size := by subst hW; simp
  clear hW
  refine (lim_any h f w W lo (w.heap.size + 1) 600 _ HS.out hb (by omega) hsz (Nat.le_refl _) hc hf).mono ?_
  intro e w1 hl
  obtain ⟨he, hg⟩ := lim_nd hl
  rw [HX.out] at he
  subst he
  have hb1 := below_gp hb hg (by omega)
  clear hg hl hc hf
  go_wp2
  go_ret2
  exact ⟨by rw [HX.out]; rfl, hb1⟩

end Go.Proofs.YtbppcpaodfjpkaaDoor
