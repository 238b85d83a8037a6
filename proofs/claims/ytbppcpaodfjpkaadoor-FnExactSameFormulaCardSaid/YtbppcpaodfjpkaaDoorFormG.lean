/- Nodes as values; the contract of nodeWith. -/
import Derived.Test.YtbppcpaodfjpkaaDoorFormE
import Derived.Test.YtbppcpaodfjpkaaDoorDr1
import Derived.RegionTactic
namespace Go.Proofs.YtbppcpaodfjpkaaDoor
open Go.RowKit

/-- The node of a formula, its parts' nodes being l. -/
def nd1 (h : FH) (l : List Value) : Value :=
  if h.k = 0 then .iface 131 (.agg #[.bool true])
  else if h.k = 1 then .iface 131 (.agg #[.bool false])
  else if h.k = 3 then .iface 133 (.agg #[l.getD 0 undef])
  else if h.k = 4 then .iface 135 (.agg #[.bool true, l.getD 0 undef, l.getD 1 undef])
  else if h.k = 5 then .iface 135 (.agg #[.bool false, l.getD 0 undef, l.getD 1 undef])
  else if h.k = 6 then .iface 116 (.agg #[.bool true, .int .i64 h.v, l.getD 0 undef])
  else if h.k = 7 then .iface 116 (.agg #[.bool false, .int .i64 h.v, l.getD 0 undef])
  else .iface 114 (.agg #[.int .i64 h.ak, .int .i64 h.am, .int .i64 h.a, .int .i64 h.b, .int .i64 h.c, .int .i64 h.d, .int .i64 h.n])
/-- The nodes of a list of formulas. -/
def Fo.nds : Fo → List Value
  | .nil => []
  | .cons h s r => nd1 h s.nds :: r.nds

theorem below_dn {B n : Nat} {w w' : World} (h : Below B w w') : Below B w (w'.drewN n) := ⟨h.os, h.tape, h.output, h.size, h.block⟩

theorem own_read {w : World} {base e n : Nat} {v : Value} {xs : List Value} (h : w.ownsRow base e 1 v n xs) (hn : 0 < n) :
    ∃ g cap, v = .slice (some ⟨g, 0, none⟩) n cap ∧ n ≤ cap ∧ cap ≤ maxLen ∧ base ≤ g ∧ g < w.heap.size ∧ ∀ j, j < n → w.cell? ⟨g, j, none⟩ = xs[j]? := by
  obtain ⟨h1, h2⟩ := id h
  rcases h2 with ⟨_, h0⟩ | ⟨g, cap, cur, e0, hb, hg, hc1, hc2, _⟩
  · omega
  · subst e0
    exact ⟨g, cap, rfl, hc1, hc2, hb, (h.lt g rfl).2, fun j hj => h.cellAt j (by omega)⟩

theorem nodeWith_0 (h : FH) (s : Value) (w : World) (v : Value) (hk : h.k = 0 ∨ h.k = 1 ∨ h.k = 2) :
    Calls Tryd.prog 78 #[.agg #[.int .i64 h.k, .int .i64 h.ak, .int .i64 h.am, .int .i64 h.a, .int .i64 h.b, .int .i64 h.c, .int .i64 h.d, .int .i64 h.n, .int .i64 h.v, s], v] w fun e w' => e = .returned (nd1 h []) ∧ Below w.heap.size w w' := by
  obtain ⟨k, ak, am, a, b, c, d, n, u⟩ := h
  dsimp only at hk ⊢
  rcases hk with rfl | rfl | rfl
  all_goals
    go_enter Tryd.func78, Tryd.ntmps78
    go_wp2
    go_ret
    exact ⟨rfl, by go_grown⟩

theorem nodeWith_1 (h : FH) (s : Value) (w : World) (base : Nat) (v : Value) (t : TypeId) (y : Value) (hk : h.k = 3 ∨ h.k = 6 ∨ h.k = 7) (hown : w.ownsRow base 84 1 v 1 [.iface t y]) :
    Calls Tryd.prog 78 #[.agg #[.int .i64 h.k, .int .i64 h.ak, .int .i64 h.am, .int .i64 h.a, .int .i64 h.b, .int .i64 h.c, .int .i64 h.d, .int .i64 h.n, .int .i64 h.v, s], v] w fun e w' => e = .returned (nd1 h [.iface t y]) ∧ Below w.heap.size w w' := by
  obtain ⟨g, cap, rfl, hc1, hc2, _, hg, hr⟩ := own_read hown (by omega)
  have r0 : w.cell? ⟨g, 0, none⟩ = some (.iface t y) := hr 0 (by omega)
  obtain ⟨k, ak, am, a, b, c, d, n, u⟩ := h
  dsimp only at hk ⊢
  clear hr hown
  rcases hk with rfl | rfl | rfl
  · go_enter Tryd.func78, Tryd.ntmps78
    go_wp2
    go_ret
    exact ⟨rfl, by go_grown⟩
  · go_enter Tryd.func78, Tryd.ntmps78
    go_wp2
    go_quiet (fail)
    go_wp2
    go_ret
    exact ⟨rfl, below_dn (by go_grown)⟩
  · go_enter Tryd.func78, Tryd.ntmps78
    go_wp2
    go_quiet (fail)
    go_wp2
    go_ret
    exact ⟨rfl, below_dn (by go_grown)⟩

theorem nodeWith_2 (h : FH) (s : Value) (w : World) (base : Nat) (v : Value) (t t' : TypeId) (y y' : Value) (hk : h.k = 4 ∨ h.k = 5) (hown : w.ownsRow base 84 1 v 2 [.iface t y, .iface t' y']) :
    Calls Tryd.prog 78 #[.agg #[.int .i64 h.k, .int .i64 h.ak, .int .i64 h.am, .int .i64 h.a, .int .i64 h.b, .int .i64 h.c, .int .i64 h.d, .int .i64 h.n, .int .i64 h.v, s], v] w fun e w' => e = .returned (nd1 h [.iface t y, .iface t' y']) ∧ Below w.heap.size w w' := by
  obtain ⟨g, cap, rfl, hc1, hc2, _, hg, hr⟩ := own_read hown (by omega)
  have r0 : w.cell? ⟨g, 0, none⟩ = some (.iface t y) := hr 0 (by omega)
  have r1 : w.cell? ⟨g, 1, none⟩ = some (.iface t' y') := hr 1 (by omega)
  obtain ⟨k, ak, am, a, b, c, d, n, u⟩ := h
  dsimp only at hk ⊢
  clear hr hown
  rcases hk with rfl | rfl
  all_goals
    go_enter Tryd.func78, Tryd.ntmps78
    go_wp2
    go_quiet (fail)
    go_wp2
    go_ret
    exact ⟨rfl, below_dn (by go_grown)⟩

theorem nd1_iface (h : FH) (l : List Value) : ∃ t y, nd1 h l = .iface t y := by
  unfold nd1
  repeat' split
  all_goals exact ⟨_, _, rfl⟩

theorem nds_len (f : Fo) : f.nds.length = f.len := by
  induction f with
  | nil => rfl
  | cons h s r _ ih => simp [Fo.nds, Fo.len, ih]

/-- The node of a formula that is valid apart from its parts. -/
theorem nodeWith_any (h : FH) (s : Value) (w : World) (base : Nat) (v : Value) (f : Fo) (ho : ownB h f.len = true) (hown : w.ownsRow base 84 1 v f.len f.nds) :
    Calls Tryd.prog 78 #[.agg #[.int .i64 h.k, .int .i64 h.ak, .int .i64 h.am, .int .i64 h.a, .int .i64 h.b, .int .i64 h.c, .int .i64 h.d, .int .i64 h.n, .int .i64 h.v, s], v] w fun e w' => e = .returned (nd1 h f.nds) ∧ Below w.heap.size w w' := by
  have hl : (f.len : Int) = subsI h.k := by
    unfold ownB at ho
    simp only [Bool.and_eq_true, decide_eq_true_eq] at ho
    exact ho.2
  have hk := kinds h.k
  match f, hown with
  | .nil, _ =>
    refine nodeWith_0 h s w v ?_
    simp only [Fo.len] at hl
    unfold subsI at hl
    split at hl
    · assumption
    · split at hl
      · omega
      · split at hl <;> omega
  | .cons h1 s1 .nil, hown =>
    obtain ⟨t, y, e⟩ := nd1_iface h1 s1.nds
    simp only [Fo.nds, Fo.len, e] at hown ⊢
    refine nodeWith_1 h s w base v t y ?_ hown
    simp only [Fo.len] at hl
    unfold subsI at hl
    split at hl
    · omega
    · split at hl
      · assumption
      · split at hl <;> omega
  | .cons h1 s1 (.cons h2 s2 .nil), hown =>
    obtain ⟨t, y, e⟩ := nd1_iface h1 s1.nds
    obtain ⟨t', y', e'⟩ := nd1_iface h2 s2.nds
    simp only [Fo.nds, Fo.len, e, e'] at hown ⊢
    refine nodeWith_2 h s w base v t t' y y' ?_ hown
    simp only [Fo.len] at hl
    unfold subsI at hl
    split at hl
    · omega
    · split at hl
      · omega
      · split at hl
        · assumption
        · omega
  | .cons _ _ (.cons _ _ (.cons _ _ r)), _ =>
    exfalso
    simp only [Fo.len] at hl
    unfold subsI at hl
    split at hl
    · omega
    · split at hl
      · omega
      · split at hl <;> omega

end Go.Proofs.YtbppcpaodfjpkaaDoor
