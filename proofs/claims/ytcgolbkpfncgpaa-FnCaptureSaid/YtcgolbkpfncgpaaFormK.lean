/- The contract of nestedIn: how deep quantifiers are nested in a node. -/
import Derived.Test.YtcgolbkpfncgpaaFormI
import Derived.Deep.RegionWith
namespace Go.Proofs.Ytcgolbkpfncgpaa
open Go.RowKit

/-- One more for a quantifier. -/
def qN (h : FH) : Nat := if qB h.k = true then 1 else 0
/-- The greatest depth of nested quantifiers in the formulas of a list. -/
def Fo.nst : Fo → Nat
  | .nil => 0
  | .cons h s r => max (s.nst + qN h) r.nst
theorem qN_le (h : FH) : qN h ≤ 1 := by unfold qN; split <;> omega
theorem nst_le (f : Fo) : f.nst ≤ f.size := by
  induction f with
  | nil => exact Nat.le_refl _
  | cons h s r ih1 ih2 => have := qN_le h; simp only [Fo.nst, Fo.size]; omega

theorem kind_t (b : Bool) (w : World) : Calls Try.prog 190 #[.agg #[.bool b]] w (IntT (if b then 0 else 1) w) := by
  cases b
  all_goals
    go_enter Try.func190, Try.ntmps190
    go_wp2
    go_ret
    exact ⟨rfl, by go_grown⟩
theorem kind_a (x : Array Value) (w : World) : Calls Try.prog 186 #[.agg x] w (IntT 2 w) := by
  go_enter Try.func186, Try.ntmps186
  go_wp2
  go_ret
  exact ⟨rfl, by go_grown⟩
theorem kind_n (t : TypeId) (y : Value) (w : World) : Calls Try.prog 194 #[.agg #[.iface t y]] w (IntT 3 w) := by
  go_enter Try.func194, Try.ntmps194
  go_wp2
  go_ret
  exact ⟨rfl, by go_grown⟩
theorem kind_p (b : Bool) (t t' : TypeId) (y y' : Value) (w : World) : Calls Try.prog 192 #[.agg #[.bool b, .iface t y, .iface t' y']] w (IntT (if b then 4 else 5) w) := by
  cases b
  all_goals
    go_enter Try.func192, Try.ntmps192
    go_wp2
    go_ret
    exact ⟨rfl, by go_grown⟩
theorem kind_b (b : Bool) (v : Int) (t : TypeId) (y : Value) (w : World) : Calls Try.prog 188 #[.agg #[.bool b, .int .i64 v, .iface t y]] w (IntT (if b then 6 else 7) w) := by
  cases b
  all_goals
    go_enter Try.func188, Try.ntmps188
    go_wp2
    go_ret
    exact ⟨rfl, by go_grown⟩

def NsAt (x : Value) (q : Nat) : Prop := ∀ w, Calls Try.prog 158 #[x] w (IntT q w)

set_option maxHeartbeats 400000 in
theorem ns_0 (h : FH) (hk : h.k = 0 ∨ h.k = 1 ∨ h.k = 2) : NsAt (nd1 h []) 0 := by
  intro w
  obtain ⟨k, ak, am, a, b, c, d, n, u⟩ := h
  dsimp only at hk
  have HQ0 := Lib.hid (show qB 0 = false from rfl)
  have HQ1 := Lib.hid (show qB 1 = false from rfl)
  have HQ2 := Lib.hid (show qB 2 = false from rfl)
  rcases hk with rfl | rfl | rfl
  · show Calls Try.prog 158 #[.iface 165 (.agg #[.bool true])] w _
    go_enter Try.func158, Try.ntmps158
    go_wp2
    refine wp_loop_rounds 1 ?_
    rw [rounds_succ]
    go_wp2_with (first | (go_at_call 190; refine (kind_t _ _).mono ?_; rintro e wk ⟨rfl, hbk⟩) | (go_at_call 164; refine (isQ_is _ _ _ HQ0.out).mono ?_; rintro e w' ⟨rfl, rfl⟩))
    go_ret
    exact ⟨rfl, below_on (by go_grown) hbk⟩
  · show Calls Try.prog 158 #[.iface 165 (.agg #[.bool false])] w _
    go_enter Try.func158, Try.ntmps158
    go_wp2
    refine wp_loop_rounds 1 ?_
    rw [rounds_succ]
    go_wp2_with (first | (go_at_call 190; refine (kind_t _ _).mono ?_; rintro e wk ⟨rfl, hbk⟩) | (go_at_call 164; refine (isQ_is _ _ _ HQ1.out).mono ?_; rintro e w' ⟨rfl, rfl⟩))
    go_ret
    exact ⟨rfl, below_on (by go_grown) hbk⟩
  · show Calls Try.prog 158 #[.iface 146 (.agg #[.int .i64 ak, .int .i64 am, .int .i64 a, .int .i64 b, .int .i64 c, .int .i64 d, .int .i64 n])] w _
    go_enter Try.func158, Try.ntmps158
    go_wp2
    refine wp_loop_rounds 1 ?_
    rw [rounds_succ]
    go_wp2_with (first | (go_at_call 186; refine (kind_a _ _).mono ?_; rintro e wk ⟨rfl, hbk⟩) | (go_at_call 164; refine (isQ_is _ _ _ HQ2.out).mono ?_; rintro e w' ⟨rfl, rfl⟩))
    go_ret
    exact ⟨rfl, below_on (by go_grown) hbk⟩

set_option maxHeartbeats 1000000 in
theorem ns_1 (h : FH) (t : TypeId) (y : Value) (q : Nat) (hk : h.k = 3 ∨ h.k = 6 ∨ h.k = 7) (hq : q ≤ 600) (HC : NsAt (.iface t y) q) : NsAt (nd1 h [.iface t y]) (q + qN h) := by
  intro w
  have H := Lib.hid HC
  clear HC
  obtain ⟨k, ak, am, a, b, c, d, n, u⟩ := h
  dsimp only at hk
  have HQ3 := Lib.hid (show qB 3 = false from rfl)
  have HQ6 := Lib.hid (show qB 6 = true from rfl)
  have HQ7 := Lib.hid (show qB 7 = true from rfl)
  have hq0 : (0 : Int) ≤ q := by omega
  have hq6 : (q : Int) ≤ 600 := by omega
  rcases hk with rfl | rfl | rfl
  · show Calls Try.prog 158 #[.iface 179 (.agg #[.iface t y])] w _
    have HN := Lib.hid (show qN ⟨3, ak, am, a, b, c, d, n, u⟩ = 0 from rfl)
    go_enter Try.func158, Try.ntmps158
    go_wp2
    refine wp_loop_rounds 2 ?_
    rw [rounds_succ]
    go_wp2_with fail
    refine (H.out _).mono ?_
    rintro e w1 ⟨rfl, hb1⟩
    have hw1 : Below w.heap.size w w1 := below_on (by go_grown) hb1
    go_wp2_with fail
    all_goals
      rw [rounds_succ]
      go_wp2_with (first | (go_at_call 194; refine (kind_n _ _ _).mono ?_; rintro e wk ⟨rfl, hbk⟩) | (go_at_call 164; refine (isQ_is _ _ _ HQ3.out).mono ?_; rintro e w' ⟨rfl, rfl⟩))
      go_ret
      exact ⟨ret_int' (by rw [HN.out]; omega), below_on hw1 hbk⟩
  · show Calls Try.prog 158 #[.iface 148 (.agg #[.bool true, .int .i64 u, .iface t y])] w _
    have HN := Lib.hid (show qN ⟨6, ak, am, a, b, c, d, n, u⟩ = 1 from rfl)
    go_enter Try.func158, Try.ntmps158
    go_wp2
    refine wp_loop_rounds 2 ?_
    rw [rounds_succ]
    go_wp2_with fail
    refine (H.out _).mono ?_
    rintro e w1 ⟨rfl, hb1⟩
    have hw1 : Below w.heap.size w w1 := below_on (by go_grown) hb1
    go_wp2_with fail
    all_goals
      rw [rounds_succ]
      go_wp2_with (first | (go_at_call 188; refine (kind_b _ _ _ _ _).mono ?_; rintro e wk ⟨rfl, hbk⟩) | (go_at_call 164; refine (isQ_is _ _ _ HQ6.out).mono ?_; rintro e w' ⟨rfl, rfl⟩))
      go_ret
      exact ⟨ret_int' (by rw [HN.out]; omega), below_on hw1 hbk⟩
  · show Calls Try.prog 158 #[.iface 148 (.agg #[.bool false, .int .i64 u, .iface t y])] w _
    have HN := Lib.hid (show qN ⟨7, ak, am, a, b, c, d, n, u⟩ = 1 from rfl)
    go_enter Try.func158, Try.ntmps158
    go_wp2
    refine wp_loop_rounds 2 ?_
    rw [rounds_succ]
    go_wp2_with fail
    refine (H.out _).mono ?_
    rintro e w1 ⟨rfl, hb1⟩
    have hw1 : Below w.heap.size w w1 := below_on (by go_grown) hb1
    go_wp2_with fail
    all_goals
      rw [rounds_succ]
      go_wp2_with (first | (go_at_call 188; refine (kind_b _ _ _ _ _).mono ?_; rintro e wk ⟨rfl, hbk⟩) | (go_at_call 164; refine (isQ_is _ _ _ HQ7.out).mono ?_; rintro e w' ⟨rfl, rfl⟩))
      go_ret
      exact ⟨ret_int' (by rw [HN.out]; omega), below_on hw1 hbk⟩

set_option maxHeartbeats 1000000 in
theorem ns_2 (h : FH) (t t' : TypeId) (y y' : Value) (q q' : Nat) (hk : h.k = 4 ∨ h.k = 5) (hq : q ≤ 600) (hq' : q' ≤ 600) (HC : NsAt (.iface t y) q) (HC' : NsAt (.iface t' y') q') : NsAt (nd1 h [.iface t y, .iface t' y']) (max q q' + qN h) := by
  intro w
  have H := Lib.hid HC
  have H' := Lib.hid HC'
  clear HC HC'
  obtain ⟨k, ak, am, a, b, c, d, n, u⟩ := h
  dsimp only at hk
  have HQ4 := Lib.hid (show qB 4 = false from rfl)
  have HQ5 := Lib.hid (show qB 5 = false from rfl)
  have hq0 : (0 : Int) ≤ q := by omega
  have hq6 : (q : Int) ≤ 600 := by omega
  have hq0' : (0 : Int) ≤ q' := by omega
  have hq6' : (q' : Int) ≤ 600 := by omega
  rcases hk with rfl | rfl
  · show Calls Try.prog 158 #[.iface 167 (.agg #[.bool true, .iface t y, .iface t' y'])] w _
    have HN := Lib.hid (show qN ⟨4, ak, am, a, b, c, d, n, u⟩ = 0 from rfl)
    go_enter Try.func158, Try.ntmps158
    go_wp2
    generalize hW : World.alloc _ _ = W
    have hw : Below w.heap.size w W := by subst hW; go_grown
    have hc0 : W.cell? ⟨w.heap.size + 1, 0, none⟩ = some (.iface t y) := by subst hW; simp [go_sem]
    have hc1 : W.cell? ⟨w.heap.size + 1, 1, none⟩ = some (.iface t' y') := by subst hW; simp [go_sem]
    have hsW : w.heap.size + 1 < W.heap.size := by subst hW; simp
    clear hW
    refine wp_loop_rounds 3 ?_
    rw [rounds_succ]
    go_wp2_with fail
    refine (H.out _).mono ?_
    rintro e w1 ⟨rfl, hb1⟩
    have hw1 : Below w.heap.size w w1 := below_on hw hb1
    have hd1 := ((bcell hb1).1 _ 1 hsW).trans hc1
    clear hc0 hc1 hb1
    go_wp2_with fail
    all_goals
      rw [rounds_succ]
      go_wp2_with fail
      refine (H'.out _).mono ?_
      rintro e w2 ⟨rfl, hb2⟩
      have hw2 : Below w.heap.size w w2 := below_on hw1 hb2
      clear hd1 hb2
      go_wp2_with fail
      all_goals
        rw [rounds_succ]
        go_wp2_with (first | (go_at_call 192; refine (kind_p _ _ _ _ _ _).mono ?_; rintro e wk ⟨rfl, hbk⟩) | (go_at_call 164; refine (isQ_is _ _ _ HQ4.out).mono ?_; rintro e w' ⟨rfl, rfl⟩))
        go_ret
        exact ⟨ret_int' (by rw [HN.out]; omega), below_on hw2 hbk⟩
  · show Calls Try.prog 158 #[.iface 167 (.agg #[.bool false, .iface t y, .iface t' y'])] w _
    have HN := Lib.hid (show qN ⟨5, ak, am, a, b, c, d, n, u⟩ = 0 from rfl)
    go_enter Try.func158, Try.ntmps158
    go_wp2
    generalize hW : World.alloc _ _ = W
    have hw : Below w.heap.size w W := by subst hW; go_grown
    have hc0 : W.cell? ⟨w.heap.size + 1, 0, none⟩ = some (.iface t y) := by subst hW; simp [go_sem]
    have hc1 : W.cell? ⟨w.heap.size + 1, 1, none⟩ = some (.iface t' y') := by subst hW; simp [go_sem]
    have hsW : w.heap.size + 1 < W.heap.size := by subst hW; simp
    clear hW
    refine wp_loop_rounds 3 ?_
    rw [rounds_succ]
    go_wp2_with fail
    refine (H.out _).mono ?_
    rintro e w1 ⟨rfl, hb1⟩
    have hw1 : Below w.heap.size w w1 := below_on hw hb1
    have hd1 := ((bcell hb1).1 _ 1 hsW).trans hc1
    clear hc0 hc1 hb1
    go_wp2_with fail
    all_goals
      rw [rounds_succ]
      go_wp2_with fail
      refine (H'.out _).mono ?_
      rintro e w2 ⟨rfl, hb2⟩
      have hw2 : Below w.heap.size w w2 := below_on hw1 hb2
      clear hd1 hb2
      go_wp2_with fail
      all_goals
        rw [rounds_succ]
        go_wp2_with (first | (go_at_call 192; refine (kind_p _ _ _ _ _ _).mono ?_; rintro e wk ⟨rfl, hbk⟩) | (go_at_call 164; refine (isQ_is _ _ _ HQ5.out).mono ?_; rintro e w' ⟨rfl, rfl⟩))
        go_ret
        exact ⟨ret_int' (by rw [HN.out]; omega), below_on hw2 hbk⟩

end Go.Proofs.Ytcgolbkpfncgpaa
