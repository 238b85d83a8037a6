/- Contracts of the model's functions of chapter 1 that make points and terms. -/
import Derived.Test.YtjgmoledhkikcaaDoorSpecA
namespace Go.Proofs.YtjgmoledhkikcaaDoor
open Go.RowKit


def C4 (w : World) (bl : Nat) (a b c d : Int) : Prop := bl < w.heap.size ∧ w.cell? ⟨bl, 0, none⟩ = some (.int .i64 a) ∧ w.cell? ⟨bl, 1, none⟩ = some (.int .i64 b) ∧ w.cell? ⟨bl, 2, none⟩ = some (.int .i64 c) ∧ w.cell? ⟨bl, 3, none⟩ = some (.int .i64 d)

set_option maxHeartbeats 400000 in
theorem l1Var_any (v : Int) (w : World) :
    Calls Tryd.prog 92 #[.int .i64 v] w fun e w' => e = .returned (.bool (varB v)) ∧ w = w' := by
  go_enter Tryd.func92, Tryd.ntmps92
  go_wp2_with (go_at_call 70; refine (l1In_any _ _ _ _).mono ?_; rintro e w' ⟨rfl, rfl⟩)
  go_ret
  exact ⟨ret_bool (by simp only [varB, inB]; congr 1; simp; omega), rfl⟩

theorem l1Var_is (v : Int) (t : Bool) (w : World) (h : varB v = t) :
    Calls Tryd.prog 92 #[.int .i64 v] w fun e w' => e = .returned (.bool t) ∧ w = w' :=
  (l1Var_any v w).mono fun _ _ ⟨he, hw⟩ => ⟨he.trans (ret_bool h), hw⟩

theorem l1In_is (n l h : Int) (t : Bool) (w : World) (hi : inB n l h = t) :
    Calls Tryd.prog 70 #[.int .i64 n, .int .i64 l, .int .i64 h] w fun e w' => e = .returned (.bool t) ∧ w = w' :=
  (l1In_any n l h w).mono fun _ _ ⟨he, hw⟩ => ⟨he.trans (ret_bool hi), hw⟩

set_option maxHeartbeats 400000 in
theorem l1Term_any (a b c d n : Int) (bl : Nat) (w : World) (hl : C5 w bl a b c d n) :
    Calls Tryd.prog 68 #[.slice (some ⟨bl, 0, none⟩) 5 5] w fun e w' => e = .returned (.agg #[.int .i64 a, .int .i64 b, .int .i64 c, .int .i64 d, .int .i64 n]) ∧ Below w.heap.size w w' := by
  obtain ⟨hb, h0, h1, h2, h3, h4⟩ := hl
  go_enter Tryd.func68, Tryd.ntmps68
  go_wp2
  go_region
  go_wp2
  refine bodyPost_ret (v := .agg #[.int .i64 a, .int .i64 b, .int .i64 c, .int .i64 d, .int .i64 n]) (by simp [results, Tryd.results68, go_sem]) rfl ⟨rfl, ?_⟩
  go_grown

theorem wvB_parts {a b c d v n : Int} (h : wvB a b c d v n = true) : pvB a b c d = true ∧ varB v = true ∧ inB n 0 1000 = true ∧ (0 ≤ v ∧ v < 4) := by
  simp only [wvB, Bool.and_eq_true] at h
  exact ⟨h.1.1, h.1.2, h.2, by have := h.1.2; simpa [varB] using this⟩

end Go.Proofs.YtjgmoledhkikcaaDoor
