/- The walk of the law that says that EvalTerm answers as its model does. -/
import Derived.Test.YthhbbfjmfcnmaabLawB
import Derived.Test.YthhbbfjmfcnmaabImplB
import Derived.Test.YthhbbfjmfcnmaabSpecC
import Derived.Test.YthhbbfjmfcnmaabHeld
namespace Go.Proofs.Ythhbbfjmfcnmaab
open Go.RowKit

theorem keep54 {W w' : World} {p q : Nat} {a b c d n x y z u : Int} (hx : C5 W p a b c d n) (hy : C4 W q x y z u) (hB : Below W.heap.size W w') :
    Below W.heap.size W w' ∧ w'.cell? ⟨p, 0, none⟩ = some (.int .i64 a) ∧ w'.cell? ⟨p, 1, none⟩ = some (.int .i64 b) ∧ w'.cell? ⟨p, 2, none⟩ = some (.int .i64 c) ∧ w'.cell? ⟨p, 3, none⟩ = some (.int .i64 d) ∧ w'.cell? ⟨p, 4, none⟩ = some (.int .i64 n) ∧ w'.cell? ⟨q, 0, none⟩ = some (.int .i64 x) ∧ w'.cell? ⟨q, 1, none⟩ = some (.int .i64 y) ∧ w'.cell? ⟨q, 2, none⟩ = some (.int .i64 z) ∧ w'.cell? ⟨q, 3, none⟩ = some (.int .i64 u) :=
  ⟨hB, (c5_on hx hB).2.1, (c5_on hx hB).2.2.1, (c5_on hx hB).2.2.2.1, (c5_on hx hB).2.2.2.2.1, (c5_on hx hB).2.2.2.2.2, (c4_on hy hB).2⟩

set_option maxHeartbeats 1000000 in
theorem exactEvalTerm_some (a b c d n x y z u r : Int) (ok : Bool) (w : World)
    (HS : Hid (∀ W, Calls Try.prog 18 #[.agg #[.int .i64 a, .int .i64 b, .int .i64 c, .int .i64 d, .int .i64 n], .agg #[.int .i64 x, .int .i64 y, .int .i64 z, .int .i64 u]] W fun e w' => e = .returned (.tuple #[.int .i64 r, .bool ok]) ∧ Below W.heap.size W w'))
    (HI : Hid (∀ W, Calls Try.prog 20 #[.agg #[.int .i64 a, .int .i64 b, .int .i64 c, .int .i64 d, .int .i64 n], .agg #[.int .i64 x, .int .i64 y, .int .i64 z, .int .i64 u]] W fun e w' => e = .returned (.tuple #[.int .i64 r, .bool ok]) ∧ Below W.heap.size W w')) :
    Calls Try.prog 5 #[.agg #[.int .i64 a, .int .i64 b, .int .i64 c, .int .i64 d, .int .i64 n], .agg #[.int .i64 x, .int .i64 y, .int .i64 z, .int .i64 u]] w fun e w' => e = .returned (.bool true) ∧ Below w.heap.size w w' := by
  go_enter Try.func5, Try.ntmps5
  go_wp2
  generalize hW : (w.alloc (.cells #[.int .i64 a, .int .i64 b, .int .i64 c, .int .i64 d, .int .i64 n] 33)).alloc (.cells #[.int .i64 x, .int .i64 y, .int .i64 z, .int .i64 u] 23) = W0
  have hx : C5 W0 w.heap.size a b c d n := by subst hW; exact (by refine ⟨?_, ?_, ?_, ?_, ?_, ?_⟩ <;> first | (simp [go_sem]; done) | (simp; omega))
  have hy : C4 W0 (w.heap.size + 1) x y z u := by subst hW; exact (by refine ⟨?_, ?_, ?_, ?_, ?_⟩ <;> first | (simp [go_sem]; done) | (simp; omega))
  have hw0 : Below w.heap.size w W0 := by subst hW; go_grown
  clear hW
  go_region_held3 (fun w' => Below W0.heap.size W0 w' ∧ w'.cell? ⟨w.heap.size, 0, none⟩ = some (.int .i64 a) ∧ w'.cell? ⟨w.heap.size, 1, none⟩ = some (.int .i64 b) ∧ w'.cell? ⟨w.heap.size, 2, none⟩ = some (.int .i64 c) ∧ w'.cell? ⟨w.heap.size, 3, none⟩ = some (.int .i64 d) ∧ w'.cell? ⟨w.heap.size, 4, none⟩ = some (.int .i64 n) ∧ w'.cell? ⟨w.heap.size + 1, 0, none⟩ = some (.int .i64 x) ∧ w'.cell? ⟨w.heap.size + 1, 1, none⟩ = some (.int .i64 y) ∧ w'.cell? ⟨w.heap.size + 1, 2, none⟩ = some (.int .i64 z) ∧ w'.cell? ⟨w.heap.size + 1, 3, none⟩ = some (.int .i64 u)) (exact keep54 hx hy (by go_grown)) (first | (go_at_call 19; refine (toTerm_to _ _ _ _ _ _).mono ?_; rintro e w' ⟨rfl, rfl⟩) | (go_at_call 13; refine (toPoint_any _ _ _ _ _).mono ?_; rintro e w' ⟨rfl, rfl⟩) | (go_at_call 18; refine (HS.out _).mono ?_; rintro e w1 ⟨rfl, hb1⟩; have hbb1 := below_on (w := W0) (by go_grown) hb1; have hs1 : W0.heap.size ≤ w1.heap.size := hbb1.size))
  go_wp2
  go_region_held3 (fun w' => Below W0.heap.size W0 w' ∧ w'.cell? ⟨w.heap.size, 0, none⟩ = some (.int .i64 a) ∧ w'.cell? ⟨w.heap.size, 1, none⟩ = some (.int .i64 b) ∧ w'.cell? ⟨w.heap.size, 2, none⟩ = some (.int .i64 c) ∧ w'.cell? ⟨w.heap.size, 3, none⟩ = some (.int .i64 d) ∧ w'.cell? ⟨w.heap.size, 4, none⟩ = some (.int .i64 n) ∧ w'.cell? ⟨w.heap.size + 1, 0, none⟩ = some (.int .i64 x) ∧ w'.cell? ⟨w.heap.size + 1, 1, none⟩ = some (.int .i64 y) ∧ w'.cell? ⟨w.heap.size + 1, 2, none⟩ = some (.int .i64 z) ∧ w'.cell? ⟨w.heap.size + 1, 3, none⟩ = some (.int .i64 u)) (exact keep54 hx hy (by go_grown)) (first | (go_at_call 19; refine (toTerm_to _ _ _ _ _ _).mono ?_; rintro e w' ⟨rfl, rfl⟩) | (go_at_call 13; refine (toPoint_any _ _ _ _ _).mono ?_; rintro e w' ⟨rfl, rfl⟩) | (go_at_call 20; refine (HI.out _).mono ?_; rintro e w2 ⟨rfl, hb2⟩; have hbb2 := below_on (w := W0) (by go_grown) hb2; have hs2 : W0.heap.size ≤ w2.heap.size := hbb2.size))
  go_wp2
  go_ret
  exact ⟨rfl, below_on hw0 (by go_grown)⟩

theorem exactEvalTerm_walk (a b c d n x y z u : Int) (w : World) :
    Calls Try.prog 5 #[.agg #[.int .i64 a, .int .i64 b, .int .i64 c, .int .i64 d, .int .i64 n], .agg #[.int .i64 x, .int .i64 y, .int .i64 z, .int .i64 u]] w fun e w' => e = .returned (.bool true) ∧ Below w.heap.size w w' := by
  by_cases h : (tvB a b c d n && pvB x y z u) = true
  · exact exactEvalTerm_some _ _ _ _ _ _ _ _ _ _ true w (Lib.hid fun W => specEvalTerm_ok a b c d n x y z u W h) (Lib.hid fun W => EvalTerm_ok a b c d n x y z u W h)
  · have h4 : (tvB a b c d n && pvB x y z u) = false := by simpa using h
    exact exactEvalTerm_some _ _ _ _ _ _ _ _ _ _ false w (Lib.hid fun W => specEvalTerm_bad a b c d n x y z u W h4) (Lib.hid fun W => EvalTerm_bad a b c d n x y z u W h4)

end Go.Proofs.Ythhbbfjmfcnmaab
