/- The walks of the laws that say that AtomValid and TruthAtom answer as their models do. -/
import Derived.Test.YthphlkfofbdncaaAtB
import Derived.Test.YthphlkfofbdncaaLawB
namespace Go.Proofs.Ythphlkfofbdncaa
open Go.RowKit

set_option maxHeartbeats 400000 in
theorem toAtom_any (k m a b c d n : Int) (w : World) :
    Calls Try.prog 19 #[.agg #[.int .i64 k, .int .i64 m, .int .i64 a, .int .i64 b, .int .i64 c, .int .i64 d, .int .i64 n]] w fun e w' => e = .returned (.agg #[.int .i64 k, .int .i64 m, .int .i64 a, .int .i64 b, .int .i64 c, .int .i64 d, .int .i64 n]) ∧ Below w.heap.size w w' := by
  go_enter Try.func19, Try.ntmps19
  go_wp2_with (go_at_call 34; refine (toTerm_to _ _ _ _ _ _).mono ?_; rintro e w' ⟨rfl, rfl⟩)
  refine bodyPost_ret (v := .agg #[.int .i64 k, .int .i64 m, .int .i64 a, .int .i64 b, .int .i64 c, .int .i64 d, .int .i64 n]) (by simp [results, Try.results19, go_sem]) rfl ⟨rfl, ?_⟩
  go_grown

set_option maxHeartbeats 400000 in
theorem eqAtom_same (k m a b c d n : Int) (w : World) :
    Calls Try.prog 30 #[.agg #[.int .i64 k, .int .i64 m, .int .i64 a, .int .i64 b, .int .i64 c, .int .i64 d, .int .i64 n], .agg #[.int .i64 k, .int .i64 m, .int .i64 a, .int .i64 b, .int .i64 c, .int .i64 d, .int .i64 n]] w fun e w' => e = .returned (.bool true) ∧ Below w.heap.size w w' := by
  go_enter Try.func30, Try.ntmps30
  go_wp2_with (go_at_call 80; refine (eqTerm_same _ _ _ _ _ _).mono ?_; rintro e w' ⟨rfl, rfl⟩)
  go_ret
  exact ⟨rfl, by go_grown⟩

set_option maxHeartbeats 400000 in
theorem exactAtomValid_walk (k m a b c d n : Int) (w : World) :
    Calls Try.prog 3 #[.agg #[.int .i64 k, .int .i64 m, .int .i64 a, .int .i64 b, .int .i64 c, .int .i64 d, .int .i64 n]] w fun e w' => e = .returned (.bool true) ∧ Below w.heap.size w w' := by
  obtain ⟨t, ht⟩ : ∃ t, avB k m a b c d n = t := ⟨_, rfl⟩
  have HS := Lib.hid fun W => specAtomValid_is k m a b c d n t W ht
  have HI := Lib.hid fun W => AtomValid_is k m a b c d n t W ht
  clear ht
  go_enter Try.func3, Try.ntmps3
  go_wp2_with fail
  generalize hW : w.alloc (.cells #[.int .i64 k, .int .i64 m, .int .i64 a, .int .i64 b, .int .i64 c, .int .i64 d, .int .i64 n] 25) = W
  have hx : C7 W w.heap.size k m a b c d n := by subst hW; exact (by refine ⟨?_, ?_, ?_, ?_, ?_, ?_, ?_, ?_⟩ <;> first | (simp [go_sem]; done) | (simp; omega))
  have hw0 : Below w.heap.size w W := by subst hW; go_grown
  clear hW
  obtain ⟨x0, x1, x2, x3, x4, x5, x6, x7⟩ := id hx
  refine (toAtom_any _ _ _ _ _ _ _ _).mono ?_
  rintro e w1 ⟨rfl, hb1⟩
  go_wp2_with fail
  refine (HS.out _).mono ?_
  rintro e w2 ⟨rfl, hb2⟩
  have hbb := below_on hb1 hb2
  obtain ⟨x0, x1, x2, x3, x4, x5, x6, x7⟩ := c7_on hx hbb
  go_wp2_with fail
  refine (toAtom_any _ _ _ _ _ _ _ _).mono ?_
  rintro e w3 ⟨rfl, hb3⟩
  have hbb := below_on hbb hb3
  go_wp2_with fail
  refine (HI.out _).mono ?_
  rintro e w4 ⟨rfl, hb4⟩
  have hbb := below_on hbb hb4
  go_wp2
  go_ret
  exact ⟨rfl, below_on hw0 hbb⟩

set_option maxHeartbeats 400000 in
theorem exactTruthAtom_walk (t : Bool) (w : World) :
    Calls Try.prog 6 #[.bool t] w fun e w' => e = .returned (.bool true) ∧ Below w.heap.size w w' := by
  have HS := Lib.hid fun W => specTruthAtom_is t W
  have HI := Lib.hid fun W => TruthAtom_is t W
  go_enter Try.func6, Try.ntmps6
  go_wp2_with fail
  refine (HS.out _).mono ?_
  rintro e w1 ⟨rfl, hb1⟩
  go_wp2_with fail
  generalize hW : w1.alloc (.cells #[.int .i64 0, .int .i64 0, .int .i64 0, .int .i64 0, .int .i64 0, .int .i64 0, .int .i64 (trN t)] 29) = W2
  have hy : C7 W2 w1.heap.size 0 0 0 0 0 0 (trN t) := by subst hW; exact (by refine ⟨?_, ?_, ?_, ?_, ?_, ?_, ?_, ?_⟩ <;> first | (simp [go_sem]; done) | (simp; omega))
  have hbb : Below w.heap.size w W2 := hb1.trans (by subst hW; exact (Below.refl _ _).alloc hb1.size _)
  clear hW
  refine (HI.out _).mono ?_
  rintro e w3 ⟨rfl, hb3⟩
  have hbb := below_on hbb hb3
  obtain ⟨y0, y1, y2, y3, y4, y5, y6, y7⟩ := c7_on hy hb3
  go_wp2_with fail
  refine (eqAtom_same _ _ _ _ _ _ _ _).mono ?_
  rintro e w4 ⟨rfl, hb4⟩
  have hs := hbb.size
  have hbb := below_on (w := w) (by go_grown) hb4
  go_wp2
  go_ret
  exact ⟨rfl, hbb⟩

end Go.Proofs.Ythphlkfofbdncaa
