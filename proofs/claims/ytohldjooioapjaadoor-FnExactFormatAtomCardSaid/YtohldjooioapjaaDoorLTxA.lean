/- FnExactFormatAtom's walk. -/
import Derived.Test.YtohldjooioapjaaDoorTxE
import Derived.Test.YtohldjooioapjaaDoorAtC
namespace Go.Proofs.YtohldjooioapjaaDoor
open Go.RowKit

set_option maxHeartbeats 2000000 in
theorem exactFormatAtom_walk (k m a b c d n : Int) (w : World) (ht : Tab w) :
    Calls Tryd.prog 8 #[.agg #[.int .i64 k, .int .i64 m, .int .i64 a, .int .i64 b, .int .i64 c, .int .i64 d, .int .i64 n]] w fun e w' => e = .returned (.bool true) ∧ Below w.heap.size w w' := by
  have hl0 := bs_list
  have HS := Lib.hid fun W => specFormatAtom_any k m a b c d n W
  have HP := Lib.hid fun W (h : Tab W) => pFormatAtom_any k m a b c d n W h
  obtain ⟨F, hF⟩ : ∃ F, taL k m a b c d n = F := ⟨_, rfl⟩
  rw [hF] at HS HP
  have hFF : (F == F) = true := by simp
  clear hF
  have HT := Lib.hid ht
  clear ht
  go_enter Tryd.func8, Tryd.ntmps8
  go_wp2_with fail
  generalize hW : w.alloc (.cells #[.int .i64 k, .int .i64 m, .int .i64 a, .int .i64 b, .int .i64 c, .int .i64 d, .int .i64 n] 54) = W
  have hx : C7 W w.heap.size k m a b c d n := by subst hW; exact (by refine ⟨?_, ?_, ?_, ?_, ?_, ?_, ?_, ?_⟩ <;> first | (simp [go_sem]; done) | (simp; omega))
  have hw0 : Below w.heap.size w W := by subst hW; go_grown
  clear hW
  obtain ⟨x0, x1, x2, x3, x4, x5, x6, x7⟩ := id hx
  refine (toAtom_any _ _ _ _ _ _ _ _).mono ?_
  rintro e w1 ⟨rfl, hb1⟩
  go_wp2_with fail
  refine (HS.out _).mono ?_
  rintro e w2 ⟨rfl, hb2⟩
  have hbb := below_on hb1 hb2
  obtain ⟨x0, x1, x2, x3, x4, x5, x6, x7⟩ := c7_on hx hbb
  go_wp2_with fail
  refine (toAtom_any _ _ _ _ _ _ _ _).mono ?_
  rintro e w3 ⟨rfl, hb3⟩
  have hbb := below_on hw0 (below_on hbb hb3)
  go_wp2_with fail
  refine (HP.out _ (tab_on HT.out hbb)).mono ?_
  rintro e w4 ⟨rfl, hb4⟩
  have HB := Lib.hid (below_on hbb hb4)
  clear hbb hb4 hb3 hb2 hb1 hx hw0
  go_wp2
  go_ret
  exact ⟨rfl, HB.out⟩

end Go.Proofs.YtohldjooioapjaaDoor
