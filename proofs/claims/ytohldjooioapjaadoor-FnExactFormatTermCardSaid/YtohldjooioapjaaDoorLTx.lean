/- FnExactFormatTerm's walk. -/
import Derived.Test.YtohldjooioapjaaDoorTxD
import Derived.Test.YtohldjooioapjaaDoorLawA
namespace Go.Proofs.YtohldjooioapjaaDoor
open Go.RowKit

set_option maxHeartbeats 2000000 in
theorem exactFormatTerm_walk (a b c d n : Int) (w : World) (ht : Tab w) :
    Calls Tryd.prog 6 #[.agg #[.int .i64 a, .int .i64 b, .int .i64 c, .int .i64 d, .int .i64 n]] w fun e w' => e = .returned (.bool true) ∧ Below w.heap.size w w' := by
  have hl0 := bs_list
  have HS := Lib.hid fun W => specFormatTerm_any a b c d n W
  have HP := Lib.hid fun W (h : Tab W) => pFormatTerm_any a b c d n W h
  obtain ⟨F, hF⟩ : ∃ F, tfL a b c d n = F := ⟨_, rfl⟩
  rw [hF] at HS HP
  have hFF : (F == F) = true := by simp
  clear hF
  have HT := Lib.hid ht
  clear ht
  go_enter Tryd.func6, Tryd.ntmps6
  go_wp2_with fail
  refine (toTerm_any _ _ _ _ _ _).mono ?_
  rintro e w' ⟨rfl, rfl⟩
  go_wp2_with fail
  refine (HS.out _).mono ?_
  rintro e w1 ⟨rfl, hb1⟩
  have HB1 := Lib.hid (show Below w.heap.size w w1 from (show Below w.heap.size w _ by go_grown).trans (hb1.mono (by go_size)))
  obtain ⟨hc, hf⟩ := bcell hb1
  have hz1 := hb1.size
  simp at hz1
  clear hb1
  go_wp2_with fail
  refine (toTerm_any _ _ _ _ _ _).mono ?_
  rintro e w' ⟨rfl, rfl⟩
  have HB2 := Lib.hid (fun (W : World) (h : Below w1.heap.size w1 W) => below_on HB1.out h)
  go_wp2_with fail
  refine (HP.out _ (tab_on HT.out (HB2.out _ (by go_grown)))).mono ?_
  rintro e w2 ⟨rfl, hb2⟩
  have HB3 := Lib.hid (below_on (HB2.out _ (by go_grown)) hb2)
  clear hb2
  go_wp2
  go_ret
  exact ⟨rfl, HB3.out⟩

end Go.Proofs.YtohldjooioapjaaDoor
