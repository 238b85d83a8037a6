/- The walk of the law that says that FormatProof answers as its model does. -/
import Derived.Test.YtbppcpaodfjpkaaDoorFpA
import Derived.Test.YtbppcpaodfjpkaaDoorFpB
namespace Go.Proofs.YtbppcpaodfjpkaaDoor
open Go.RowKit

set_option maxRecDepth 100000 in
set_option maxHeartbeats 2000000 in
theorem exactFormatProof_walk (v : Value) (LL : List SpD) (w : World) (h : RdSG w v LL) (ht : Tab w) :
    Calls Tryd.prog 5 #[v] w fun e w' => e = .returned (.bool true) ∧ Below w.heap.size w w' := by
  have HS := Lib.hid h
  have HTB := Lib.hid ht
  have hl0 := bs_list
  obtain ⟨F, hF⟩ : ∃ F, fpT LL = F := ⟨_, rfl⟩
  have hFF : (F == F) = true := by simp
  have HFV := Lib.hid hF
  clear hF ht
  obtain ⟨sp, cap, rfl, _⟩ := h
  by_cases hsz : spS LL ≤ 1048576
  · have HZ : Hid (szI (spS LL) 1048576 = ((1048576 - spS LL : Nat) : Int)) := szI_pos hsz
    obtain ⟨l, hl⟩ : ∃ l : Nat, 1048576 - spS LL = l := ⟨_, rfl⟩
    rw [hl] at HZ
    have hl0 : ¬ (l : Int) < 0 := by omega
    have HSZ := Lib.hid hsz
    clear hl hsz
    go_enter Tryd.func5, Tryd.ntmps5
    go_wp2_with fail
    refine (szStepS_is _ _ _ HS.out).mono ?_
    rintro e w1 ⟨rfl, hw1⟩
    rw [HZ.out]
    go_wp2_with fail
    refine (toStepS_is _ LL w1 HSZ.out (rdSG_on HS.out hw1)).mono ?_
    rintro e w2 ⟨s2, rfl, hs2, hb2⟩
    have hw2 := below_on hw1 hb2
    obtain ⟨a2, n2, c2, rfl⟩ := hs2.slice
    go_wp2_with fail
    refine (specFormatProof_any _ LL _ hs2 HSZ.out).mono ?_
    rw [HFV.out]
    rintro e w3 ⟨rfl, hb3⟩
    have hw3 := below_on hw2 hb3
    clear hs2 hb2 hb3 hw1 hw2
    go_wp2_with fail
    refine (toStepS_is _ LL w3 HSZ.out (rdSG_on HS.out hw3)).mono ?_
    rintro e w4 ⟨s4, rfl, hs4, hb4⟩
    obtain ⟨a4, n4, c4, rfl⟩ := hs4.slice
    have hw4 := below_on hw3 hb4
    have HA := Lib.hid hs4
    clear hw3 hb4 hs4
    go_wp2_with fail
    refine (FormatProof_any _ LL _ HA.out HSZ.out (tab_on HTB.out hw4)).mono ?_
    rw [HFV.out]
    rintro e w5 ⟨rfl, hb5⟩
    have hw5 := below_on hw4 hb5
    have HA5 := Lib.hid (readsSS_on HA.out hb5)
    clear hw4 hb5
    go_wp2_with fail
    refine (toStepS_is _ LL w5 HSZ.out (rdSG_on HS.out hw5)).mono ?_
    rintro e w7 ⟨s7, rfl, hs7, hb7⟩
    obtain ⟨a7, n7, c7, rfl⟩ := hs7.slice
    have HA7 := Lib.hid (readsSS_on HA5.out hb7)
    have HS7 := Lib.hid hs7
    clear hs7
    go_wp2_with fail
    refine (eqStepS_same _ _ LL _ HA7.out HS7.out HSZ.out).mono ?_
    rintro e w8 ⟨rfl, hb8⟩
    go_wp2
    go_ret
    exact ⟨rfl, below_on hw5 (below_on hb7 hb8)⟩
  · have hz : szI (spS LL) 1048576 = -1 := szI_neg (by omega)
    have HZ := Lib.hid hz
    clear hz
    go_enter Tryd.func5, Tryd.ntmps5
    go_wp2_with fail
    refine (szStepS_is _ _ _ HS.out).mono ?_
    rintro e w1 ⟨rfl, hw1⟩
    rw [HZ.out]
    go_wp2
    go_ret
    exact ⟨rfl, hw1⟩

end Go.Proofs.YtbppcpaodfjpkaaDoor
