/- The walk of the law that says that FormatClauses answers as its model does. -/
import Derived.Test.YtbppcpaodfjpkaaDoorFcB
import Derived.Deep.RegionHeld3
namespace Go.Proofs.YtbppcpaodfjpkaaDoor
open Go.RowKit

set_option maxRecDepth 100000 in
set_option maxHeartbeats 2000000 in
theorem exactFormatClauses_walk (v : Value) (LL : List (List AtD)) (w : World) (h : RdGG w v LL) (ht : Tab w) (hwd : Words w) :
    Calls Tryd.prog 4 #[v] w fun e w' => e = .returned (.bool true) ∧ Below w.heap.size w w' := by
  have HS := Lib.hid h
  have HTB := Lib.hid ht
  have HWD := Lib.hid hwd
  have hl0 := bs_list
  obtain ⟨F, hF⟩ : ∃ F, fcT LL = F := ⟨_, rfl⟩
  have hFF : (F == F) = true := by simp
  have HFV := Lib.hid hF
  clear hF ht hwd
  obtain ⟨sp, cap, rfl, _⟩ := h
  by_cases hsz : ssL LL ≤ 1048576
  · have HZ : Hid (szI (ssL LL) 1048576 = ((1048576 - ssL LL : Nat) : Int)) := szI_pos hsz
    obtain ⟨l, hl⟩ : ∃ l : Nat, 1048576 - ssL LL = l := ⟨_, rfl⟩
    rw [hl] at HZ
    have hl0 : ¬ (l : Int) < 0 := by omega
    have HSZ := Lib.hid hsz
    clear hl hsz
    go_enter Tryd.func4, Tryd.ntmps4
    go_wp2_with fail
    refine (szAtomSS_is _ _ _ HS.out).mono ?_
    rintro e w1 ⟨rfl, rfl⟩
    rw [HZ.out]
    go_wp2_with fail
    refine (toAtomSS_is _ LL w HSZ.out HS.out).mono ?_
    rintro e w2 ⟨s2, rfl, hs2, hb2⟩
    obtain ⟨a2, n2, c2, rfl⟩ := hs2.slice
    go_wp2_with fail
    refine (specFormatClauses_any _ LL _ hs2 HSZ.out).mono ?_
    rw [HFV.out]
    rintro e w3 ⟨rfl, hb3⟩
    have hw3 := below_on hb2 hb3
    clear hs2 hb2 hb3
    go_wp2_with fail
    refine (toAtomSS_is _ LL w3 HSZ.out (rdGG_on HS.out hw3)).mono ?_
    rintro e w4 ⟨s4, rfl, hs4, hb4⟩
    obtain ⟨a4, n4, c4, rfl⟩ := hs4.slice
    have hw4 := below_on hw3 hb4
    have HA := Lib.hid hs4
    clear hw3 hb4 hs4
    go_wp2_with fail
    refine (FormatClauses_any _ LL _ HA.out HSZ.out (tab_on HTB.out hw4) (words_on HWD.out hw4)).mono ?_
    rw [HFV.out]
    rintro e w5 ⟨rfl, hb5⟩
    have hw5 := below_on hw4 hb5
    have HA5 := Lib.hid (readsAA_on HA.out hb5)
    clear hw4 hb5
    go_wp2_with fail
    refine (toAtomSS_is _ LL w5 HSZ.out (rdGG_on HS.out hw5)).mono ?_
    rintro e w7 ⟨s7, rfl, hs7, hb7⟩
    obtain ⟨a7, n7, c7, rfl⟩ := hs7.slice
    have HA7 := Lib.hid (readsAA_on HA5.out hb7)
    have HS7 := Lib.hid hs7
    clear hs7
    go_wp2_with fail
    refine (eqAtomSS_same _ _ LL _ HA7.out HS7.out HSZ.out).mono ?_
    rintro e w8 ⟨rfl, hb8⟩
    go_wp2
    go_ret
    exact ⟨rfl, below_on hw5 (below_on hb7 hb8)⟩
  · have hz : szI (ssL LL) 1048576 = -1 := szI_neg (by omega)
    have HZ := Lib.hid hz
    clear hz
    go_enter Tryd.func4, Tryd.ntmps4
    go_wp2_with fail
    refine (szAtomSS_is _ _ _ HS.out).mono ?_
    rintro e w1 ⟨rfl, rfl⟩
    rw [HZ.out]
    go_wp2
    go_ret
    exact ⟨rfl, Below.refl _ _⟩

end Go.Proofs.YtbppcpaodfjpkaaDoor
