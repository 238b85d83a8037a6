/- The walk of the law that says that StartLines answers as its model does. -/
import Derived.Test.YtaiajdeognnndaaSlB
namespace Go.Proofs.Ytaiajdeognnndaa
open Go.RowKit

theorem ownA_keep {w w' : World} {B : Nat} {v : Value} {M : List AtD} (h : OwnA w B v M) (hk : ∀ x, B ≤ x → w'.heap[x]? = w.heap[x]?) : OwnA w' B v M := by
  have h' : w.ownsRow B 49 7 v M.length (AL M) := h
  rcases h'.2 with ⟨rfl, hn⟩ | ⟨g, cap, cur, rfl, hb, hg, hr⟩
  · exact ⟨h'.1, .inl ⟨rfl, hn⟩⟩
  · exact ⟨h'.1, .inr ⟨g, cap, cur, rfl, hb, (hk g hb).trans hg, hr⟩⟩
theorem sl_len (L : List AtD) : (slL L).length ≤ 44 := by
  unfold slL
  split
  · rename_i h
    have := sp_len h
    simp [stL]
    omega
  · simp

set_option maxRecDepth 10000 in
set_option maxHeartbeats 4000000 in
theorem exactStartLines_walk (v : Value) (L : List AtD) (w : World) (h : RdG w v L) :
    Calls Try.prog 3 #[v] w fun e w' => e = .returned (.bool true) ∧ Below w.heap.size w w' := by
  have HS := Lib.hid h
  have HSP := Lib.hid fun W u h1 h2 h3 => specStartLines_any u L W h1 h2 h3
  have HIM := Lib.hid fun W u h1 h2 h3 => StartLines_any u L W h1 h2 h3
  have hMl := sl_len L
  obtain ⟨M, hM⟩ : ∃ M, slL L = M := ⟨_, rfl⟩
  obtain ⟨ok, hok⟩ : ∃ ok, spB L = ok := ⟨_, rfl⟩
  rw [hM, hok] at HSP HIM
  rw [hM] at hMl
  clear hM hok
  obtain ⟨N, hN⟩ : ∃ N : Int, 1 + ((M.length * 7 : Nat) : Int) = N := ⟨_, rfl⟩
  have hN0 : 0 ≤ N := by omega
  have hN1 : N ≤ 400 := by omega
  have HN := Lib.hid hN
  clear hN
  obtain ⟨sp, cap, rfl, _⟩ := h
  by_cases hsz : L.length ≤ 1048576
  · have HZ : Hid (szI L.length 1048576 = ((1048576 - L.length : Nat) : Int)) := szI_pos hsz
    obtain ⟨l, hl⟩ : ∃ l : Nat, 1048576 - L.length = l := ⟨_, rfl⟩
    rw [hl] at HZ
    have hl0 : ¬ (l : Int) < 0 := by omega
    obtain ⟨N2, hN2⟩ : ∃ N2 : Int, 1 + ((L.length * 7 : Nat) : Int) = N2 := ⟨_, rfl⟩
    have hN20 : ¬ N2 < 0 := by omega
    have HN2 := Lib.hid hN2
    have HSZ := Lib.hid hsz
    clear hl hsz hN2
    go_enter Try.func3, Try.ntmps3
    go_wp2_with fail
    refine (szAtomS_is _ _ _ HS.out).mono ?_
    rintro e w1 ⟨rfl, rfl⟩
    rw [HZ.out]
    go_wp2_with fail
    refine (toAtomS_own _ L w HSZ.out HS.out).mono ?_
    rintro e w2 ⟨s2, rfl, hs2, hb2, he2⟩
    have HE2 := Lib.hid (show ∃ b cap, s2 = .slice (some ⟨b, 0, none⟩) L.length cap from ⟨_, _, he2⟩)
    have HA2 := Lib.hid (ownA_reads hs2)
    subst he2
    clear hs2
    go_wp2_with fail
    refine (HSP.out w2 _ HA2.out HSZ.out HE2.out).mono ?_
    rintro e w3 ⟨v3, rfl, ho3, hb3⟩
    have hw3 := below_on hb2 hb3
    have HR3 := Lib.hid (ownA_reads ho3)
    clear ho3 hb2 hb3 HE2 HA2
    go_wp2_with fail
    refine (toAtomS_own _ L w3 HSZ.out (rdG_on HS.out hw3)).mono ?_
    rintro e w4 ⟨s4, rfl, hs4, hb4, he4⟩
    have HE4 := Lib.hid (show ∃ b cap, s4 = .slice (some ⟨b, 0, none⟩) L.length cap from ⟨_, _, he4⟩)
    have hob : s4.ownBlock = some w3.heap.size := by rw [he4]; rfl
    have HOB := Lib.hid hob
    have hlt4 : w3.heap.size < w4.heap.size := (World.ownsRow.lt hs4 w3.heap.size hob).2
    have HO4 := Lib.hid hs4
    clear hs4 hob
    subst he4
    go_wp2_with fail
    refine (HIM.out w4 _ (ownA_reads HO4.out) HSZ.out HE4.out).mono ?_
    rintro e w5 ⟨v5, rfl, ho5, hb5⟩
    have h35 := below_on hb4 hb5
    have hq5 : w4.heap.size ≤ w5.heap.size := hb5.size
    have HO45 := Lib.hid (show OwnA w5 w3.heap.size _ L from own_below HO4.out hb5)
    have HV5 := Lib.hid ho5
    clear ho5 hb4 hb5 HE4 HO4
    go_wp2_with fail
    refine (eqAtomS_same _ _ M _ (ownA_reads HV5.out) (readsA_on HR3.out h35) (by omega)).mono ?_
    rintro e w6 ⟨rfl, hb6⟩
    have h36 := below_on h35 hb6
    have hq6 : w4.heap.size ≤ w6.heap.size := Nat.le_trans hq5 hb6.size
    clear hq5
    have HO46 := Lib.hid (show OwnA w6 w3.heap.size _ L from own_below HO45.out hb6)
    have HV6 := Lib.hid (show OwnA w6 w4.heap.size v5 M from own_below HV5.out hb6)
    clear hb6 h35 HO45 HV5
    go_wp2_with fail
    refine (toAtomS_is _ L w6 HSZ.out (rdG_on HS.out (below_on hw3 h36))).mono ?_
    rintro e w7 ⟨s7, rfl, hs7, hb7⟩
    have h37 := below_on h36 hb7
    have hq7 : w4.heap.size ≤ w7.heap.size := Nat.le_trans hq6 hb7.size
    clear hq6
    have HO47 := Lib.hid (show OwnA w7 w3.heap.size _ L from own_below HO46.out hb7)
    have HV7 := Lib.hid (show OwnA w7 w4.heap.size v5 M from own_below HV6.out hb7)
    clear hb7 h36 HO46 HV6
    go_wp2_with fail
    refine (eqAtomS_big _ _ L _ (ownA_reads HO47.out) hs7 HSZ.out).mono ?_
    rintro e w8 ⟨rfl, hb8⟩
    have h38 := below_on h37 hb8
    have hq8 : w4.heap.size ≤ w8.heap.size := Nat.le_trans hq7 hb8.size
    clear hq7
    have HO48 := Lib.hid (show OwnA w8 w3.heap.size _ L from own_below HO47.out hb8)
    have HV8 := Lib.hid (show OwnA w8 w4.heap.size v5 M from own_below HV7.out hb8)
    clear hb8 h37 HO47 HV7 hs7
    go_wp2_with fail
    refine (markAtomS_k w3.heap.size _ 1 N2 L _ HO48.out h38.size HSZ.out (by omega) (by omega) HN2.out).mono ?_
    rintro e w9 ⟨rfl, _, hb9, hk9⟩
    have h39 := h38.trans hb9
    have hq9 : w4.heap.size ≤ w9.heap.size := Nat.le_trans hq8 hb9.size
    clear hq8
    have HV9 := Lib.hid (show OwnA w9 w4.heap.size v5 M from ownA_keep HV8.out (fun x hx => hk9 x (by rw [HOB.out]; intro e; injection e with e; omega)))
    clear hb9 hk9 h38 HO48 HV8
    go_wp2_with fail
    refine (eqAtomS_same _ _ M _ (ownA_reads HV9.out) (readsA_on HR3.out h39) (by omega)).mono ?_
    rintro e w10 ⟨rfl, hb10⟩
    have h310 := below_on h39 hb10
    have HV10 := Lib.hid (show OwnA w10 w4.heap.size v5 M from own_below HV9.out hb10)
    have hs410 : w4.heap.size ≤ w10.heap.size := Nat.le_trans hq9 hb10.size
    clear hq9
    clear hb10 h39 HV9
    go_wp2_with fail
    refine (markAtomS_t w4.heap.size _ 1 N M _ HV10.out hs410 (by omega) (by omega) (by omega) HN.out).mono ?_
    rintro e w11 ⟨rfl, ho11, hb11⟩
    have h311 := h310.trans (hb11.mono (by omega))
    have HV11 := Lib.hid ho11
    clear ho11 hb11 h310 HV10
    go_wp2_with fail
    refine (heldAtomS_t _ 1 N M.length _ (ownA_reads HV11.out) (by omega) (by omega) (by omega) HN.out).mono ?_
    rintro e w' ⟨rfl, rfl⟩
    go_wp2_with fail
    refine (toAtomS_own _ L w11 HSZ.out (rdG_on HS.out (below_on hw3 h311))).mono ?_
    rintro e w12 ⟨s12, rfl, hs12, hb12, he12⟩
    have HE12 := Lib.hid (show ∃ b cap, s12 = .slice (some ⟨b, 0, none⟩) L.length cap from ⟨_, _, he12⟩)
    have HA12 := Lib.hid (ownA_reads hs12)
    subst he12
    clear hs12
    go_wp2_with fail
    refine (HIM.out w12 _ HA12.out HSZ.out HE12.out).mono ?_
    rintro e w13 ⟨v13, rfl, ho13, hb13⟩
    have hb1113 := below_on hb12 hb13
    have h313 := below_on h311 hb1113
    have HV13 := Lib.hid (show OwnA w13 w4.heap.size v5 (marksA 1 M.length) from own_below HV11.out hb1113)
    have HR13 := Lib.hid (ownA_reads ho13)
    clear ho13 hb12 hb13 hb1113 HE12 HA12
    go_wp2_with fail
    refine (eqAtomS_same _ _ M _ HR13.out (readsA_on HR3.out h313) (by omega)).mono ?_
    rintro e w14 ⟨rfl, hb14⟩
    have h314 := below_on h313 hb14
    have HV14 := Lib.hid (show OwnA w14 w4.heap.size v5 (marksA 1 M.length) from own_below HV13.out hb14)
    clear hb14
    go_wp2_with fail
    refine (heldAtomS_t _ 1 N M.length _ (ownA_reads HV14.out) (by omega) (by omega) (by omega) HN.out).mono ?_
    rintro e w' ⟨rfl, rfl⟩
    go_wp2
    go_ret
    exact ⟨rfl, below_on hw3 h314⟩
  · have hz : szI L.length 1048576 = -1 := szI_neg (by omega)
    have HZ := Lib.hid hz
    clear hz
    go_enter Try.func3, Try.ntmps3
    go_wp2_with fail
    refine (szAtomS_is _ _ _ HS.out).mono ?_
    rintro e w1 ⟨rfl, rfl⟩
    rw [HZ.out]
    go_wp2
    go_ret
    exact ⟨rfl, Below.refl _ _⟩

end Go.Proofs.Ytaiajdeognnndaa
