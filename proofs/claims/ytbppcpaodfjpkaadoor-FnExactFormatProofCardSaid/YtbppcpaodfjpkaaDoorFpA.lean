/- FormatProof of the program. -/
import Derived.Test.YtbppcpaodfjpkaaDoorFpM
import Derived.Test.YtbppcpaodfjpkaaDoorSvA
import Derived.Test.YtbppcpaodfjpkaaDoorJnT
namespace Go.Proofs.YtbppcpaodfjpkaaDoor
open Go.RowKit

theorem rt_strP {a b : List UInt8} (h : a = b) : Ending.returned (.string (bs a)) = .returned (.string (bs b)) := by rw [h]
def StxR (x : SpD) (n : Nat) (w W : World) (v i : Value) (wr : World) : Prop :=
  ∃ k : Nat, i = .int .i64 k ∧ k ≤ n ∧ OwnT wr W.heap.size v ((prL x).take k) ∧ Below w.heap.size w wr ∧ Below W.heap.size W wr

set_option maxRecDepth 10000 in
set_option maxHeartbeats 2000000 in
theorem stepText_any (s t : Value) (x : SpD) (w : World) (hs : RdJ w s x.f) (ht : RdJ w t x.t) (hx : okS x) (htb : Tab w) :
    Calls Tryd.prog 42 #[.agg #[s, t]] w fun e w' => e = .returned (.string (bs (stT x))) ∧ Below w.heap.size w w' := by
  obtain ⟨i0, hi, hz0, hz1, hz2⟩ := info_parts Tryd.infoStr
  have HX := Lib.hid hx
  have HTB := Lib.hid htb
  have happ := bs_app
  have hsz := bs_size
  have hl0 := bs_list
  have h120 : ({ data := #[120] } : ByteArray) = bs [120] := rfl
  have h43 : ({ data := #[43] } : ByteArray) = bs [43] := rfl
  obtain ⟨N, hN⟩ : ∃ N, x.f.length = N := ⟨_, rfl⟩
  have HN := Lib.hid hN
  have HM := Lib.hid (show x.t.length = N by rw [← hx.2.1, hN])
  have hN3 : N ≤ 300 := by have := hx.2.2.1; omega
  have hN0 : N ≠ 0 := fun e => hx.1 (List.length_eq_zero_iff.1 (hN.trans e))
  have HJ := Lib.hid (fun (W1 W : World) v (hv : OwnT W W1.heap.size v (prL x)) => join_is v W1.heap.size (prL x) [43] W hv (prL_ne hx) (by rw [prL_len hx.2.1]; omega) (by have := stT_len hx; unfold stT at this; omega))
  obtain ⟨sp, cap, rfl, _, hcm, hsl⟩ := hs
  obtain ⟨tp, caq, rfl, _, _, htl⟩ := ht
  unfold maxLen at hcm
  obtain ⟨b, o, rfl, hb, hc⟩ := hsl.resolve_left (by rw [HN.out]; exact hN0)
  obtain ⟨b', o', rfl, hb', hc'⟩ := htl.resolve_left (by rw [HM.out]; exact hN0)
  have HC := Lib.hid hc
  have HC' := Lib.hid hc'
  rw [hN, HM.out]
  clear hsl htl hc hc' hN hx htb
  go_enter Tryd.func42, Tryd.ntmps42
  go_wp2_with fail
  generalize hW : World.alloc _ _ = W
  have hw : Below w.heap.size w W := by subst hW; go_grown
  have hx0 : W.cell? ⟨w.heap.size, 0, none⟩ = some (.slice (some ⟨b, o, none⟩) N cap) := by subst hW; simp [go_sem]
  have hx1 : W.cell? ⟨w.heap.size, 1, none⟩ = some (.slice (some ⟨b', o', none⟩) N caq) := by subst hW; simp [go_sem]
  have hsW : w.heap.size < W.heap.size := by subst hW; simp
  have HST := Lib.hid (show StxR x N w W (.slice none 0 0) (.int .i64 0) W from ⟨0, rfl, Nat.zero_le _, ⟨rfl, .inl ⟨rfl, rfl⟩⟩, hw, Below.refl _ _⟩)
  clear hW hw
  go_wp2
  go_loopw [3, 9] (fun v i wr => StxR x N w W v i wr) (fun _ i _ => N - (intOf i).toNat)
  case atStart => exact HST.out
  case round =>
    obtain ⟨k, rfl, hk, hown, hbw, hbW⟩ := hrel
    clear HST
    have HB := Lib.hid hbw
    have HB1 := Lib.hid hbW
    have HO := Lib.hid hown
    clear hown
    by_cases hlt : k < N
    · have hk' : (k : Int) < (N : Int) := by omega
      obtain ⟨n, hn⟩ : ∃ n, x.f[k]? = some n := ⟨_, List.getElem?_eq_getElem (by rw [HN.out]; exact hlt)⟩
      obtain ⟨u, hu⟩ : ∃ u, x.t[k]? = some u := ⟨_, List.getElem?_eq_getElem (by rw [HM.out]; exact hlt)⟩
      have y1 : wr.cell? ⟨w.heap.size, 1, none⟩ = _ := (hbW.cell (p := ⟨w.heap.size, 1, none⟩) hsW).trans hx1
      have c0 : wr.cell? ⟨b, o + k, none⟩ = some (.int .i64 n) := (hbw.cell (p := ⟨b, o + k, none⟩) hb).trans (HC.out k n hn)
      have c1 : wr.cell? ⟨b', o' + k, none⟩ = some (.int .i64 u) := (hbw.cell (p := ⟨b', o' + k, none⟩) hb').trans (HC'.out k u hu)
      obtain ⟨n0, n1, u0, u1⟩ := HX.out.2.2.2 k n u hn hu
      have HTK := Lib.hid (show (prL x).take (k + 1) = (prL x).take k ++ [prT n u] from take_snocP (prL_at hn hu))
      have hl1 := Lib.itoa_length_le n (by omega) (by omega)
      have hl2 := Lib.itoa_length_le u (by omega) (by omega)
      have HI1 := Lib.hid fun W hW => itoa_is u W hW (by omega) (by omega)
      have HI2 := Lib.hid fun W hW => itoa_is n W hW (by omega) (by omega)
      have HPR := Lib.hid (show Lib.itoa u ++ 120 :: Lib.itoa n = prT n u by simp [prT])
      obtain ⟨A, hA⟩ : ∃ A, Lib.itoa u = A := ⟨_, rfl⟩
      obtain ⟨C, hC⟩ : ∃ C, Lib.itoa n = C := ⟨_, rfl⟩
      rw [hA] at hl2 HI1 HPR
      rw [hC] at hl1 HI2 HPR
      obtain ⟨T, hT⟩ : ∃ T, prT n u = T := ⟨_, rfl⟩
      rw [hT] at HPR HTK
      obtain ⟨P, hP⟩ : ∃ P, (prL x).take k = P := ⟨_, rfl⟩
      have hPl : P.length ≤ 1000 := by rw [← hP, List.length_take]; omega
      rw [hP] at HTK HO
      clear hn hu hA hC hT hP hbw hbW
      go_wp2_with fail
      refine (HI1.out _ (tab_on HTB.out HB.out)).mono ?_
      rintro e w2 ⟨rfl, hb2⟩
      have HB2 := Lib.hid (below_on HB.out hb2)
      have HB12 := Lib.hid (below_on HB1.out hb2)
      have HO2 := Lib.hid (own_below HO.out hb2)
      clear hb2 c0 c1 y1
      go_wp2_with fail
      refine (HI2.out _ (tab_on HTB.out HB2.out)).mono ?_
      rintro e w3 ⟨rfl, hb3⟩
      have HB3 := Lib.hid (below_on HB2.out hb3)
      have HB13 := Lib.hid (below_on HB12.out hb3)
      have hown3 := own_below HO2.out hb3
      have hs3 : W.heap.size ≤ w3.heap.size := HB13.out.size
      clear hb3
      go_wp2_with (at_builtin; refine wpList_append_own _ rfl _ _ 66 rfl W.heap.size 9 i0 (.string ⟨#[]⟩) 1 16 Tryd.underlying66 hi hz0 hz1 hz2 rfl (by decide) _ _ _ rfl (hown3.alloc _) ⟨w3.heap.size, 0, none⟩ 1 1 [.string (bs (A ++ 120 :: C))] rfl rfl ?c1 ?c2 ?c3 ?c4 ?c5 ?_)
      case c1 =>
        intro j u hj
        match j, hj with
        | 0, hj => simp at hj; subst hj; simp [Addr.add]
      case c2 => intro u hu; simp at hu; subst hu; rfl
      case c3 => unfold maxLen; omega
      case c4 => omega
      case c5 => simp; omega
      · intro v' w4 hown4 hgrow hnone
        have hbA : Below w3.heap.size w3 (w3.alloc (.cells #[.string (bs (A ++ 120 :: C))] 9)) := by go_grown
        have hownA := own_below hown3 hbA
        have hlow : Below W.heap.size w3 w4 := (hbA.mono hs3).trans (grown_lowT hownA (Nat.le_refl _) (by have := hbA.size; omega) hgrow)
        have HN4 : Hid (OwnT w4 W.heap.size v' (P ++ [T])) := by
          show w4.ownsRow _ _ _ _ _ _
          rw [← HPR.out]
          simpa [stV] using hown4
        have HB4 := Lib.hid (HB3.out.trans (hlow.mono (Nat.le_of_lt hsW)))
        have HB14 := Lib.hid (HB13.out.trans hlow)
        clear hown3 hown4 hgrow hbA hownA hlow hnone
        go_wp2
        go_roundw
        case rel => exact ⟨k + 1, by go_num, by omega, by rw [HTK.out]; exact HN4.out, HB4.out, HB14.out⟩
        case measure => simp [intOf]; omega
    · have hk' : ¬ (k : Int) < (N : Int) := by omega
      obtain rfl : k = N := by omega
      have HOE := Lib.hid (show OwnT wr W.heap.size _ (prL x) by
        have := HO.out
        rwa [List.take_of_length_le (by rw [prL_len HX.out.2.1, HN.out]; exact Nat.le_refl _)] at this)
      clear hbW
      go_wp2_with fail
      refine (HJ.out W _ _ HOE.out).mono ?_
      rintro e w3 ⟨rfl, hb3⟩
      go_wp2
      go_ret
      exact ⟨rfl, below_on hbw hb3⟩

def FpR (LL : List SpD) (n : Nat) (w : World) (v i : Value) (wr : World) : Prop :=
  ∃ k : Nat, i = .int .i64 k ∧ k ≤ n ∧ OwnT wr w.heap.size v ((LL.take k).map stT) ∧ Below w.heap.size w wr ∧ pvL (44 + (k : Int)) (LL.drop k) = pvL 44 LL

set_option maxRecDepth 10000 in
set_option maxHeartbeats 2000000 in
theorem FormatProof_any (u : Value) (LL : List SpD) (w : World) (h : RdSS w u LL) (hz : spS LL ≤ 1048576) (ht : Tab w) :
    Calls Tryd.prog 19 #[u] w fun e w' => e = .returned (.string (bs (fpT LL))) ∧ Below w.heap.size w w' := by
  have HT := Lib.hid ht
  have hb0 : ({ data := #[] } : ByteArray) = bs [] := rfl
  have h45 : ({ data := #[45] } : ByteArray) = bs [45] := rfl
  have h32 : ({ data := #[32] } : ByteArray) = bs [32] := rfl
  obtain ⟨i0, hi, hz0, hz1, hz2⟩ := info_parts Tryd.infoStr
  obtain ⟨sp, cap, rfl, hc⟩ := h
  obtain ⟨n, hn⟩ : ∃ n, LL.length = n := ⟨_, rfl⟩
  have HN := Lib.hid hn
  have HC := Lib.hid hc
  have hL : n ≤ 1048576 := by rw [← hn]; unfold spS at hz; omega
  have HZ := Lib.hid (show smS LL ≤ 1048576 by unfold spS at hz; omega)
  rw [hn]
  clear hc ht hz
  by_cases h2 : n ≤ 200
  · by_cases h0 : n = 0
    · have hl0 : LL = [] := List.length_eq_zero_iff.1 (hn.trans h0)
      have HF := Lib.hid (fp_nil (show pfB LL = true by rw [hl0]; rfl) hl0)
      subst h0
      clear hn
      go_enter Tryd.func19, Tryd.ntmps19
      go_wp2
      go_ret
      exact ⟨rt_strP HF.out.symm, Below.refl _ _⟩
    · have hne : LL ≠ [] := fun e => h0 (by rw [← hn, e]; rfl)
      have HNE := Lib.hid hne
      have hq : ((n : Int) == 0) = false := by rw [beq_eq_false_iff_ne]; omega
      have HST := Lib.hid (show FpR LL n w (.slice none 0 0) (.int .i64 0) w from ⟨0, rfl, Nat.zero_le _, ⟨rfl, .inl ⟨rfl, rfl⟩⟩, Below.refl _ _, rfl⟩)
      have HP := Lib.hid (show pfB LL = pvL 44 LL by unfold pfB; rw [hn, decide_eq_true h2, Bool.true_and])
      clear hn hne
      go_enter Tryd.func19, Tryd.ntmps19
      go_wp2
      go_loopw [3, 14] (fun v i wr => FpR LL n w v i wr) (fun _ i _ => n - (intOf i).toNat)
      case atStart => exact HST.out
      case round =>
        obtain ⟨k, rfl, hk, hown, hbw, hpv⟩ := hrel
        clear HST
        have HB := Lib.hid hbw
        have HO := Lib.hid hown
        have HV := Lib.hid hpv
        clear hpv hown
        by_cases hlt : k < n
        · have hk' : (k : Int) < (n : Int) := by omega
          obtain ⟨x, hx⟩ : ∃ x, LL[k]? = some x := ⟨_, List.getElem?_eq_getElem (by rw [HN.out]; exact hlt)⟩
          obtain ⟨b, rfl, hbl, hcell⟩ := HC.out.resolve_left (by rw [HN.out]; omega)
          obtain ⟨s, t, c0, c1, r0, r1⟩ := srowb_on (hcell k x hx) hbl hbw
          have HR := Lib.hid r0.rd
          have HR' := Lib.hid r1.rd
          have HXL := Lib.hid (Nat.le_trans (smS_at hx) HZ.out)
          have HTK := Lib.hid (show (LL.take (k + 1)).map stT = (LL.take k).map stT ++ [stT x] by rw [take_snocP hx, List.map_append]; rfl)
          have HVA := Lib.hid ((pvL_at (k := 44 + (k : Int)) hx).symm.trans HV.out)
          obtain ⟨a1, n1, q1, rfl⟩ := r0.slice
          obtain ⟨a2, n2, q2, rfl⟩ := r1.slice
          obtain ⟨P, hP⟩ : ∃ P, (LL.take k).map stT = P := ⟨_, rfl⟩
          have hPl : P.length ≤ 1000 := by rw [← hP]; simp; omega
          rw [hP] at HTK HO
          have hw44 : IntKind.i64.wrap (44 + (k : Int)) = 44 + (k : Int) := by rw [IntKind.wrap_i64]; omega
          clear hcell hbw hP r0 r1
          go_wp2_with fail
          generalize hW : World.alloc _ _ = W
          have hw : Below wr.heap.size wr W := by subst hW; go_grown
          have hx0 : W.cell? ⟨wr.heap.size, 0, none⟩ = some (.slice a1 n1 q1) := by subst hW; simp [go_sem]
          have hx1 : W.cell? ⟨wr.heap.size, 1, none⟩ = some (.slice a2 n2 q2) := by subst hW; simp [go_sem]
          have hsW : wr.heap.size < W.heap.size := by subst hW; simp
          clear hW c0 c1
          refine (StepValid_any _ _ x.f x.t (44 + (k : Int)) W (rdJ_on HR.out hw) (rdJ_on HR'.out hw) (by omega) (by have := HXL.out; omega)).mono ?_
          rintro e w2 ⟨rfl, hb2⟩
          have hw2 := below_on hw hb2
          have y0 : w2.cell? ⟨wr.heap.size, 0, none⟩ = _ := (hb2.cell (p := ⟨wr.heap.size, 0, none⟩) hsW).trans hx0
          have y1 : w2.cell? ⟨wr.heap.size, 1, none⟩ = _ := (hb2.cell (p := ⟨wr.heap.size, 1, none⟩) hsW).trans hx1
          have HB2 := Lib.hid (below_on HB.out hw2)
          clear hb2 hx0 hx1 hw
          cases hsv : svB x.f x.t (44 + (k : Int)) with
          | false =>
            have HF := Lib.hid (fp_off (show pfB LL = false by rw [HP.out, ← HVA.out, hsv]; rfl))
            clear hsv hx
            go_wp2
            go_ret
            exact ⟨rt_strP HF.out.symm, HB2.out⟩
          | true =>
            have HK := Lib.hid (okS_of hsv (by omega))
            have HVN := Lib.hid (show pvL (44 + ((k + 1 : Nat) : Int)) (LL.drop (k + 1)) = pvL 44 LL by rw [← HVA.out, hsv, Bool.true_and]; rw [show 44 + ((k + 1 : Nat) : Int) = 44 + (k : Int) + 1 by omega])
            have HO2 := Lib.hid (own_below HO.out hw2)
            have HR2 := Lib.hid (rdJ_on HR.out hw2)
            have HR2' := Lib.hid (rdJ_on HR'.out hw2)
            obtain ⟨T, hT⟩ : ∃ T, stT x = T := ⟨_, rfl⟩
            have HTT := Lib.hid hT
            rw [hT] at HTK
            clear hsv hx hT hw2
            go_wp2_with fail
            refine (stepText_any _ _ x w2 HR2.out HR2'.out HK.out (tab_on HT.out HB2.out)).mono ?_
            rw [HTT.out]
            rintro e w3 ⟨rfl, hb3⟩
            have hown3 := own_below HO2.out hb3
            have HB3 := Lib.hid (below_on HB2.out hb3)
            have hs3 : w.heap.size ≤ w3.heap.size := HB3.out.size
            clear y0 y1 hb3
            go_wp2_with (at_builtin; refine wpList_append_own _ rfl _ _ 66 rfl w.heap.size 9 i0 (.string ⟨#[]⟩) 1 16 Tryd.underlying66 hi hz0 hz1 hz2 rfl (by decide) _ _ _ rfl (hown3.alloc _) ⟨w3.heap.size, 0, none⟩ 1 1 [.string (bs T)] rfl rfl ?c1 ?c2 ?c3 ?c4 ?c5 ?_)
            case c1 =>
              intro j u hj
              match j, hj with
              | 0, hj => simp at hj; subst hj; simp [Addr.add]
            case c2 => intro u hu; simp at hu; subst hu; rfl
            case c3 => unfold maxLen; omega
            case c4 => omega
            case c5 => simp; omega
            · intro v' w4 hown4 hgrow hnone
              have hbA : Below w3.heap.size w3 (w3.alloc (.cells #[.string (bs T)] 9)) := by go_grown
              have hownA := own_below hown3 hbA
              have hlow : Below w.heap.size w3 w4 := (hbA.mono hs3).trans (grown_lowT hownA (Nat.le_refl _) (by have := hbA.size; omega) hgrow)
              have HN4 : Hid (OwnT w4 w.heap.size v' (P ++ [T])) := by
                show w4.ownsRow _ _ _ _ _ _
                simpa [stV] using hown4
              have HB4 := Lib.hid (HB3.out.trans hlow)
              clear hown3 hown4 hgrow hbA hownA hlow hnone
              go_wp2
              go_roundw
              case rel => exact ⟨k + 1, by go_num, by omega, by rw [HTK.out]; exact HN4.out, HB4.out, HVN.out⟩
              case measure => simp [intOf]; omega
        · have hk' : ¬ (k : Int) < (n : Int) := by omega
          obtain rfl : k = n := by omega
          have hpf : pfB LL = true := by rw [HP.out, ← HV.out]; exact pvL_end (by rw [HN.out]; exact Nat.le_refl _)
          obtain ⟨_, hok⟩ := pv_parts hpf
          have HF := Lib.hid (fp_on hpf HNE.out)
          have HOE := Lib.hid (show OwnT wr w.heap.size _ (LL.map stT) by
            have := HO.out
            rwa [List.take_of_length_le (by rw [HN.out]; exact Nat.le_refl _)] at this)
          have HJ := Lib.hid (join_is _ w.heap.size (LL.map stT) [32] wr HOE.out (fun e => HNE.out (List.map_eq_nil_iff.1 e)) (by rw [List.length_map, HN.out]; omega) (by have := jpT_len hok; unfold jpT at this; rw [HN.out] at this; omega))
          clear hpf hok
          go_wp2_with fail
          refine HJ.out.mono ?_
          rintro e w3 ⟨rfl, hb3⟩
          go_wp2
          go_ret
          exact ⟨rt_strP HF.out.symm, below_on hbw hb3⟩
  · have HF := Lib.hid (fp_off (show pfB LL = false by unfold pfB; rw [hn, decide_eq_false h2]; rfl))
    have h2' : (200 : Int) < (n : Int) := by omega
    clear hn
    go_enter Tryd.func19, Tryd.ntmps19
    go_wp2
    go_ret
    exact ⟨rt_strP HF.out.symm, Below.refl _ _⟩

end Go.Proofs.YtbppcpaodfjpkaaDoor
