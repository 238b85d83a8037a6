/- The walk of the law on the nodes of a formula. -/
import Derived.Test.YthhbmnfmhomggaaDrK
import Derived.Test.YthhbmnfmhomggaaFormS
import Derived.Test.YthhbmnfmhomggaaFormI
namespace Go.Proofs.Ythhbmnfmhomggaa
open Go.RowKit

theorem atL_le (h : FH) (f : Fo) : (atL h f).length ≤ f.size + 1 := by
  unfold atL
  split
  · exact atF_len h f
  · simp

theorem sub_valid {h' : FH} {s' r' : Fo} (hok : (Fo.cons h' s' r').okB = true) (hz : s'.size + 1 ≤ 600) : vfB h' s' = true ∧ r'.okB = true := by
  simp only [Fo.okB, Bool.and_eq_true] at hok
  exact ⟨by unfold vfB; simp [hok.1.1, hok.1.2, hz], hok.2⟩

def NsR (f : Fo) (b o lo : Nat) (W : World) (x : Nat) (h : FH) (s sum i : Value) (wr : World) : Prop :=
  ∃ (k m : Nat) (r : Fo), i = .int .i64 k ∧ sum = .int .i64 m ∧ k + r.len = f.len ∧ r.okB = true ∧ r.size ≤ f.size ∧ m + r.size = 1 + f.size ∧ FEl W lo r b (o + k * 10) ∧ Below W.heap.size W wr ∧ C10 wr x h s

set_option maxRecDepth 10000 in
set_option maxHeartbeats 4000000 in
theorem nodes_walk (sp : Option Addr) (n cap : Nat) (w : World) (hcode : Code w sp n cap) :
    Calls Try.prog 3 #[.slice sp n cap] w fun e w' => e = .returned (.bool true) ∧ Below w.heap.size w w' := by
  have hc1 := hcode.1
  have hc2 := hcode.2.1
  have H := Lib.hid hcode
  clear hcode
  by_cases hn : n ≤ 1048576
  · have hn' : ¬ (1048576 : Int) < (n : Int) := by omega
    go_enter Try.func3, Try.ntmps3
    go_wp2_with fail
    refine (DrawNodeCount_t sp n cap w H.out).mono ?_
    rintro e w1 ⟨h, f, s, rfl, hs, hb1⟩
    have HS := Lib.hid hs
    obtain ⟨sa, sn, sc, rfl⟩ := hs.slice
    clear hs
    go_wp2_with fail
    generalize hW : World.alloc _ _ = W
    have hx : C10 W w1.heap.size h (.slice sa sn sc) := by subst hW; exact (by refine ⟨?_, ?_, ?_, ?_, ?_, ?_, ?_, ?_, ?_, ?_, ?_⟩ <;> first | (simp [go_sem]; done) | (simp; omega))
    have hbW : Below w1.heap.size w1 W := by subst hW; go_grown
    have hw0 := below_on hb1 hbW
    have HSW := Lib.hid (FS.below hbW (Nat.le_refl _) HS.out)
    have HF := Lib.hid (fun V (hV : Below W.heap.size W V) => FS.below hV (Nat.le_refl _) HSW.out)
    clear hW hb1 hbW
    refine (NodeCount_any h f W _ _ HSW.out).mono ?_
    rintro e w2 ⟨rfl, hb2⟩
    obtain ⟨x0, c0, c1, c2, c3, c4, c5, c6, c7, c8, c9⟩ := c10_on hx hb2
    cases hv : vfB h f with
    | false =>
      have hI : nnI h f = -1 := by unfold nnI; rw [if_neg (by rw [hv]; simp)]
      have HC := Lib.hid (fun V hV => specNodeCount_any h f V _ _ (HF.out V hV))
      have HV := Lib.hid (fun V hV => FormulaValid_any h f V _ _ (HF.out V hV))
      rw [hI] at HC ⊢
      rw [hv] at HV
      clear hI hv
      go_wp2_with fail
      refine (HC.out _ hb2).mono ?_
      rintro e w3 ⟨rfl, hb3⟩
      have hb3 := below_on hb2 hb3
      obtain ⟨x0, c0, c1, c2, c3, c4, c5, c6, c7, c8, c9⟩ := c10_on hx hb3
      go_wp2_with fail
      refine (HV.out _ hb3).mono ?_
      rintro e w4 ⟨rfl, hb4⟩
      have hb4 := below_on hb3 hb4
      obtain ⟨x0, c0, c1, c2, c3, c4, c5, c6, c7, c8, c9⟩ := c10_on hx hb4
      go_wp2_with fail
      refine (HC.out _ hb4).mono ?_
      rintro e w5 ⟨rfl, hb5⟩
      have hb5 := below_on hb4 hb5
      obtain ⟨x0, c0, c1, c2, c3, c4, c5, c6, c7, c8, c9⟩ := c10_on hx hb5
      go_wp2_with fail
      refine (HV.out _ hb5).mono ?_
      rintro e w6 ⟨rfl, hb6⟩
      have hb6 := below_on hb5 hb6
      go_wp2
      go_ret
      exact ⟨rfl, below_on hw0 hb6⟩
    | true =>
      obtain ⟨hown, hok, h6⟩ := vf_parts hv
      obtain ⟨q, hq⟩ : ∃ q : Nat, f.size + 1 = q := ⟨_, rfl⟩
      have hI : nnI h f = (q : Int) := by unfold nnI; rw [if_pos hv]; omega
      have HC := Lib.hid (fun V hV => specNodeCount_any h f V _ _ (HF.out V hV))
      have HV := Lib.hid (fun V hV => FormulaValid_any h f V _ _ (HF.out V hV))
      have HA := Lib.hid (fun V hV => AtomsOf_any h f V _ _ (HF.out V hV))
      have hal := atL_le h f
      rw [hI] at HC ⊢
      rw [hv] at HV
      have HQ := Lib.hid hq
      have HOK := Lib.hid hok
      have hq1 : (1 : Int) ≤ (q : Int) := by omega
      have hq6 : (q : Int) ≤ 600 := by omega
      clear hI hv hown hok
      go_wp2_with fail
      refine (HC.out _ hb2).mono ?_
      rintro e w3 ⟨rfl, hb3⟩
      have hb3 := below_on hb2 hb3
      obtain ⟨x0, c0, c1, c2, c3, c4, c5, c6, c7, c8, c9⟩ := c10_on hx hb3
      go_wp2_with fail
      refine (HV.out _ hb3).mono ?_
      rintro e w4 ⟨rfl, hb4⟩
      have hb4 := below_on hb3 hb4
      have hx4 := c10_on hx hb4
      clear x0 c0 c1 c2 c3 c4 c5 c6 c7 c8 c9
      obtain ⟨x0, c0, c1, c2, c3, c4, c5, c6, c7, c8, c9⟩ := id hx4
      go_wp2_with fail
      obtain ⟨L, hL⟩ : ∃ L, (atL h f) = L := ⟨_, rfl⟩
      rw [hL] at HA hal
      rcases HSW.out with ⟨h0, y, cp, e, _, _⟩ | ⟨h0, b, o, cp, e, hcp1, hcp2, hlo, hb, hel⟩
      · obtain rfl : f = .nil := Fo.len_zero h0
        injection e with e1 e2 e3
        subst e1 e2 e3
        have hq1 : q = 1 := HQ.out.symm
        subst hq1
        refine wp_loop_rounds 1 ?_
        rw [rounds_succ]
        go_wp2_with fail
        refine (HA.out _ hb4).mono ?_
        rintro e w5 ⟨v5, rfl, ho5, hb5⟩
        obtain ⟨sp5, cap5, rfl, _⟩ := ownA_reads ho5
        have hl1 : (L.length : Int) ≤ 1 := by simp only [Fo.size] at hal; omega
        clear ho5
        go_wp2
        go_ret
        exact ⟨rfl, below_on hw0 (below_on hb4 hb5)⟩
      · injection e with e1 e2 e3
        subst e1 e2 e3
        have HST := Lib.hid (show NsR f b o w.heap.size W w1.heap.size h (.slice (some ⟨b, o, none⟩) f.len sc) (.int .i64 1) (.int .i64 0) w4 from ⟨0, 1, f, rfl, rfl, by omega, HOK.out, Nat.le_refl _, by omega, by simpa using hel, hb4, hx4⟩)
        unfold maxLen at hcp2
        clear hel hx4 x0 c0 c1 c2 c3 c4 c5 c6 c7 c8 c9 hb4 hb3 hb2
        go_loopw [5, 6] (fun sum i wr => NsR f b o w.heap.size W w1.heap.size h (.slice (some ⟨b, o, none⟩) f.len sc) sum i wr) (fun _ i _ => f.len - (intOf i).toNat)
        case atStart => exact HST.out
        case round =>
          obtain ⟨k, m, r, rfl, rfl, hk, hrok, hdr, hm, hr, hbw, hx2⟩ := hrel
          clear HST
          have hm6 : (m : Int) ≤ 600 := by have := HQ.out; omega
          have hm0 : (0 : Int) ≤ (m : Int) := by omega
          obtain ⟨x0, c0, c1, c2, c3, c4, c5, c6, c7, c8, c9⟩ := id hx2
          cases r with
          | nil =>
            simp only [Fo.len, Fo.size] at hk hm
            have hkl : ¬ k < f.len := by omega
            obtain rfl : m = q := by have := HQ.out; omega
            have HB := Lib.hid hbw
            have hl1 : (L.length : Int) ≤ (m : Int) := by have := HQ.out; omega
            go_wp2_with fail
            refine (HA.out _ HB.out).mono ?_
            rintro e w5 ⟨v5, rfl, ho5, hb5⟩
            obtain ⟨sp5, cap5, rfl, _⟩ := ownA_reads ho5
            clear ho5
            go_wp2
            go_ret
            exact ⟨rfl, below_on hw0 (below_on HB.out hb5)⟩
          | cons h' s' r' =>
            simp only [Fo.len] at hk
            simp only [Fo.size] at hdr hm
            have hkl : k < f.len := by omega
            have hz' : s'.size + 1 ≤ 600 := by omega
            obtain ⟨hv', hok'⟩ := sub_valid hrok hz'
            have HR := Lib.hid hr.2
            have HK := Lib.hid hok'
            obtain ⟨⟨sl, hrow, hsl⟩, _⟩ := FEl.below hbw (Nat.le_refl _) hlo hb hr
            clear hr
            obtain ⟨q', hq'⟩ : ∃ q' : Nat, s'.size + 1 = q' := ⟨_, rfl⟩
            have hI' : nnI h' s' = (q' : Int) := by unfold nnI; rw [if_pos hv']; omega
            have HC' := Lib.hid (NodeCount_any h' s' wr w.heap.size sl hsl)
            rw [hI'] at HC'
            have hq0 : (0 : Int) ≤ (q' : Int) := by omega
            have hq60 : (q' : Int) ≤ 600 := by omega
            have HB := Lib.hid hbw
            have HX := Lib.hid hx2
            obtain ⟨d0, d1, d2, d3, d4, d5, d6, d7, d8, d9⟩ := hrow
            clear hsl hbw hx2 hI' hv' hok' hrok
            go_wp2_with fail
            refine HC'.out.mono ?_
            rintro e w5 ⟨rfl, hb5⟩
            have HB5 := Lib.hid (below_on HB.out hb5)
            have HX5 := Lib.hid (c10_on HX.out hb5)
            clear x0 c0 c1 c2 c3 c4 c5 c6 c7 c8 c9 d0 d1 d2 d3 d4 d5 d6 d7 d8 d9 hb5
            go_wp2
            go_roundw
            case rel => exact ⟨k + 1, m + q', r', by go_num, by first | rfl | (congr 1; omega), by omega, HK.out, by omega, by omega, by rw [show o + (k + 1) * 10 = o + k * 10 + 10 by omega]; exact HR.out, HB5.out, HX5.out⟩
            case measure => simp [intOf]; omega
  · have hn' : (1048576 : Int) < (n : Int) := by omega
    go_enter Try.func3, Try.ntmps3
    go_wp2
    go_ret
    exact ⟨rfl, Below.refl _ _⟩

end Go.Proofs.Ythhbmnfmhomggaa
