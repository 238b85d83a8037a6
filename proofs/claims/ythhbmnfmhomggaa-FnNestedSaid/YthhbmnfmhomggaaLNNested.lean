/- The walk of the law on nested quantifiers. -/
import Derived.Test.YthhbmnfmhomggaaLNNodes
import Derived.Test.YthhbmnfmhomggaaFormM
namespace Go.Proofs.Ythhbmnfmhomggaa
open Go.RowKit

def NtR (f : Fo) (b o lo : Nat) (W : World) (x : Nat) (h : FH) (s most i : Value) (wr : World) : Prop :=
  ∃ (k m : Nat) (r : Fo), i = .int .i64 k ∧ most = .int .i64 m ∧ k + r.len = f.len ∧ r.okB = true ∧ r.size ≤ f.size ∧ m ≤ 600 ∧ max m r.nst = f.nst ∧ FEl W lo r b (o + k * 10) ∧ Below W.heap.size W wr ∧ C10 wr x h s

set_option maxRecDepth 10000 in
set_option maxHeartbeats 4000000 in
theorem nested_walk (sp : Option Addr) (n cap : Nat) (w : World) (hcode : Code w sp n cap) :
    Calls Try.prog 4 #[.slice sp n cap] w fun e w' => e = .returned (.bool true) ∧ Below w.heap.size w w' := by
  have hc1 := hcode.1
  have hc2 := hcode.2.1
  have H := Lib.hid hcode
  clear hcode
  by_cases hn : n ≤ 1048576
  · have hn' : ¬ (1048576 : Int) < (n : Int) := by omega
    go_enter Try.func4, Try.ntmps4
    go_wp2_with fail
    refine (DrawNestedCount_t sp n cap w H.out).mono ?_
    rintro e w1 ⟨h, f, s, rfl, hs, hb1⟩
    have HS := Lib.hid hs
    obtain ⟨sa, sn, sc, rfl⟩ := hs.slice
    clear hs
    go_wp2_with fail
    generalize hW : World.alloc _ _ = W
    have hx : C10 W w1.heap.size h (.slice sa sn sc) := by subst hW; exact (by refine ⟨?_, ?_, ?_, ?_, ?_, ?_, ?_, ?_, ?_, ?_, ?_⟩ <;> first | (simp [go_sem]; done) | (simp; omega))
    have hbW : Below w1.heap.size w1 W := by subst hW; go_grown
    have hw0 := below_on hb1 hbW
    have HSW := Lib.hid (FS.below hbW (Nat.le_refl _) HS.out)
    have HF := Lib.hid (fun V (hV : Below W.heap.size W V) => FS.below hV (Nat.le_refl _) HSW.out)
    clear hW hb1 hbW
    refine (NestedCount_any h f W _ _ HSW.out).mono ?_
    rintro e w2 ⟨rfl, hb2⟩
    obtain ⟨x0, c0, c1, c2, c3, c4, c5, c6, c7, c8, c9⟩ := c10_on hx hb2
    have HC := Lib.hid (fun V hV => specNestedCount_any h f V _ _ (HF.out V hV))
    cases hv : vfB h f with
    | false =>
      have hI : ncI h f = -1 := by unfold ncI; rw [if_neg (by rw [hv]; simp)]
      rw [hI] at HC ⊢
      clear hI hv
      go_wp2_with fail
      refine (HC.out _ hb2).mono ?_
      rintro e w3 ⟨rfl, hb3⟩
      have hb3 := below_on hb2 hb3
      obtain ⟨x0, c0, c1, c2, c3, c4, c5, c6, c7, c8, c9⟩ := c10_on hx hb3
      go_wp2_with fail
      refine (HC.out _ hb3).mono ?_
      rintro e w4 ⟨rfl, hb4⟩
      have hb4 := below_on hb3 hb4
      go_wp2
      go_ret
      exact ⟨rfl, below_on hw0 hb4⟩
    | true =>
      obtain ⟨hown, hok, h6⟩ := vf_parts hv
      obtain ⟨q, hq⟩ : ∃ q : Nat, f.nst + qN h = q := ⟨_, rfl⟩
      have hI : ncI h f = (q : Int) := by unfold ncI; rw [if_pos hv, hq]
      have HO := Lib.hid (fun V hV => IsOpen_any h f V _ _ (HF.out V hV))
      have hop : opB h f = decide (q = 0) := by unfold opB; rw [hv, hq]; rfl
      rw [hI] at HC ⊢
      rw [hop] at HO
      have HQ := Lib.hid hq
      have HOK := Lib.hid hok
      have hnl := nst_le f
      have hq0 : (0 : Int) ≤ (q : Int) := by omega
      have hkq : ((h.k == 6) = true ∧ qN h = 1) ∨ ((h.k == 6) = false ∧ (h.k == 7) = true ∧ qN h = 1) ∨ ((h.k == 6) = false ∧ (h.k == 7) = false ∧ qN h = 0) := by
        unfold qN qB
        by_cases h6 : h.k = 6
        · exact .inl ⟨by simpa using h6, by rw [if_pos (by simp [h6])]⟩
        · by_cases h7 : h.k = 7
          · exact .inr (.inl ⟨by simpa using h6, by simpa using h7, by rw [if_pos (by simp [h7])]⟩)
          · exact .inr (.inr ⟨by simpa using h6, by simpa using h7, by rw [if_neg (by simp [h6, h7])]⟩)
      have HKQ := Lib.hid hkq
      clear hI hv hown hok hop hq hkq
      go_wp2_with fail
      refine (HC.out _ hb2).mono ?_
      rintro e w3 ⟨rfl, hb3⟩
      have hb3 := below_on hb2 hb3
      have hx4 := c10_on hx hb3
      clear x0 c0 c1 c2 c3 c4 c5 c6 c7 c8 c9
      obtain ⟨x0, c0, c1, c2, c3, c4, c5, c6, c7, c8, c9⟩ := id hx4
      go_wp2_with fail
      rcases HSW.out with ⟨h0, y, cp, e, _, _⟩ | ⟨h0, b, o, cp, e, hcp1, hcp2, hlo, hb, hel⟩
      · obtain rfl : f = .nil := Fo.len_zero h0
        injection e with e1 e2 e3
        subst e1 e2 e3
        have hm : (0 : Nat) = Fo.nil.nst := rfl
        have HB := Lib.hid hb3
        have HM := Lib.hid hm
        clear hm
        refine wp_loop_rounds 1 ?_
        rw [rounds_succ]
        rcases HKQ.out with ⟨hk6, hq1⟩ | ⟨hk6, hk7, hq1⟩ | ⟨hk6, hk7, hq1⟩
        · skip
          have hqm : q = 0 + 1 := by have h1 := HQ.out; have h2 := HM.out; omega
          subst hqm
          have hz : decide (0 + 1 = 0) = false := by simp
          rw [hz] at HO
          go_wp2_with fail
          refine (HO.out _ HB.out).mono ?_
          rintro e w5 ⟨rfl, hb5⟩
          go_wp2
          go_ret
          exact ⟨by simp <;> omega, below_on hw0 (below_on HB.out hb5)⟩
        · skip
          have hqm : q = 0 + 1 := by have h1 := HQ.out; have h2 := HM.out; omega
          subst hqm
          have hz : decide (0 + 1 = 0) = false := by simp
          rw [hz] at HO
          go_wp2_with fail
          refine (HO.out _ HB.out).mono ?_
          rintro e w5 ⟨rfl, hb5⟩
          go_wp2
          go_ret
          exact ⟨by simp <;> omega, below_on hw0 (below_on HB.out hb5)⟩
        · skip
          have hqm : 0 = q := by have h1 := HQ.out; have h2 := HM.out; omega
          subst hqm
          have hz : decide (0 = 0) = true := rfl
          rw [hz] at HO
          go_wp2_with fail
          refine (HO.out _ HB.out).mono ?_
          rintro e w5 ⟨rfl, hb5⟩
          go_wp2
          go_ret
          exact ⟨by simp, below_on hw0 (below_on HB.out hb5)⟩
      · injection e with e1 e2 e3
        subst e1 e2 e3
        have HST := Lib.hid (show NtR f b o w.heap.size W w1.heap.size h (.slice (some ⟨b, o, none⟩) f.len sc) (.int .i64 0) (.int .i64 0) w3 from ⟨0, 0, f, rfl, rfl, by omega, HOK.out, Nat.le_refl _, by omega, by omega, by simpa using hel, hb3, hx4⟩)
        unfold maxLen at hcp2
        clear hel hx4 x0 c0 c1 c2 c3 c4 c5 c6 c7 c8 c9 hb3 hb2
        go_loopw [5, 6] (fun most i wr => NtR f b o w.heap.size W w1.heap.size h (.slice (some ⟨b, o, none⟩) f.len sc) most i wr) (fun _ i _ => f.len - (intOf i).toNat)
        case atStart => exact HST.out
        case round =>
          obtain ⟨k, m, r, rfl, rfl, hk, hrok, hdr, hm6, hmx, hr, hbw, hx2⟩ := hrel
          clear HST
          have hm60 : (m : Int) ≤ 600 := by omega
          have hm0 : (0 : Int) ≤ (m : Int) := by omega
          obtain ⟨x0, c0, c1, c2, c3, c4, c5, c6, c7, c8, c9⟩ := id hx2
          cases r with
          | nil =>
            simp only [Fo.len] at hk
            have hkl : ¬ k < f.len := by omega
            have hm : m = f.nst := by simp only [Fo.nst] at hmx; omega
            have HB := Lib.hid hbw
            have HM := Lib.hid hm
            clear hbw hm hmx
            rcases HKQ.out with ⟨hk6, hq1⟩ | ⟨hk6, hk7, hq1⟩ | ⟨hk6, hk7, hq1⟩
            · skip
              have hqm : q = m + 1 := by have h1 := HQ.out; have h2 := HM.out; omega
              subst hqm
              have hz : decide (m + 1 = 0) = false := by simp
              rw [hz] at HO
              go_wp2_with fail
              refine (HO.out _ HB.out).mono ?_
              rintro e w5 ⟨rfl, hb5⟩
              go_wp2
              go_ret
              exact ⟨by simp <;> omega, below_on hw0 (below_on HB.out hb5)⟩
            · skip
              have hqm : q = m + 1 := by have h1 := HQ.out; have h2 := HM.out; omega
              subst hqm
              have hz : decide (m + 1 = 0) = false := by simp
              rw [hz] at HO
              go_wp2_with fail
              refine (HO.out _ HB.out).mono ?_
              rintro e w5 ⟨rfl, hb5⟩
              go_wp2
              go_ret
              exact ⟨by simp <;> omega, below_on hw0 (below_on HB.out hb5)⟩
            · skip
              have hqm : m = q := by have h1 := HQ.out; have h2 := HM.out; omega
              subst hqm
              by_cases hz0 : m = 0
              · have hz : decide (m = 0) = true := decide_eq_true hz0
                rw [hz] at HO
                go_wp2_with fail
                refine (HO.out _ HB.out).mono ?_
                rintro e w5 ⟨rfl, hb5⟩
                go_wp2
                go_ret
                exact ⟨by simp, below_on hw0 (below_on HB.out hb5)⟩
              · have hz : decide (m = 0) = false := decide_eq_false hz0
                rw [hz] at HO
                go_wp2_with fail
                refine (HO.out _ HB.out).mono ?_
                rintro e w5 ⟨rfl, hb5⟩
                go_wp2
                go_ret
                exact ⟨by simp [hz0], below_on hw0 (below_on HB.out hb5)⟩
          | cons h' s' r' =>
            simp only [Fo.len] at hk
            simp only [Fo.size] at hdr
            have hkl : k < f.len := by omega
            have hz' : s'.size + 1 ≤ 600 := by omega
            obtain ⟨hv', hok'⟩ := sub_valid hrok hz'
            have HR := Lib.hid hr.2
            have HK := Lib.hid hok'
            obtain ⟨⟨sl, hrow, hsl⟩, _⟩ := FEl.below hbw (Nat.le_refl _) hlo hb hr
            clear hr
            obtain ⟨q', hq'⟩ : ∃ q' : Nat, s'.nst + qN h' = q' := ⟨_, rfl⟩
            have hI' : ncI h' s' = (q' : Int) := by unfold ncI; rw [if_pos hv', hq']
            have HC' := Lib.hid (NestedCount_any h' s' wr w.heap.size sl hsl)
            rw [hI'] at HC'
            have hnl' := nst_le s'
            have hql' := qN_le h'
            have hq0' : (0 : Int) ≤ (q' : Int) := by omega
            have hq60 : (q' : Int) ≤ 600 := by omega
            have hmx' : max (max m q') r'.nst = f.nst := by simp only [Fo.nst] at hmx; omega
            have HMX := Lib.hid hmx'
            have HB := Lib.hid hbw
            have HX := Lib.hid hx2
            obtain ⟨d0, d1, d2, d3, d4, d5, d6, d7, d8, d9⟩ := hrow
            clear hsl hbw hx2 hI' hv' hok' hrok hmx hmx' hq'
            go_wp2_with fail
            refine HC'.out.mono ?_
            rintro e w5 ⟨rfl, hb5⟩
            have HB5 := Lib.hid (below_on HB.out hb5)
            have HX5 := Lib.hid (c10_on HX.out hb5)
            clear x0 c0 c1 c2 c3 c4 c5 c6 c7 c8 c9 d0 d1 d2 d3 d4 d5 d6 d7 d8 d9 hb5
            go_wp2
            all_goals
              go_roundw
              case rel => exact ⟨k + 1, max m q', r', by go_num, by first | (congr 1; omega) | rfl, by omega, HK.out, by omega, by omega, HMX.out, by rw [show o + (k + 1) * 10 = o + k * 10 + 10 by omega]; exact HR.out, HB5.out, HX5.out⟩
              case measure => simp [intOf]; omega
  · have hn' : (1048576 : Int) < (n : Int) := by omega
    go_enter Try.func4, Try.ntmps4
    go_wp2
    go_ret
    exact ⟨rfl, Below.refl _ _⟩

end Go.Proofs.Ythhbmnfmhomggaa
