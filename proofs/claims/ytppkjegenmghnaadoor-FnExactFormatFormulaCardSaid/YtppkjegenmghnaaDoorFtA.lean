/- The text of a formula, the model. -/
import Derived.Test.YtppkjegenmghnaaDoorFtM
import Derived.Test.YtppkjegenmghnaaDoorFormI
namespace Go.Proofs.YtppkjegenmghnaaDoor
open Go.RowKit

theorem l3Word_any (k : Nat) (hk : k ≤ 7) (w : World) : Calls Tryd.prog 55 #[.int .i64 (k : Int)] w fun e w' => e = .returned (.string (bs (wdT k))) ∧ Below w.heap.size w w' := by
  have hk' : k = 0 ∨ k = 1 ∨ k = 2 ∨ k = 3 ∨ k = 4 ∨ k = 5 ∨ k = 6 ∨ k = 7 := by omega
  rcases hk' with rfl | rfl | rfl | rfl | rfl | rfl | rfl | rfl
  all_goals
    go_enter Tryd.func55, Tryd.ntmps55
    go_wp2
    go_ret
    exact ⟨rfl, by go_grown⟩

def TxT (h : FH) (f : Fo) (w : World) (e : Ending) (w' : World) : Prop := e = .returned (.string (bs (txF h f))) ∧ Below w.heap.size w w'
def L3T (h : FH) (f : Fo) : Prop := ∀ (w : World) (lo : Nat) (s : Value), f.size ≤ 1000 → ownB h f.len = true → f.okB = true → FS w lo f s → Calls Tryd.prog 35 #[.agg #[.int .i64 h.k, .int .i64 h.ak, .int .i64 h.am, .int .i64 h.a, .int .i64 h.b, .int .i64 h.c, .int .i64 h.d, .int .i64 h.n, .int .i64 h.v, s]] w (TxT h f w)

def L3TR (h : FH) (f : Fo) (b o lo : Nat) (w : World) (s out i : Value) (wr : World) : Prop :=
  ∃ (k : Nat) (r : Fo) (done : List UInt8), i = .int .i64 k ∧ out = .string (bs done) ∧ k + r.len = f.len ∧ r.size ≤ f.size ∧ r.okB = true ∧ done ++ r.txs = txF h f ∧ FEl w lo r b (o + k * 10) ∧ Below w.heap.size w wr ∧ C10 wr w.heap.size h s

set_option maxRecDepth 10000 in
set_option maxHeartbeats 2000000 in
theorem l3t_of {h : FH} {f : Fo} (HF : ∀ h s, s.size < f.size → L3T h s) : L3T h f := by
  intro w lo s hz ho hok hs
  have H := Lib.hid HF
  have HS := Lib.hid hs
  clear HF
  obtain ⟨sa, sn, sc, rfl⟩ := hs.slice
  clear hs
  have hlen := txF_len h f
  have h32 : ({ data := #[32] } : ByteArray) = bs [32] := rfl
  have happ := bs_app
  have hsz := bs_size
  by_cases hk : h.k = 2
  · have hk2 : (h.k == 2) = true := by simpa using hk
    have hnil : f = .nil := by
      have := own_kind ho
      exact Fo.len_zero (by omega)
    subst hnil
    have HA := Lib.hid (show txF h .nil = taL h.ak h.am h.a h.b h.c h.d h.n by unfold txF owT; rw [if_pos hk]; simp [Fo.txs])
    have HT := Lib.hid fun W => specFormatAtom_any h.ak h.am h.a h.b h.c h.d h.n W
    clear hk hsz happ hlen
    go_enter Tryd.func35, Tryd.ntmps35
    go_wp2_with fail
    generalize hW : World.alloc _ _ = W
    have hx : C10 W w.heap.size h (.slice sa sn sc) := by subst hW; exact (by refine ⟨?_, ?_, ?_, ?_, ?_, ?_, ?_, ?_, ?_, ?_, ?_⟩ <;> first | (simp [go_sem]; done) | (simp; omega))
    have hw : Below w.heap.size w W := by subst hW; go_grown
    clear hW
    obtain ⟨x0, c0, c1, c2, c3, c4, c5, c6, c7, c8, c9⟩ := id hx
    go_wp2_with fail
    refine (HT.out _).mono ?_
    rintro e w1 ⟨rfl, hb1⟩
    have hw1 := below_on hw hb1
    go_wp2
    go_ret
    exact ⟨by rw [HA.out]; rfl, hw1⟩
  · have hk2 : (h.k == 2) = false := by simpa using hk
    have hkk := own_kind ho
    obtain ⟨q, hq⟩ : ∃ q : Nat, h.k = (q : Int) := ⟨h.k.toNat, by omega⟩
    have hq7 : q ≤ 7 := by omega
    have HWd := Lib.hid (fun W => show Calls Tryd.prog 55 #[.int .i64 h.k] W (fun e w' => e = .returned (.string (bs (wdT h.k))) ∧ Below W.heap.size W w') from by rw [hq]; exact l3Word_any q hq7 W)
    have hw5 := wd_len h.k
    obtain ⟨D, hD⟩ : ∃ D, wdT h.k = D := ⟨_, rfl⟩
    rw [hD] at HWd hw5
    have HOK := Lib.hid hok
    have HHo := Lib.hid ho
    clear hkk hq hq7 hok ho
    cases hqb : qB h.k with
    | false =>
      have HQ := Lib.hid (fun W => l3Quant_is h.k false W hqb)
      obtain ⟨O, hO⟩ : ∃ O, owT h = O := ⟨_, rfl⟩
      have HO := Lib.hid hO
      have HOD : Hid (O = D) := by
        have h67 : ¬ (h.k = 6 ∨ h.k = 7) := by simpa [qB] using hqb
        rw [← hO, ← hD]; unfold owT; rw [if_neg hk, if_neg h67]; exact rfl
      clear hk hqb hO hD
      go_enter Tryd.func35, Tryd.ntmps35
      go_wp2_with fail
      generalize hW : World.alloc _ _ = W
      have hx : C10 W w.heap.size h (.slice sa sn sc) := by subst hW; exact (by refine ⟨?_, ?_, ?_, ?_, ?_, ?_, ?_, ?_, ?_, ?_, ?_⟩ <;> first | (simp [go_sem]; done) | (simp; omega))
      have hw : Below w.heap.size w W := by subst hW; go_grown
      clear hW
      obtain ⟨x0, c0, c1, c2, c3, c4, c5, c6, c7, c8, c9⟩ := id hx
      go_wp2_with fail
      refine (HWd.out _).mono ?_
      rintro e w1 ⟨rfl, hb1⟩
      have hw1 := below_on hw hb1
      have hx1 := c10_on hx hb1
      clear x0 c0 c1 c2 c3 c4 c5 c6 c7 c8 c9 hw hx hb1
      obtain ⟨x0, c0, c1, c2, c3, c4, c5, c6, c7, c8, c9⟩ := id hx1
      go_wp2_with fail
      refine (HQ.out _).mono ?_
      rintro e w' ⟨rfl, rfl⟩
      have hw := hw1
      have hx := hx1
      clear hw1 hx1 x0 c0 c1 c2 c3 c4 c5 c6 c7 c8 c9
      obtain rfl := HOD.out
      go_wp2_with fail
      rcases HS.out with ⟨h0, x, cap0, e, _, _⟩ | ⟨h0, b, o, cap0, e, hc1, hc2, hlo, hb, hel⟩
      · obtain rfl : f = .nil := Fo.len_zero h0
        injection e with e1 e2 e3
        subst e1 e2 e3
        obtain ⟨x0, c0, c1, c2, c3, c4, c5, c6, c7, c8, c9⟩ := id hx
        have HE := Lib.hid (show txF h .nil = O by rw [← HO.out]; simp [txF, Fo.txs])
        clear h0
        refine wp_loop_rounds 1 ?_
        rw [rounds_succ]
        go_wp2
        go_ret
        exact ⟨by rw [HE.out]; rfl, hw⟩
      · injection e with e1 e2 e3
        subst e1 e2 e3
        have HST := Lib.hid (show L3TR h f b o lo w (.slice (some ⟨b, o, none⟩) f.len sc) (.string (bs O)) (.int .i64 0) w1 from ⟨0, f, O, rfl, rfl, by omega, Nat.le_refl _, HOK.out, by rw [← HO.out]; rfl, by simpa using hel, hw, hx⟩)
        unfold maxLen at hc2
        clear hel hx hw HS
        go_loopw [3, 4] (fun out i wr => L3TR h f b o lo w (.slice (some ⟨b, o, none⟩) f.len sc) out i wr) (fun _ i _ => f.len - (intOf i).toNat)
        case atStart => exact HST.out
        case round =>
          obtain ⟨k, r, done, rfl, rfl, hk, hdr, hrok, hdone, hr, hbw, hx2⟩ := hrel
          have HD := Lib.hid hdone
          have hdl : done.length ≤ 150000 := by have := txF_len h f; rw [← hdone, List.length_append] at this; omega
          clear hdone HST
          obtain ⟨x0, c0, c1, c2, c3, c4, c5, c6, c7, c8, c9⟩ := id hx2
          cases r with
          | nil =>
            simp only [Fo.len] at hk
            have hkl : ¬ k < f.len := by omega
            have HE := Lib.hid (show txF h f = done by have := HD.out; simpa [Fo.txs] using this.symm)
            go_wp2
            go_ret
            exact ⟨by rw [HE.out]; rfl, hbw⟩
          | cons h' s' r' =>
            simp only [Fo.len] at hk
            simp only [Fo.size] at hdr
            simp only [Fo.okB, Bool.and_eq_true] at hrok
            have hkl : k < f.len := by omega
            have HR := Lib.hid hr.2
            have HRO := Lib.hid hrok.2
            obtain ⟨⟨sl, hrow, hsl⟩, _⟩ := FEl.below hbw (Nat.le_refl _) hlo hb hr
            clear hr
            have HC := Lib.hid (H.out h' s' (by omega) wr lo sl (by omega) hrok.1.1 hrok.1.2 hsl)
            have hTl := txF_len h' s'
            obtain ⟨T, hT⟩ : ∃ T, txF h' s' = T := ⟨_, rfl⟩
            have HD2 := Lib.hid (show (done ++ [32] ++ T) ++ r'.txs = txF h f by rw [← HD.out, ← hT]; simp [Fo.txs, txF])
            unfold TxT at HC
            rw [hT] at HC hTl
            have HB := Lib.hid hbw
            have HX := Lib.hid hx2
            have hz1 := bs_size done
            have hz2 := bs_size [32]
            have hz3 := bs_size (done ++ [32])
            have hz4 := bs_size T
            have hz5 : (done ++ [32]).length = done.length + 1 := by simp
            have hz6 : ¬ 9223372036854775807 < done.length + [(32 : UInt8)].length := by simp; omega
            have hz7 : ¬ 9223372036854775807 < (done ++ [32]).length + T.length := by rw [hz5]; omega
            obtain ⟨d0, d1, d2, d3, d4, d5, d6, d7, d8, d9⟩ := hrow
            clear hsl hbw hx2 hT hrok
            go_wp2_with fail
            refine HC.out.mono ?_
            rintro e w2 ⟨rfl, hb2⟩
            have HB2 := Lib.hid (below_on HB.out hb2)
            have HX2 := Lib.hid (c10_on HX.out hb2)
            clear c0 c1 c2 c3 c4 c5 c6 c7 c8 c9 d0 d1 d2 d3 d4 d5 d6 d7 d8 d9 hb2
            go_wp2
            go_roundw
            case rel => exact ⟨k + 1, r', done ++ [32] ++ T, by go_num, by simp, by omega, by omega, HRO.out, HD2.out, by rw [show o + (k + 1) * 10 = o + k * 10 + 10 by omega]; exact HR.out, HB2.out, HX2.out⟩
            case measure => simp [intOf]; omega
    | true =>
      have HQ := Lib.hid (fun W => l3Quant_is h.k true W hqb)
      obtain ⟨u, hu, hu3⟩ : ∃ u : Nat, h.v = (u : Int) ∧ u ≤ 3 := by
        have hv : varB h.v = true := by
          have := HHo.out
          unfold ownB at this
          simp only [hqb, Bool.and_eq_true, if_true] at this
          exact this.1.2
        simp [varB] at hv
        exact ⟨h.v.toNat, by omega, by omega⟩
      have HL := Lib.hid (fun W => show Calls Tryd.prog 57 #[.int .i64 h.v] W (fun e w' => e = .returned (.string (bs [UInt8.ofNat (97 + u)])) ∧ W = w') from by rw [hu]; exact l1Letter_any u W hu3)
      obtain ⟨c, hc⟩ : ∃ c, UInt8.ofNat (97 + u) = c := ⟨_, rfl⟩
      rw [hc] at HL
      obtain ⟨O, hO⟩ : ∃ O, owT h = O := ⟨_, rfl⟩
      have HO := Lib.hid hO
      have HOD : Hid (O = D ++ [32, c]) := by
        have h67 : h.k = 6 ∨ h.k = 7 := by simpa [qB] using hqb
        rw [← hO, ← hD]; unfold owT; rw [if_neg hk, if_pos h67, hu, Int.toNat_natCast, hc]; exact Lib.hid (by simp)
      have hz1 := bs_size D
      have hz2 := bs_size [32]
      have hz3 := bs_size (D ++ [32])
      have hz4 := bs_size [c]
      have hz6 : ¬ 9223372036854775807 < D.length + [(32 : UInt8)].length := by simp; omega
      have hz7 : ¬ 9223372036854775807 < (D ++ [32]).length + [c].length := by simp; omega
      clear hk hqb hO hD hu hu3 hc
      go_enter Tryd.func35, Tryd.ntmps35
      go_wp2_with fail
      generalize hW : World.alloc _ _ = W
      have hx : C10 W w.heap.size h (.slice sa sn sc) := by subst hW; exact (by refine ⟨?_, ?_, ?_, ?_, ?_, ?_, ?_, ?_, ?_, ?_, ?_⟩ <;> first | (simp [go_sem]; done) | (simp; omega))
      have hw : Below w.heap.size w W := by subst hW; go_grown
      clear hW
      obtain ⟨x0, c0, c1, c2, c3, c4, c5, c6, c7, c8, c9⟩ := id hx
      go_wp2_with fail
      refine (HWd.out _).mono ?_
      rintro e w1 ⟨rfl, hb1⟩
      have hw1 := below_on hw hb1
      have hx1 := c10_on hx hb1
      clear x0 c0 c1 c2 c3 c4 c5 c6 c7 c8 c9 hw hx hb1
      obtain ⟨x0, c0, c1, c2, c3, c4, c5, c6, c7, c8, c9⟩ := id hx1
      go_wp2_with fail
      refine (HQ.out _).mono ?_
      rintro e w2 ⟨rfl, rfl⟩
      go_wp2_with fail
      refine (HL.out _).mono ?_
      rintro e w' ⟨rfl, rfl⟩
      have hw := hw1
      have hx := hx1
      clear hw1 hx1 x0 c0 c1 c2 c3 c4 c5 c6 c7 c8 c9
      go_wp2_with fail
      obtain ⟨E, hE⟩ : ∃ E, D ++ [32, c] = E := ⟨_, rfl⟩
      rw [hE] at HOD
      obtain rfl := HOD.out
      rw [hE]
      clear hE
      rcases HS.out with ⟨h0, x, cap0, e, _, _⟩ | ⟨h0, b, o, cap0, e, hc1, hc2, hlo, hb, hel⟩
      · obtain rfl : f = .nil := Fo.len_zero h0
        injection e with e1 e2 e3
        subst e1 e2 e3
        obtain ⟨x0, c0, c1, c2, c3, c4, c5, c6, c7, c8, c9⟩ := id hx
        have HE := Lib.hid (show txF h .nil = O by rw [← HO.out]; simp [txF, Fo.txs])
        clear h0
        refine wp_loop_rounds 1 ?_
        rw [rounds_succ]
        go_wp2
        go_ret
        exact ⟨by rw [HE.out]; rfl, hw⟩
      · injection e with e1 e2 e3
        subst e1 e2 e3
        have HST := Lib.hid (show L3TR h f b o lo w (.slice (some ⟨b, o, none⟩) f.len sc) (.string (bs O)) (.int .i64 0) w1 from ⟨0, f, O, rfl, rfl, by omega, Nat.le_refl _, HOK.out, by rw [← HO.out]; rfl, by simpa using hel, hw, hx⟩)
        unfold maxLen at hc2
        clear hel hx hw HS
        go_loopw [3, 4] (fun out i wr => L3TR h f b o lo w (.slice (some ⟨b, o, none⟩) f.len sc) out i wr) (fun _ i _ => f.len - (intOf i).toNat)
        case atStart => exact HST.out
        case round =>
          obtain ⟨k, r, done, rfl, rfl, hk, hdr, hrok, hdone, hr, hbw, hx2⟩ := hrel
          have HD := Lib.hid hdone
          have hdl : done.length ≤ 150000 := by have := txF_len h f; rw [← hdone, List.length_append] at this; omega
          clear hdone HST
          obtain ⟨x0, c0, c1, c2, c3, c4, c5, c6, c7, c8, c9⟩ := id hx2
          cases r with
          | nil =>
            simp only [Fo.len] at hk
            have hkl : ¬ k < f.len := by omega
            have HE := Lib.hid (show txF h f = done by have := HD.out; simpa [Fo.txs] using this.symm)
            go_wp2
            go_ret
            exact ⟨by rw [HE.out]; rfl, hbw⟩
          | cons h' s' r' =>
            simp only [Fo.len] at hk
            simp only [Fo.size] at hdr
            simp only [Fo.okB, Bool.and_eq_true] at hrok
            have hkl : k < f.len := by omega
            have HR := Lib.hid hr.2
            have HRO := Lib.hid hrok.2
            obtain ⟨⟨sl, hrow, hsl⟩, _⟩ := FEl.below hbw (Nat.le_refl _) hlo hb hr
            clear hr
            have HC := Lib.hid (H.out h' s' (by omega) wr lo sl (by omega) hrok.1.1 hrok.1.2 hsl)
            have hTl := txF_len h' s'
            obtain ⟨T, hT⟩ : ∃ T, txF h' s' = T := ⟨_, rfl⟩
            have HD2 := Lib.hid (show (done ++ [32] ++ T) ++ r'.txs = txF h f by rw [← HD.out, ← hT]; simp [Fo.txs, txF])
            unfold TxT at HC
            rw [hT] at HC hTl
            have HB := Lib.hid hbw
            have HX := Lib.hid hx2
            have hz1 := bs_size done
            have hz2 := bs_size [32]
            have hz3 := bs_size (done ++ [32])
            have hz4 := bs_size T
            have hz5 : (done ++ [32]).length = done.length + 1 := by simp
            have hz6 : ¬ 9223372036854775807 < done.length + [(32 : UInt8)].length := by simp; omega
            have hz7 : ¬ 9223372036854775807 < (done ++ [32]).length + T.length := by rw [hz5]; omega
            obtain ⟨d0, d1, d2, d3, d4, d5, d6, d7, d8, d9⟩ := hrow
            clear hsl hbw hx2 hT hrok
            go_wp2_with fail
            refine HC.out.mono ?_
            rintro e w2 ⟨rfl, hb2⟩
            have HB2 := Lib.hid (below_on HB.out hb2)
            have HX2 := Lib.hid (c10_on HX.out hb2)
            clear c0 c1 c2 c3 c4 c5 c6 c7 c8 c9 d0 d1 d2 d3 d4 d5 d6 d7 d8 d9 hb2
            go_wp2
            go_roundw
            case rel => exact ⟨k + 1, r', done ++ [32] ++ T, by go_num, by simp, by omega, by omega, HRO.out, HD2.out, by rw [show o + (k + 1) * 10 = o + k * 10 + 10 by omega]; exact HR.out, HB2.out, HX2.out⟩
            case measure => simp [intOf]; omega

theorem l3t_any (h : FH) (f : Fo) : L3T h f := by
  have key : ∀ N (h : FH) (f : Fo), f.size ≤ N → L3T h f := by
    intro N
    induction N with
    | zero => intro h f hf; exact l3t_of fun h s hs => absurd hs (by omega)
    | succ N ih => intro h f hf; exact l3t_of fun h s hs => ih h s (by omega)
  exact key f.size h f (Nat.le_refl _)

set_option maxHeartbeats 1000000 in
theorem specFormatFormula_any (h : FH) (f : Fo) (w : World) (lo : Nat) (s : Value) (hs : FS w lo f s) :
    Calls Tryd.prog 18 #[.agg #[.int .i64 h.k, .int .i64 h.ak, .int .i64 h.am, .int .i64 h.a, .int .i64 h.b, .int .i64 h.c, .int .i64 h.d, .int .i64 h.n, .int .i64 h.v, s]] w fun e w' => e = .returned (.string (bs (fmT h f))) ∧ Below w.heap.size w w' := by
  have HC := Lib.hid (fun W hW => specFormulaValid_any h f W lo s (FS.below (w := w) hW (Nat.le_refl _) hs))
  have HN := Lib.hid (fun W hz h1 h2 hW => l3t_any h f W lo s hz h1 h2 (FS.below (w := w) hW (Nat.le_refl _) hs))
  obtain ⟨sa, sn, sc, rfl⟩ := hs.slice
  clear hs
  cases hv : vfB h f with
  | true =>
    obtain ⟨h1, h2, h3⟩ := vf_parts hv
    have HI := Lib.hid (show fmT h f = txF h f by unfold fmT; rw [if_pos hv])
    have H1 := Lib.hid h1
    have H2 := Lib.hid h2
    have hz : f.size ≤ 1000 := by omega
    rw [hv] at HC
    clear hv h1 h2 h3
    go_enter Tryd.func18, Tryd.ntmps18
    go_wp2_with fail
    generalize hW : World.alloc _ _ = W
    have hx : C10 W w.heap.size h (.slice sa sn sc) := by subst hW; exact (by refine ⟨?_, ?_, ?_, ?_, ?_, ?_, ?_, ?_, ?_, ?_, ?_⟩ <;> first | (simp [go_sem]; done) | (simp; omega))
    have hw : Below w.heap.size w W := by subst hW; go_grown
    clear hW
    refine (HC.out _ hw).mono ?_
    rintro e w1 ⟨rfl, hb1⟩
    have hw1 := below_on hw hb1
    obtain ⟨x0, c0, c1, c2, c3, c4, c5, c6, c7, c8, c9⟩ := c10_on hx hb1
    go_wp2_with fail
    refine (HN.out _ hz H1.out H2.out hw1).mono ?_
    rintro e w2 ⟨rfl, hb2⟩
    go_wp2
    go_ret
    exact ⟨by rw [HI.out]; rfl, below_on hw1 hb2⟩
  | false =>
    have HI := Lib.hid (show fmT h f = [] by unfold fmT; rw [if_neg (by rw [hv]; simp)])
    rw [hv] at HC
    clear hv
    go_enter Tryd.func18, Tryd.ntmps18
    go_wp2_with fail
    generalize hW : World.alloc _ _ = W
    have hw : Below w.heap.size w W := by subst hW; go_grown
    clear hW
    refine (HC.out _ hw).mono ?_
    rintro e w1 ⟨rfl, hb1⟩
    have hw1 := below_on hw hb1
    go_wp2
    go_ret
    exact ⟨by rw [HI.out]; rfl, hw1⟩

end Go.Proofs.YtppkjegenmghnaaDoor
