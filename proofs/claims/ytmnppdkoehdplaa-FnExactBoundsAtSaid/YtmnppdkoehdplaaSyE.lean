/- BoundsAt of the model. -/
import Derived.Test.YtmnppdkoehdplaaSyD
namespace Go.Proofs.Ytmnppdkoehdplaa
open Go.RowKit

theorem keepRp {W w' : World} {b o B : Nat} {t : AtD} {x y z u : Int} (hb : b < W.heap.size) (hr : ARow W b o t) (hp : C4 W B x y z u) (hB : Below W.heap.size W w') :
    Below W.heap.size W w' ∧ (w'.cell? ⟨b, o + 2, none⟩ = some (.int .i64 t.a) ∧ w'.cell? ⟨b, o + 3, none⟩ = some (.int .i64 t.b) ∧ w'.cell? ⟨b, o + 4, none⟩ = some (.int .i64 t.c) ∧ w'.cell? ⟨b, o + 5, none⟩ = some (.int .i64 t.d) ∧ w'.cell? ⟨b, o + 6, none⟩ = some (.int .i64 t.n)) ∧ (w'.cell? ⟨B, 0, none⟩ = some (.int .i64 x) ∧ w'.cell? ⟨B, 1, none⟩ = some (.int .i64 y) ∧ w'.cell? ⟨B, 2, none⟩ = some (.int .i64 z) ∧ w'.cell? ⟨B, 3, none⟩ = some (.int .i64 u)) := by
  have f : ∀ o, w'.cell? ⟨b, o, none⟩ = W.cell? ⟨b, o, none⟩ := fun o => (bcell hB).1 b o hb
  obtain ⟨c0, c1, c2, c3, c4, c5, c6⟩ := hr
  exact ⟨hB, ⟨(f _).trans c2, (f _).trans c3, (f _).trans c4, (f _).trans c5, (f _).trans c6⟩, (c4_on hp hB).2⟩

theorem specPV_b (a b c d : Int) (t : Bool) (w : World) (h : pvB a b c d = t) :
    Calls Try.prog 21 #[.agg #[.int .i64 a, .int .i64 b, .int .i64 c, .int .i64 d]] w fun e w' => e = .returned (.bool t) ∧ Below w.heap.size w w' :=
  (specPointValid_is a b c d t w h).mono fun _ _ ⟨he, hw⟩ => ⟨he, by subst hw; go_grown⟩

def BsR (v x y z u : Int) (L : List AtD) (n B : Nat) (w : World) (i a g : Value) (wr : World) : Prop :=
  ∃ k : Nat, i = .int .i64 k ∧ k ≤ n ∧ a = .int .i64 (loF ((L.take k).map (prS v x y z u))) ∧ g = .int .i64 (hM (hiF ((L.take k).map (prS v x y z u)))) ∧ bdF ((L.take k).map (prS v x y z u)) = false ∧ 0 ≤ hiF ((L.take k).map (prS v x y z u)) ∧ C4 wr B x y z u ∧ Below w.heap.size w wr

set_option maxRecDepth 100000 in
set_option maxHeartbeats 4000000 in
theorem specBoundsAt_any (s : Value) (v x y z u : Int) (L : List AtD) (w : World) (h : RdA w s L) (hL : L.length ≤ 1048576) :
    Calls Try.prog 11 #[s, .int .i64 v, .agg #[.int .i64 x, .int .i64 y, .int .i64 z, .int .i64 u]] w fun e w' => e = .returned (BT (bdT v x y z u L)) ∧ Below w.heap.size w w' := by
  have HM := Lib.hid (fun W hW => l9Most_any s v L W (readsA_on h hW) hL)
  obtain ⟨sp, cap, rfl, hc⟩ := h
  obtain ⟨n, hn⟩ : ∃ n, L.length = n := ⟨_, rfl⟩
  have HN := Lib.hid hn
  have HC := Lib.hid hc
  rw [hn] at hL HM ⊢
  clear hn hc
  cases hm : (spB L && varB v) with
  | false =>
    have HF := Lib.hid (show bdT v x y z u L = ((0, 0), false) from by unfold bdT; rw [hm]; rfl)
    rw [hm] at HM
    clear hm
    go_enter Try.func11, Try.ntmps11
    go_wp2_with fail
    generalize hW : World.alloc _ _ = W
    have hw : Below w.heap.size w W := by subst hW; go_grown
    clear hW
    refine (HM.out _ hw).mono ?_
    rintro e w1 ⟨rfl, hb1⟩
    go_wp2
    go_returns
    exact ⟨bt_ret HF.out.symm, below_on hw hb1⟩
  | true =>
    cases hp : pvB x y z u with
    | false =>
      have HF := Lib.hid (show bdT v x y z u L = ((0, 0), false) from by unfold bdT; rw [hm, hp]; rfl)
      have HP := Lib.hid (fun W => specPV_b x y z u false W hp)
      rw [hm] at HM
      clear hm hp
      go_enter Try.func11, Try.ntmps11
      go_wp2_with fail
      generalize hW : World.alloc _ _ = W
      have hx : C4 W w.heap.size x y z u := by subst hW; exact (by refine ⟨?_, ?_, ?_, ?_, ?_⟩ <;> first | (simp [go_sem]; done) | (simp; omega))
      have hw : Below w.heap.size w W := by subst hW; go_grown
      clear hW
      refine (HM.out _ hw).mono ?_
      rintro e w1 ⟨rfl, hb1⟩
      have hw1 := below_on hw hb1
      obtain ⟨x0, d0, d1, d2, d3⟩ := c4_on hx hb1
      clear hx hb1 hw
      go_wp2_with fail
      refine (HP.out _).mono ?_
      rintro e w2 ⟨rfl, hb2⟩
      go_wp2
      go_returns
      exact ⟨bt_ret HF.out.symm, below_on hw1 hb2⟩
    | true =>
      have HF := Lib.hid (show bdT v x y z u L = bdA (L.map (prS v x y z u)) from by unfold bdT; rw [hm, hp]; rfl)
      have HP := Lib.hid (fun W => specPV_b x y z u true W hp)
      have HPV := Lib.hid hp
      have hsv : spB L = true ∧ varB v = true := by simpa using hm
      have HAV := Lib.hid (sp_av hsv.1)
      have HOKP := Lib.hid (okP_of (v := v) (sp_av hsv.1) hp)
      have hv4 : 0 ≤ v ∧ v < 4 := by simpa [varB] using hsv.2
      have HV4 := Lib.hid hv4
      rw [hm] at HM
      clear hm hp hsv hv4
      go_enter Try.func11, Try.ntmps11
      go_wp2_with fail
      generalize hW : World.alloc _ _ = W
      have hx : C4 W w.heap.size x y z u := by subst hW; exact (by refine ⟨?_, ?_, ?_, ?_, ?_⟩ <;> first | (simp [go_sem]; done) | (simp; omega))
      have hw : Below w.heap.size w W := by subst hW; go_grown
      clear hW
      refine (HM.out _ hw).mono ?_
      rintro e w1 ⟨rfl, hb1⟩
      have hw1 := below_on hw hb1
      have hx1 := c4_on hx hb1
      obtain ⟨x0, d0, d1, d2, d3⟩ := id hx1
      clear hx hb1 hw
      go_wp2_with fail
      refine (HP.out _).mono ?_
      rintro e w2 ⟨rfl, hb2⟩
      have hx2 := c4_on hx1 hb2
      have hw2 := below_on hw1 hb2
      obtain ⟨B, hB⟩ : ∃ B, w.heap.size = B := ⟨_, rfl⟩
      have HSB := Lib.hid hB
      rw [hB] at hx2
      have HST := Lib.hid (show BsR v x y z u L n B w (.int .i64 0) (.int .i64 0) (.int .i64 (-1)) w2 from ⟨0, rfl, Nat.zero_le _, rfl, rfl, rfl, by show (0 : Int) ≤ MX; decide, hx2, hw2⟩)
      rw [hB]
      clear hx2 hw2 hb2 hx1 hw1 x0 d0 d1 d2 d3 hB
      go_wp2_with fail
      go_loopw [11, 9, 10] (fun i a g wr => BsR v x y z u L n B w i a g wr) (fun i _ _ _ => n - (intOf i).toNat)
      case atStart => exact HST.out
      case round =>
        obtain ⟨k, rfl, hk, rfl, rfl, hbd, hhi, hx, hbw⟩ := hrel
        clear HST
        have HB := Lib.hid hbw
        by_cases hlt : k < n
        · have hk' : (k : Int) < (n : Int) := by omega
          obtain ⟨t, ht⟩ : ∃ t, L[k]? = some t := ⟨_, List.getElem?_eq_getElem (by rw [HN.out]; exact hlt)⟩
          obtain ⟨b, rfl, hbl, hcell⟩ := HC.out.resolve_left (by rw [HN.out]; omega)
          have f : ∀ o, wr.cell? ⟨b, o, none⟩ = w.cell? ⟨b, o, none⟩ := fun o => hbw.cell (p := ⟨b, o, none⟩) hbl
          have r1 : ARow wr b (k * 7) t := by have := hcell k t ht; simpa only [ARow, f] using this
          have hbl' := Nat.lt_of_lt_of_le hbl hbw.size
          have hav := HAV.out t (List.mem_of_getElem? ht)
          have hok := pr_ok (v := v) hav HPV.out
          have HMS := Lib.hid (map_snoc (v := v) (x := x) (y := y) (z := z) (u := u) ht)
          have HSP := Lib.hid (map_split (v := v) (x := x) (y := y) (z := z) (u := u) ht)
          have HEV := Lib.hid (fun W => l1Eval_any (if v = 0 then 0 else t.a) (if v = 1 then 0 else t.b) (if v = 2 then 0 else t.c) (if v = 3 then 0 else t.d) t.n x y z u W (by rw [drop_tv (av_tv hav), HPV.out]; rfl))
          have HWO := Lib.hid (fun W => l1Without_any t.a t.b t.c t.d t.n v W HV4.out)
          have HCO := Lib.hid (fun W => specCoefOf_any t.a t.b t.c t.d t.n v W)
          have hq1 := hi_bd _ (okP_take k HOKP.out)
          rw [← List.map_take] at hq1
          obtain ⟨P, hP⟩ : ∃ P, (L.take k).map (prS v x y z u) = P := ⟨_, rfl⟩
          rw [hP] at hbd hhi HMS HSP hq1 ⊢
          obtain ⟨c, hcv⟩ : ∃ c, cS v t = c := ⟨_, rfl⟩
          obtain ⟨r, hrv⟩ : ∃ r, rS v x y z u t = r := ⟨_, rfl⟩
          rw [show sel t.a t.b t.c t.d v 0 = c from hcv] at HCO
          rw [show ev (if v = 0 then 0 else t.a) (if v = 1 then 0 else t.b) (if v = 2 then 0 else t.c) (if v = 3 then 0 else t.d) t.n x y z u = r from hrv] at HEV
          rw [hcv, hrv] at HMS HSP hok
          obtain ⟨t0, ht0⟩ : ∃ t0 : Int, (if v = 0 then 0 else t.a) = t0 := ⟨_, rfl⟩
          obtain ⟨t1, ht1⟩ : ∃ t1 : Int, (if v = 1 then 0 else t.b) = t1 := ⟨_, rfl⟩
          obtain ⟨t2, ht2⟩ : ∃ t2 : Int, (if v = 2 then 0 else t.c) = t2 := ⟨_, rfl⟩
          obtain ⟨t3, ht3⟩ : ∃ t3 : Int, (if v = 3 then 0 else t.d) = t3 := ⟨_, rfl⟩
          rw [ht0, ht1, ht2, ht3] at HWO HEV
          have HOK := Lib.hid hok
          have HBD := Lib.hid hbd
          have HQ1 := Lib.hid hq1
          have HHI := Lib.hid hhi
          have HL1 := Lib.hid (lo_snoc P (c, r))
          have HH1 := Lib.hid (hi_snoc P (c, r))
          have HB1 := Lib.hid (show bdF (P ++ [(c, r)]) = bdS (c, r) by rw [bd_snoc, HBD.out]; rfl)
          obtain ⟨p, hp⟩ : ∃ p, loF P = p := ⟨_, rfl⟩
          obtain ⟨q, hq⟩ : ∃ q, hiF P = q := ⟨_, rfl⟩
          rw [hp] at HL1 ⊢
          rw [hq] at HH1 HQ1 HHI ⊢
          have HR1 := Lib.hid r1
          obtain ⟨c0, c1, c2, c3, c4, c5, c6⟩ := r1
          obtain ⟨g, hg⟩ : ∃ g, hM q = g := ⟨_, rfl⟩
          have HG := Lib.hid hg
          rw [hg]
          clear hcell f ht hbw hp hq hP hcv hrv hok hbd hav hq1 hhi ht0 ht1 ht2 ht3 hg
          go_wp2_with fail
          refine (HCO.out _).mono ?_
          rintro e w3 ⟨rfl, hb3⟩
          have hx3 := c4_on hx hb3
          have hR3 : ARow w3 b (k * 7) t := by
            have f : ∀ o, w3.cell? ⟨b, o, none⟩ = wr.cell? ⟨b, o, none⟩ := fun o => (bcell hb3).1 b o hbl'
            simpa only [ARow, f] using HR1.out
          have hbl3 := Nat.lt_of_lt_of_le hbl' hb3.size
          have HB3 := Lib.hid (below_on HB.out hb3)
          clear c0 c1 c2 c3 c4 c5 c6 hb3 hx
          go_wp2_with fail
          go_region_held3 (fun w' => Below w3.heap.size w3 w' ∧ (w'.cell? ⟨b, k * 7 + 2, none⟩ = some (.int .i64 t.a) ∧ w'.cell? ⟨b, k * 7 + 3, none⟩ = some (.int .i64 t.b) ∧ w'.cell? ⟨b, k * 7 + 4, none⟩ = some (.int .i64 t.c) ∧ w'.cell? ⟨b, k * 7 + 5, none⟩ = some (.int .i64 t.d) ∧ w'.cell? ⟨b, k * 7 + 6, none⟩ = some (.int .i64 t.n)) ∧ (w'.cell? ⟨B, 0, none⟩ = some (.int .i64 x) ∧ w'.cell? ⟨B, 1, none⟩ = some (.int .i64 y) ∧ w'.cell? ⟨B, 2, none⟩ = some (.int .i64 z) ∧ w'.cell? ⟨B, 3, none⟩ = some (.int .i64 u))) (exact keepRp hbl3 hR3 hx3 (by go_grown)) (first | (go_at_call 24; refine (HWO.out _).mono ?_; rintro e w1 ⟨rfl, hb1⟩; have hbb1 := below_on (w := w3) (by go_grown) hb1; have hs1 : w3.heap.size ≤ w1.heap.size := hbb1.size) | (go_at_call 23; refine (HEV.out _).mono ?_; rintro e w2 ⟨rfl, hb2⟩; have hbb2 := below_on (w := w3) (by go_grown) hb2; have hs2 : w3.heap.size ≤ w2.heap.size := hbb2.size))
          all_goals
            have HB4 := Lib.hid (below_on HB3.out hbb2)
            have HX4 := Lib.hid (c4_on hx3 hbb2)
            clear hbb2 hs2 hb2 hbb1 hs1 hb1 hx3 hR3 hbl3
            obtain ⟨k0, k1, k2, k3⟩ := HOK.out
            by_cases hc0 : c < 0
            · have HN1 := Lib.hid (show loS p (c, r) = max p (cl r (-c)) from by unfold loS; rw [if_pos hc0])
              have HN2 := Lib.hid (show hiS q (c, r) = q from by unfold hiS; rw [if_neg (by simp; omega)])
              have HN3 := Lib.hid (show bdS (c, r) = false from by unfold bdS; rw [decide_eq_false (by simp; omega)]; rfl)
              have ez : (c == 0) = false := beq_false_of_ne (by omega)
              obtain ⟨d, hd⟩ : ∃ d, -c = d := ⟨_, rfl⟩
              have hwd : wrap64 (-c) = d := by rw [← hd]; unfold wrap64; omega
              have hwd2 : wrap64 d = d := by unfold wrap64; omega
              have HU := Lib.hid (fun W => l2Ceil_any r d W (by omega) k2 k3)
              rw [hd] at HN1
              obtain ⟨m, hm⟩ : ∃ m, cl r d = m := ⟨_, rfl⟩
              rw [hm] at HN1 HU
              clear hm
              rcases Decidable.em (p < m) with hpm | hpm
              all_goals
                have HPM := Lib.hid hpm
                go_wp2_with (go_at_call 25; refine (HU.out _).mono ?_; rintro e w' ⟨rfl, rfl⟩)
                go_roundw
                case rel => exact ⟨k + 1, by go_num, by omega, by rw [HMS.out, HL1.out, HN1.out]; exact congrArg _ (by have := HPM.out; omega), by rw [HMS.out, HH1.out, HN2.out, HG.out], by rw [HMS.out, HB1.out, HN3.out], by rw [HMS.out, HH1.out, HN2.out]; exact HHI.out, HX4.out, HB4.out⟩
                case measure => simp [intOf]; omega
            · by_cases hc1 : 0 < c
              · have HN1 := Lib.hid (show loS p (c, r) = p from by unfold loS; rw [if_neg hc0])
                have HN2 := Lib.hid (show hiS q (c, r) = min q (-(cl r c)) from by unfold hiS; rw [if_pos hc1])
                have HN3 := Lib.hid (show bdS (c, r) = false from by unfold bdS; rw [decide_eq_false (by simp; omega)]; rfl)
                have ez : (c == 0) = false := beq_false_of_ne (by omega)
                by_cases hr : 0 < r
                · have HE := Lib.hid (show bdA (L.map (prS v x y z u)) = ((0, 0), false) from by rw [HSP.out]; exact bd_early _ _ _ hc1 hr)
                  go_wp2
                  go_returns
                  exact ⟨bt_ret (HE.out.symm.trans HF.out.symm), HB4.out⟩
                · obtain ⟨d, hd⟩ : ∃ d, -r = d := ⟨_, rfl⟩
                  have hwd : wrap64 (-r) = d := by rw [← hd]; unfold wrap64; omega
                  have hwd2 : wrap64 d = d := by unfold wrap64; omega
                  obtain ⟨m, hm⟩ : ∃ m, d.tdiv c = m := ⟨_, rfl⟩
                  have hmc : -(cl r c) = m := by rw [cl_neg (by omega), ← Int.neg_tdiv, hd, hm]
                  have hm0 : 0 ≤ m := by rw [← hm]; exact Int.tdiv_nonneg (by omega) (by omega)
                  have hm1 : m ≤ 500000 := by rw [← hmc]; have := cl_bd (n := r) (d := c) (M := 500000) hc1 k2 k3 (by omega); omega
                  have hcz : ¬ c = 0 := by omega
                  rw [hmc] at HN2
                  have HQ : q = MX ∨ (0 ≤ q ∧ q ≤ 500000) := by have h1 := HQ1.out.2; have h2 := HHI.out; omega
                  rcases HQ with hq | hq
                  · have HGG := Lib.hid (show hM (min q m) = m from by rw [show min q m = m by unfold MX at hq; omega]; unfold hM MX; rw [if_neg (by omega)])
                    have HI0 := Lib.hid (show 0 ≤ min q m from by unfold MX at hq; omega)
                    have hgv : g = -1 := by have := HG.out; unfold hM at this; rw [if_pos hq] at this; exact this.symm
                    subst hgv
                    clear hq hmc
                    go_wp2
                    go_roundw
                    case rel => exact ⟨k + 1, by go_num, by omega, by rw [HMS.out, HL1.out, HN1.out], by rw [HMS.out, HH1.out, HN2.out, HGG.out], by rw [HMS.out, HB1.out, HN3.out], by rw [HMS.out, HH1.out, HN2.out]; exact HI0.out, HX4.out, HB4.out⟩
                    case measure => simp [intOf]; omega
                  · have hgv : q = g := by have := HG.out; unfold hM at this; rw [if_neg (by unfold MX; omega)] at this; exact this
                    have HI0 := Lib.hid (show 0 ≤ min q m from by omega)
                    have hg0 : ¬ g < 0 := by omega
                    by_cases hmq : m < g
                    · have HGG := Lib.hid (show hM (min q m) = m from by rw [show min q m = m by omega]; unfold hM MX; rw [if_neg (by omega)])
                      clear hq hmc hgv
                      go_wp2
                      go_roundw
                      case rel => exact ⟨k + 1, by go_num, by omega, by rw [HMS.out, HL1.out, HN1.out], by rw [HMS.out, HH1.out, HN2.out, HGG.out], by rw [HMS.out, HB1.out, HN3.out], by rw [HMS.out, HH1.out, HN2.out]; exact HI0.out, HX4.out, HB4.out⟩
                      case measure => simp [intOf]; omega
                    · have HGG := Lib.hid (show hM (min q m) = g from by rw [show min q m = q by omega]; exact HG.out)
                      clear hq hmc hgv
                      go_wp2
                      go_roundw
                      case rel => exact ⟨k + 1, by go_num, by omega, by rw [HMS.out, HL1.out, HN1.out], by rw [HMS.out, HH1.out, HN2.out, HGG.out], by rw [HMS.out, HB1.out, HN3.out], by rw [HMS.out, HH1.out, HN2.out]; exact HI0.out, HX4.out, HB4.out⟩
                      case measure => simp [intOf]; omega
              · have HN1 := Lib.hid (show loS p (c, r) = p from by unfold loS; rw [if_neg hc0])
                have HN2 := Lib.hid (show hiS q (c, r) = q from by unfold hiS; rw [if_neg hc1])
                obtain rfl : c = 0 := by omega
                by_cases hr : 0 < r
                · have HN3 := Lib.hid (show bdS (0, r) = true from by unfold bdS; rw [decide_eq_true (by simp), decide_eq_true (by simpa using hr)]; rfl)
                  have HE := Lib.hid (show bdA (L.map (prS v x y z u)) = ((0, 0), false) from bd_bad _ (by
                    rw [HSP.out, show P ++ (0, r) :: (L.drop (k + 1)).map (prS v x y z u) = (P ++ [(0, r)]) ++ (L.drop (k + 1)).map (prS v x y z u) by simp]
                    exact bd_app _ _ (by rw [HB1.out, HN3.out])))
                  go_wp2
                  go_returns
                  exact ⟨bt_ret (HE.out.symm.trans HF.out.symm), HB4.out⟩
                · have HN3 := Lib.hid (show bdS (0, r) = false from by unfold bdS; rw [decide_eq_false (p := 0 < (0, r).2) (by simpa using hr)]; simp)
                  go_wp2
                  go_roundw
                  case rel => exact ⟨k + 1, by go_num, by omega, by rw [HMS.out, HL1.out, HN1.out], by rw [HMS.out, HH1.out, HN2.out, HG.out], by rw [HMS.out, HB1.out, HN3.out], by rw [HMS.out, HH1.out, HN2.out]; exact HHI.out, HX4.out, HB4.out⟩
                  case measure => simp [intOf]; omega
        · have hk' : ¬ (k : Int) < (n : Int) := by omega
          obtain rfl : k = n := by omega
          have HT := Lib.hid (show L.take k = L from List.take_of_length_le (by rw [HN.out]; exact Nat.le_refl _))
          rw [HT.out] at hbd hhi ⊢
          have HBD := Lib.hid hbd
          have HDA := (show bdA (L.map (prS v x y z u)) = if hiF (L.map (prS v x y z u)) < loF (L.map (prS v x y z u)) then ((0, 0), false) else ((loF (L.map (prS v x y z u)), if hiF (L.map (prS v x y z u)) = MX then -1 else hiF (L.map (prS v x y z u))), true) from by
            unfold bdA
            rw [HBD.out]
            simp)
          have hq1 := hi_bd _ HOKP.out
          have hp1 := lo_bd _ HOKP.out
          obtain ⟨p, hp⟩ : ∃ p, loF (L.map (prS v x y z u)) = p := ⟨_, rfl⟩
          obtain ⟨q, hq⟩ : ∃ q, hiF (L.map (prS v x y z u)) = q := ⟨_, rfl⟩
          rw [hp] at HDA hp1 ⊢
          rw [hq] at HDA hq1 hhi ⊢
          clear hp hq hbd
          by_cases hm : q = MX
          · have hg : hM q = -1 := by unfold hM; rw [if_pos hm]
            rw [if_neg (by unfold MX at hm; omega), if_pos hm] at HDA
            rw [hg]
            have HE := Lib.hid HDA
            clear HDA hm hg hq1 hhi
            go_wp2
            go_returns
            exact ⟨bt_ret (HE.out.symm.trans HF.out.symm), hbw⟩
          · have hg : hM q = q := by unfold hM; rw [if_neg hm]
            rw [hg]
            clear hg
            by_cases hpq : q < p
            · rw [if_pos hpq] at HDA
              have HE := Lib.hid HDA
              clear HDA hm hq1
              go_wp2
              go_returns
              exact ⟨bt_ret (HE.out.symm.trans HF.out.symm), hbw⟩
            · rw [if_neg hpq, if_neg hm] at HDA
              have HE := Lib.hid HDA
              clear HDA hm hq1
              go_wp2
              go_returns
              exact ⟨bt_ret (HE.out.symm.trans HF.out.symm), hbw⟩

end Go.Proofs.Ytmnppdkoehdplaa
