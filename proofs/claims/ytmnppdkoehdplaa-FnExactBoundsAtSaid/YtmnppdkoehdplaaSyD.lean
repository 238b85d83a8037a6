/- BoundsAt, of the program and of the model. -/
import Derived.Test.YtmnppdkoehdplaaSyC
import Derived.Test.YtmnppdkoehdplaaLawB
import Derived.Deep.RegionHeld3
namespace Go.Proofs.Ytmnppdkoehdplaa
open Go.RowKit

set_option maxHeartbeats 400000 in
theorem roundUp_any (n d : Int) (w : World) (hd : 0 < d ∧ d ≤ 100) (h0 : -500000 ≤ n) (h1 : n ≤ 500000) :
    Calls Try.prog 30 #[.int .i64 n, .int .i64 d] w fun e w' => e = .returned (.int .i64 (cl n d)) ∧ w = w' := by
  obtain ⟨c0, c1⟩ := cl_bd hd.1 h0 h1 (by omega)
  have hdz : ¬ d = 0 := by omega
  by_cases hn : 0 < n
  · have HC := cl_tdiv hn hd.1
    obtain ⟨q, hq⟩ : ∃ q, n.tdiv d = q := ⟨_, rfl⟩
    obtain ⟨r, hr⟩ : ∃ r, n.tmod d = r := ⟨_, rfl⟩
    rw [hq, hr] at HC
    by_cases hr0 : r = 0
    · rw [if_pos hr0] at HC
      have HCC := Lib.hid HC
      have q0 : -1000000 ≤ q := by omega
      have q1 : q ≤ 1000000 := by omega
      subst hr0
      clear HC c0 c1
      go_enter Try.func30, Try.ntmps30
      go_wp2
      go_returns
      exact ⟨ret_int HCC.out.symm, rfl⟩
    · rw [if_neg hr0] at HC
      have HCC := Lib.hid HC
      have q0 : -1000000 ≤ q := by omega
      have q1 : q ≤ 1000000 := by omega
      clear HC c0 c1
      go_enter Try.func30, Try.ntmps30
      go_wp2
      go_returns
      exact ⟨ret_int HCC.out.symm, rfl⟩
  · have HC := cl_neg (d := d) (show n ≤ 0 by omega)
    obtain ⟨q, hq⟩ : ∃ q, n.tdiv d = q := ⟨_, rfl⟩
    rw [hq] at HC
    have HCC := Lib.hid HC
    have q0 : -1000000 ≤ q := by omega
    have q1 : q ≤ 1000000 := by omega
    clear HC c0 c1
    go_enter Try.func30, Try.ntmps30
    go_wp2
    go_returns
    exact ⟨ret_int HCC.out.symm, rfl⟩

set_option maxHeartbeats 400000 in
theorem l2Mod9_any (n d : Int) (w : World) (hd : 0 < d) (hd1 : d ≤ 100) :
    Calls Try.prog 41 #[.int .i64 n, .int .i64 d] w fun e w' => e = .returned (.int .i64 (n % d)) ∧ w = w' := by
  have hd0 : ¬ d = 0 := by omega
  have t1 := Int.tmod_lt_of_pos n hd
  have t0 : -d < Int.tmod n d := by
    have := Int.tmod_lt_of_pos (-n) hd
    rw [Int.neg_tmod] at this
    omega
  have hm := mod_model (n := n) hd
  have hm0 := Int.emod_nonneg n hd0
  have hm1 := Int.emod_lt_of_pos n hd
  go_enter Try.func41, Try.ntmps41
  go_wp2
  go_ret
  exact ⟨ret_int (by omega), rfl⟩

set_option maxHeartbeats 400000 in
theorem l2Ceil_any (n d : Int) (w : World) (hd : 0 < d ∧ d ≤ 100) (h0 : -500000 ≤ n) (h1 : n ≤ 500000) :
    Calls Try.prog 25 #[.int .i64 n, .int .i64 d] w fun e w' => e = .returned (.int .i64 (cl n d)) ∧ w = w' := by
  obtain ⟨c0, c1⟩ := cl_bd hd.1 h0 h1 (by omega)
  have hdz : ¬ d = 0 := by omega
  obtain ⟨m, hm⟩ : ∃ m, -n = m := ⟨_, rfl⟩
  have hw : wrap64 (-n) = m := by rw [← hm]; unfold wrap64; omega
  have HM := Lib.hid (fun W => l2Mod9_any m d W hd.1 hd.2)
  have HC := cl_model (n := n) hd.1
  rw [hm] at HC
  obtain ⟨r, hr⟩ : ∃ r, m % d = r := ⟨_, rfl⟩
  have r0 : 0 ≤ r := by rw [← hr]; exact Int.emod_nonneg m hdz
  have r1 : r ≤ 100 := by have := Int.emod_lt_of_pos m hd.1; omega
  rw [hr] at HC HM
  clear hr
  have HCC := Lib.hid HC
  clear HC
  go_enter Try.func25, Try.ntmps25
  go_wp2_with (go_at_call 41; refine (HM.out _).mono ?_; rintro e w' ⟨rfl, rfl⟩)
  go_returns
  exact ⟨ret_int HCC.out, rfl⟩

/-- The value of an atom's term, with 0 for a variable. -/
def rS (v x y z u : Int) (t : AtD) : Int := ev (if v = 0 then 0 else t.a) (if v = 1 then 0 else t.b) (if v = 2 then 0 else t.c) (if v = 3 then 0 else t.d) t.n x y z u
def prS (v x y z u : Int) (t : AtD) : Int × Int := (cS v t, rS v x y z u t)
def BT (r : (Int × Int) × Bool) : Value := .tuple #[.int .i64 r.1.1, .int .i64 r.1.2, .bool r.2]
/-- BoundsAt's answer. -/
def bdT (v x y z u : Int) (L : List AtD) : (Int × Int) × Bool := if (spB L && varB v && pvB x y z u) = true then bdA (L.map (prS v x y z u)) else ((0, 0), false)

theorem rS_put (v x y z u : Int) (t : AtD) : ev t.a t.b t.c t.d t.n (if v = 0 then 0 else x) (if v = 1 then 0 else y) (if v = 2 then 0 else z) (if v = 3 then 0 else u) = rS v x y z u t := by
  have h0 : t.a * (if v = 0 then 0 else x) = (if v = 0 then 0 else t.a) * x := by split <;> simp
  have h1 : t.b * (if v = 1 then 0 else y) = (if v = 1 then 0 else t.b) * y := by split <;> simp
  have h2 : t.c * (if v = 2 then 0 else z) = (if v = 2 then 0 else t.c) * z := by split <;> simp
  have h3 : t.d * (if v = 3 then 0 else u) = (if v = 3 then 0 else t.d) * u := by split <;> simp
  unfold rS ev
  rw [h0, h1, h2, h3]
theorem drop_tv {v : Int} {t : AtD} (h : tvB t.a t.b t.c t.d t.n = true) : tvB (if v = 0 then 0 else t.a) (if v = 1 then 0 else t.b) (if v = 2 then 0 else t.c) (if v = 3 then 0 else t.d) t.n = true := by
  obtain ⟨h0, h1, h2, h3, h4⟩ := tv_bd h
  simp only [tvB, wlB, Bool.and_eq_true, decide_eq_true_eq]
  refine ⟨⟨⟨⟨?_, ?_⟩, ?_⟩, ?_⟩, h4⟩ <;> split <;> omega
theorem ev_bd {a b c d n x y z u : Int} (h1 : tvB a b c d n = true) (h2 : pvB x y z u = true) : -500000 ≤ ev a b c d n x y z u ∧ ev a b c d n x y z u ≤ 500000 := by
  simp only [tvB, wlB, Bool.and_eq_true, decide_eq_true_eq] at h1
  simp only [pvB, inB, Bool.and_eq_true, decide_eq_true_eq] at h2
  obtain ⟨⟨⟨⟨⟨a0, a1⟩, b0, b1⟩, c0, c1⟩, d0, d1⟩, n0, n1⟩ := h1
  obtain ⟨⟨⟨⟨x0, x1⟩, y0, y1⟩, z0, z1⟩, u0, u1⟩ := h2
  obtain ⟨ax0, ax1⟩ := mul_bd a0 a1 x0 x1 (by omega)
  obtain ⟨by0, by1⟩ := mul_bd b0 b1 y0 y1 (by omega)
  obtain ⟨cz0, cz1⟩ := mul_bd c0 c1 z0 z1 (by omega)
  obtain ⟨du0, du1⟩ := mul_bd d0 d1 u0 u1 (by omega)
  unfold ev
  omega
theorem av_tv {t : AtD} (h : avF t = true) : tvB t.a t.b t.c t.d t.n = true := (avB_cases h).2
theorem pr_ok {v x y z u : Int} {t : AtD} (h : avF t = true) (hp : pvB x y z u = true) : -100 ≤ cS v t ∧ cS v t ≤ 100 ∧ -500000 ≤ rS v x y z u t ∧ rS v x y z u t ≤ 500000 := by
  have h1 := sel_bd (v := v) (av_tv h)
  have h2 := ev_bd (drop_tv (v := v) (av_tv h)) hp
  exact ⟨h1.1, h1.2, h2.1, h2.2⟩
theorem okP_of {v x y z u : Int} {L : List AtD} (h : ∀ t ∈ L, avF t = true) (hp : pvB x y z u = true) : okP (L.map (prS v x y z u)) := fun q hq => by
  obtain ⟨t, ht, rfl⟩ := List.mem_map.1 hq
  exact pr_ok (h t ht) hp
theorem map_snoc {v x y z u : Int} {L : List AtD} {k : Nat} {t : AtD} (h : L[k]? = some t) : (L.take (k + 1)).map (prS v x y z u) = (L.take k).map (prS v x y z u) ++ [(cS v t, rS v x y z u t)] := by rw [take_snoc h, List.map_append]; rfl
theorem map_split {v x y z u : Int} {L : List AtD} {k : Nat} {t : AtD} (h : L[k]? = some t) : L.map (prS v x y z u) = (L.take k).map (prS v x y z u) ++ (cS v t, rS v x y z u t) :: (L.drop (k + 1)).map (prS v x y z u) := by
  have := congrArg (List.map (prS v x y z u)) (take_split h)
  rwa [List.map_append, List.map_cons] at this
theorem okP_take {P : PP} (k : Nat) (h : okP P) : okP (P.take k) := fun q hq => h q (List.mem_of_mem_take hq)

def BaR (v x y z u : Int) (L : List AtD) (n B : Nat) (p0 p1 p2 p3 : Int) (w : World) (i a g : Value) (wr : World) : Prop :=
  ∃ k : Nat, i = .int .i64 k ∧ k ≤ n ∧ a = .int .i64 (loF ((L.take k).map (prS v x y z u))) ∧ g = .int .i64 (hiF ((L.take k).map (prS v x y z u))) ∧ bdF ((L.take k).map (prS v x y z u)) = false ∧ C4 wr B p0 p1 p2 p3 ∧ Below w.heap.size w wr

theorem bt_ret {a b : (Int × Int) × Bool} (h : a = b) : Ending.returned (BT a) = .returned (BT b) := by rw [h]

set_option maxHeartbeats 4000000 in
theorem BoundsAt_any (s : Value) (v x y z u : Int) (L : List AtD) (w : World) (h : RdA w s L) (hL : L.length ≤ 1048576) :
    Calls Try.prog 13 #[s, .int .i64 v, .agg #[.int .i64 x, .int .i64 y, .int .i64 z, .int .i64 u]] w fun e w' => e = .returned (BT (bdT v x y z u L)) ∧ Below w.heap.size w w' := by
  cases hwv : wvB x y z u v 0 with
  | false =>
    have HW := Lib.hid (fun W => WithValue_bad x y z u v 0 W hwv)
    have HF := Lib.hid (show bdT v x y z u L = ((0, 0), false) from by
      unfold bdT
      rw [if_neg]
      simp [wvB, inB] at hwv
      simp only [Bool.and_eq_true]
      rintro ⟨⟨_, h2⟩, h3⟩
      rw [hwv h3] at h2
      exact absurd h2 (by decide))
    obtain ⟨sp, cap, rfl, hc⟩ := h
    clear hwv hc
    rw [HF.out]
    go_enter Try.func13, Try.ntmps13
    go_wp2_with fail
    generalize hW : World.alloc _ _ = W
    have hw : Below w.heap.size w W := by subst hW; go_grown
    have hx : C4 W w.heap.size x y z u := by subst hW; exact (by refine ⟨?_, ?_, ?_, ?_, ?_⟩ <;> first | (simp [go_sem]; done) | (simp; omega))
    clear hW
    obtain ⟨x0, c0, c1, c2, c3⟩ := hx
    refine (HW.out _).mono ?_
    rintro e w1 ⟨rfl, hb1⟩
    have hw1 := below_on hw hb1
    clear hw hb1 x0 c0 c1 c2 c3
    go_wp2
    go_returns
    exact ⟨rfl, below_on hw1 (by go_grown)⟩
  | true =>
    obtain ⟨hp, hv, _, hv4⟩ := wvB_parts hwv
    have HW := Lib.hid (fun W => WithValue_ok x y z u v 0 W hwv)
    have HS := Lib.hid (fun W hW => isSplit_any s L W (readsA_on h hW) hL)
    obtain ⟨p0, hp0⟩ : ∃ p0 : Int, (if v = 0 then 0 else x) = p0 := ⟨_, rfl⟩
    obtain ⟨p1, hp1⟩ : ∃ p1 : Int, (if v = 1 then 0 else y) = p1 := ⟨_, rfl⟩
    obtain ⟨p2, hp2⟩ : ∃ p2 : Int, (if v = 2 then 0 else z) = p2 := ⟨_, rfl⟩
    obtain ⟨p3, hp3⟩ : ∃ p3 : Int, (if v = 3 then 0 else u) = p3 := ⟨_, rfl⟩
    have HPV := Lib.hid (show pvB p0 p1 p2 p3 = true from by
      simp only [pvB, inB, Bool.and_eq_true, decide_eq_true_eq] at hp ⊢
      rw [← hp0, ← hp1, ← hp2, ← hp3]
      refine ⟨⟨⟨?_, ?_⟩, ?_⟩, ?_⟩ <;> split <;> omega)
    have HRS := Lib.hid (fun t => rS_put v x y z u t)
    rw [hp0, hp1, hp2, hp3] at HW HRS
    have HP := Lib.hid hp
    obtain ⟨sp, cap, rfl, hc⟩ := h
    obtain ⟨n, hn⟩ : ∃ n, L.length = n := ⟨_, rfl⟩
    have HN := Lib.hid hn
    have HC := Lib.hid hc
    rw [hn] at hL HS ⊢
    have HV := Lib.hid hv
    clear hn hc hwv hp hv hp0 hp1 hp2 hp3
    cases hs : spB L with
    | false =>
      have HF := Lib.hid (show bdT v x y z u L = ((0, 0), false) from by unfold bdT; rw [hs]; rfl)
      rw [hs] at HS
      clear hs
      rw [HF.out]
      go_enter Try.func13, Try.ntmps13
      go_wp2_with fail
      generalize hW : World.alloc _ _ = W
      have hw : Below w.heap.size w W := by subst hW; go_grown
      have hx : C4 W w.heap.size x y z u := by subst hW; exact (by refine ⟨?_, ?_, ?_, ?_, ?_⟩ <;> first | (simp [go_sem]; done) | (simp; omega))
      clear hW
      obtain ⟨x0, c0, c1, c2, c3⟩ := hx
      refine (HW.out _).mono ?_
      rintro e w1 ⟨rfl, hb1⟩
      have hw1 := below_on hw hb1
      clear hw hb1 x0 c0 c1 c2 c3
      go_wp2_with fail
      generalize hW : World.alloc _ _ = W2
      have hw2 : Below w.heap.size w W2 := below_on hw1 (by subst hW; go_grown)
      clear hW
      refine (HS.out _ hw2).mono ?_
      rintro e w3 ⟨rfl, hb3⟩
      go_wp2
      go_returns
      exact ⟨rfl, below_on hw2 hb3⟩
    | true =>
      have HF := Lib.hid (show bdT v x y z u L = bdA (L.map (prS v x y z u)) from by unfold bdT; rw [hs, HV.out, HP.out]; rfl)
      have HAV := Lib.hid (sp_av hs)
      rw [hs] at HS
      clear hs
      rw [HF.out]
      go_enter Try.func13, Try.ntmps13
      go_wp2_with fail
      generalize hW : World.alloc _ _ = W
      have hw : Below w.heap.size w W := by subst hW; go_grown
      have hx : C4 W w.heap.size x y z u := by subst hW; exact (by refine ⟨?_, ?_, ?_, ?_, ?_⟩ <;> first | (simp [go_sem]; done) | (simp; omega))
      clear hW
      obtain ⟨x0, c0, c1, c2, c3⟩ := hx
      refine (HW.out _).mono ?_
      rintro e w1 ⟨rfl, hb1⟩
      have hw1 := below_on hw hb1
      clear hw hb1 x0 c0 c1 c2 c3
      go_wp2_with fail
      generalize hW : World.alloc _ _ = W2
      have hw2 : Below w.heap.size w W2 := below_on hw1 (by subst hW; go_grown)
      have hx2 : C4 W2 w1.heap.size p0 p1 p2 p3 := by subst hW; exact (by refine ⟨?_, ?_, ?_, ?_, ?_⟩ <;> first | (simp [go_sem]; done) | (simp; omega))
      clear hW hw1
      refine (HS.out _ hw2).mono ?_
      rintro e w3 ⟨rfl, hb3⟩
      have hx3 := c4_on hx2 hb3
      have hw3 := below_on hw2 hb3
      obtain ⟨B, hB⟩ : ∃ B, w1.heap.size = B := ⟨_, rfl⟩
      rw [hB] at hx3 ⊢
      have HST := Lib.hid (show BaR v x y z u L n B p0 p1 p2 p3 w (.int .i64 0) (.int .i64 0) (.int .i64 9223372036854775807) w3 from ⟨0, rfl, Nat.zero_le _, rfl, rfl, rfl, hx3, hw3⟩)
      clear hx2 hw2 hb3 hx3 hw3 hB
      go_wp2_with fail
      go_loopw [33, 11, 12] (fun i a g wr => BaR v x y z u L n B p0 p1 p2 p3 w i a g wr) (fun i _ _ _ => n - (intOf i).toNat)
      case atStart => exact HST.out
      case round =>
        obtain ⟨k, rfl, hk, rfl, rfl, hbd, hx, hbw⟩ := hrel
        clear HST
        have HB := Lib.hid hbw
        by_cases hlt : k < n
        · have hk' : (k : Int) < (n : Int) := by omega
          obtain ⟨t, ht⟩ : ∃ t, L[k]? = some t := ⟨_, List.getElem?_eq_getElem (by rw [HN.out]; exact hlt)⟩
          obtain ⟨b, rfl, hbl, hcell⟩ := HC.out.resolve_left (by rw [HN.out]; omega)
          have f : ∀ o, wr.cell? ⟨b, o, none⟩ = w.cell? ⟨b, o, none⟩ := fun o => hbw.cell (p := ⟨b, o, none⟩) hbl
          have r1 : ARow wr b (k * 7) t := by have := hcell k t ht; simpa only [ARow, f] using this
          obtain ⟨c0, c1, c2, c3, c4, c5, c6⟩ := r1
          have hav := HAV.out t (List.mem_of_getElem? ht)
          have hok := pr_ok (v := v) hav HP.out
          have HM := Lib.hid (map_snoc (v := v) (x := x) (y := y) (z := z) (u := u) ht)
          have HSP := Lib.hid (map_split (v := v) (x := x) (y := y) (z := z) (u := u) ht)
          have HEV := Lib.hid (fun W => EvalTerm_ok t.a t.b t.c t.d t.n p0 p1 p2 p3 W (by rw [av_tv hav, HPV.out]; rfl))
          rw [HRS.out t] at HEV
          have HCO := Lib.hid (fun W => CoefOf_any t.a t.b t.c t.d t.n v W)
          obtain ⟨P, hP⟩ : ∃ P, (L.take k).map (prS v x y z u) = P := ⟨_, rfl⟩
          rw [hP] at hbd HM HSP ⊢
          obtain ⟨c, hcv⟩ : ∃ c, cS v t = c := ⟨_, rfl⟩
          obtain ⟨r, hrv⟩ : ∃ r, rS v x y z u t = r := ⟨_, rfl⟩
          rw [show sel t.a t.b t.c t.d v 0 = c from hcv] at HCO
          rw [hrv] at HEV
          rw [hcv, hrv] at HM HSP hok
          have HOK := Lib.hid hok
          have HBD := Lib.hid hbd
          have HL1 := Lib.hid (lo_snoc P (c, r))
          have HH1 := Lib.hid (hi_snoc P (c, r))
          have HB1 := Lib.hid (show bdF (P ++ [(c, r)]) = bdS (c, r) by rw [bd_snoc, HBD.out]; rfl)
          obtain ⟨p, hp⟩ : ∃ p, loF P = p := ⟨_, rfl⟩
          obtain ⟨q, hq⟩ : ∃ q, hiF P = q := ⟨_, rfl⟩
          rw [hp] at HL1 ⊢
          rw [hq] at HH1 ⊢
          clear hcell f ht hbw hp hq hP hcv hrv hok hbd hav
          obtain ⟨x0, d0, d1, d2, d3⟩ := id hx
          go_wp2_with fail
          generalize hW : World.alloc _ _ = W
          have hy : C7 W wr.heap.size t.k t.m t.a t.b t.c t.d t.n := by subst hW; exact (by refine ⟨?_, ?_, ?_, ?_, ?_, ?_, ?_, ?_⟩ <;> first | (simp [go_sem]; done) | (simp; omega))
          have hw : Below wr.heap.size wr W := by subst hW; go_grown
          have hx1 := c4_on hx hw
          clear hW c0 c1 c2 c3 c4 c5 c6 hx x0 d0 d1 d2 d3
          refine (HEV.out _).mono ?_
          rintro e w3 ⟨rfl, hb3⟩
          have hy3 := c7_on hy hb3
          have hx3 := c4_on hx1 hb3
          have hw3 := below_on hw hb3
          clear hw hx1 hy hb3
          obtain ⟨y0, c0, c1, c2, c3, c4, c5, c6⟩ := hy3
          go_wp2_with fail
          refine (HCO.out _).mono ?_
          rintro e w4 ⟨rfl, hb4⟩
          have HB4 := Lib.hid (below_on HB.out (below_on hw3 hb4))
          have HX4 := Lib.hid (c4_on hx3 hb4)
          clear y0 c0 c1 c2 c3 c4 c5 c6 hw3 hb4 hx3
          obtain ⟨k0, k1, k2, k3⟩ := HOK.out
          by_cases hc0 : c < 0
          · have HN1 := Lib.hid (show loS p (c, r) = max p (cl r (-c)) from by unfold loS; rw [if_pos hc0])
            have HN2 := Lib.hid (show hiS q (c, r) = q from by unfold hiS; rw [if_neg (by simp; omega)])
            have HN3 := Lib.hid (show bdS (c, r) = false from by unfold bdS; rw [decide_eq_false (by simp; omega)]; rfl)
            obtain ⟨d, hd⟩ : ∃ d, -c = d := ⟨_, rfl⟩
            have hwd : wrap64 (-c) = d := by rw [← hd]; unfold wrap64; omega
            have HU := Lib.hid (fun W => roundUp_any r d W (by omega) k2 k3)
            rw [hd] at HN1
            obtain ⟨m, hm⟩ : ∃ m, cl r d = m := ⟨_, rfl⟩
            rw [hm] at HN1 HU
            clear hm
            rcases Decidable.em (p < m) with hpm | hpm
            all_goals
              have HPM := Lib.hid hpm
              go_wp2_with (go_at_call 30; refine (HU.out _).mono ?_; rintro e w' ⟨rfl, rfl⟩)
              go_roundw
              case rel => exact ⟨k + 1, by go_num, by omega, by rw [HM.out, HL1.out, HN1.out]; exact congrArg _ (by have := HPM.out; omega), by rw [HM.out, HH1.out, HN2.out], by rw [HM.out, HB1.out, HN3.out], HX4.out, HB4.out⟩
              case measure => simp [intOf]; omega
          · by_cases hc1 : 0 < c
            · have HN1 := Lib.hid (show loS p (c, r) = p from by unfold loS; rw [if_neg hc0])
              have HN2 := Lib.hid (show hiS q (c, r) = min q (-(cl r c)) from by unfold hiS; rw [if_pos hc1])
              have HN3 := Lib.hid (show bdS (c, r) = false from by unfold bdS; rw [decide_eq_false (by simp; omega)]; rfl)
              have HU := Lib.hid (fun W => roundUp_any r c W (by omega) k2 k3)
              obtain ⟨e0, e1⟩ := cl_bd (n := r) (d := c) (M := 500000) hc1 k2 k3 (by omega)
              obtain ⟨m, hm⟩ : ∃ m, cl r c = m := ⟨_, rfl⟩
              rw [hm] at HN2 HU e0 e1
              obtain ⟨d, hd⟩ : ∃ d, -m = d := ⟨_, rfl⟩
              have hwd : wrap64 (-m) = d := by rw [← hd]; unfold wrap64; omega
              have hwd2 : wrap64 d = d := by unfold wrap64; omega
              rw [hd] at HN2
              clear hm e0 e1
              rcases Decidable.em (d < q) with hpm | hpm
              all_goals
                have HPM := Lib.hid hpm
                go_wp2_with (go_at_call 30; refine (HU.out _).mono ?_; rintro e w' ⟨rfl, rfl⟩)
                go_roundw
                case rel => exact ⟨k + 1, by go_num, by omega, by rw [HM.out, HL1.out, HN1.out], by rw [HM.out, HH1.out, HN2.out]; exact congrArg _ (by have := HPM.out; omega), by rw [HM.out, HB1.out, HN3.out], HX4.out, HB4.out⟩
                case measure => simp [intOf]; omega
            · have HN1 := Lib.hid (show loS p (c, r) = p from by unfold loS; rw [if_neg hc0])
              have HN2 := Lib.hid (show hiS q (c, r) = q from by unfold hiS; rw [if_neg hc1])
              by_cases hr : 0 < r
              · have HN3 := Lib.hid (show bdS (c, r) = true from by unfold bdS; rw [decide_eq_true (by simp; omega), decide_eq_true (by simpa using hr)]; rfl)
                have HE := Lib.hid (show bdA (L.map (prS v x y z u)) = ((0, 0), false) from bd_bad _ (by
                  rw [HSP.out, show P ++ (c, r) :: (L.drop (k + 1)).map (prS v x y z u) = (P ++ [(c, r)]) ++ (L.drop (k + 1)).map (prS v x y z u) by simp]
                  exact bd_app _ _ (by rw [HB1.out, HN3.out])))
                go_wp2
                go_returns
                exact ⟨bt_ret HE.out.symm, HB4.out⟩
              · have HN3 := Lib.hid (show bdS (c, r) = false from by unfold bdS; rw [decide_eq_false (p := 0 < (c, r).2) (by simpa using hr)]; simp)
                go_wp2
                go_roundw
                case rel => exact ⟨k + 1, by go_num, by omega, by rw [HM.out, HL1.out, HN1.out], by rw [HM.out, HH1.out, HN2.out], by rw [HM.out, HB1.out, HN3.out], HX4.out, HB4.out⟩
                case measure => simp [intOf]; omega
        · have hk' : ¬ (k : Int) < (n : Int) := by omega
          obtain rfl : k = n := by omega
          have HT := Lib.hid (show L.take k = L from List.take_of_length_le (by rw [HN.out]; exact Nat.le_refl _))
          rw [HT.out] at hbd
          rw [HT.out]
          have HBD := Lib.hid hbd
          have HDA := (show bdA (L.map (prS v x y z u)) = if hiF (L.map (prS v x y z u)) < loF (L.map (prS v x y z u)) then ((0, 0), false) else ((loF (L.map (prS v x y z u)), if hiF (L.map (prS v x y z u)) = MX then -1 else hiF (L.map (prS v x y z u))), true) from by
            unfold bdA
            rw [HBD.out]
            simp)
          obtain ⟨p, hp⟩ : ∃ p, loF (L.map (prS v x y z u)) = p := ⟨_, rfl⟩
          obtain ⟨q, hq⟩ : ∃ q, hiF (L.map (prS v x y z u)) = q := ⟨_, rfl⟩
          rw [hp, hq] at HDA ⊢
          clear hp hq hbd
          by_cases hpq : q < p
          · rw [if_pos hpq] at HDA
            have HE := Lib.hid HDA
            clear HDA
            go_wp2
            go_returns
            exact ⟨bt_ret HE.out.symm, hbw⟩
          · rw [if_neg hpq] at HDA
            by_cases hm : q = 9223372036854775807
            · rw [if_pos (by unfold MX; exact hm)] at HDA
              have e1 : (q == 9223372036854775807) = true := by simpa using hm
              have HE := Lib.hid HDA
              clear HDA hm
              go_wp2
              go_returns
              exact ⟨bt_ret HE.out.symm, hbw⟩
            · rw [if_neg (by unfold MX; exact hm)] at HDA
              have e1 : (q == 9223372036854775807) = false := by simpa using hm
              have HE := Lib.hid HDA
              clear HDA hm
              go_wp2
              go_returns
              exact ⟨bt_ret HE.out.symm, hbw⟩

end Go.Proofs.Ytmnppdkoehdplaa
