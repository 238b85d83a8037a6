/- PeriodOf of the model, and which formulas have a period. -/
import Derived.Test.YtcgolbkpfncgpaaPerM
namespace Go.Proofs.Ytcgolbkpfncgpaa
open Go.RowKit

theorem on_at {v : Int} {L : List AtD} {k : Nat} {y : AtD} (h : L[k]? = some y) (hy : on1 v y = false) : L.all (on1 v) = false := by
  rw [List.all_eq_false]
  exact ⟨y, List.mem_of_getElem? h, by simp [hy]⟩
theorem on_of {v : Int} {L : List AtD} (h : ∀ (i : Nat) (x : AtD), i < L.length → L[i]? = some x → on1 v x = true) : L.all (on1 v) = true := by
  rw [List.all_eq_true]
  intro x hx
  obtain ⟨i, hi, e⟩ := List.mem_iff_getElem.1 hx
  exact h i x hi (by rw [List.getElem?_eq_getElem hi, e])
theorem on_next {v : Int} {L : List AtD} {k : Nat} {y : AtD} (hy : L[k]? = some y) (h1 : on1 v y = true) (h : ∀ (i : Nat) (x : AtD), i < k → L[i]? = some x → on1 v x = true) : ∀ (i : Nat) (x : AtD), i < k + 1 → L[i]? = some x → on1 v x = true := by
  intro i x hi hx
  by_cases hik : i < k
  · exact h i x hik hx
  · obtain rfl : i = k := by omega
    rw [hy] at hx
    obtain rfl := Option.some.inj hx
    exact h1

set_option maxRecDepth 10000 in
set_option maxHeartbeats 1000000 in
theorem specOnes_any (v : Int) (h : FH) (f : Fo) (w : World) (lo : Nat) (s : Value) (hs : FS w lo f s) :
    Calls Try.prog 79 #[.agg #[.int .i64 h.k, .int .i64 h.ak, .int .i64 h.am, .int .i64 h.a, .int .i64 h.b, .int .i64 h.c, .int .i64 h.d, .int .i64 h.n, .int .i64 h.v, s], .int .i64 v] w (BoolT (onB v h f) w) := by
  have HO := Lib.hid (fun W hW => specIsOpen_any h f W lo s (FS.below (w := w) hW (Nat.le_refl _) hs))
  have HG := Lib.hid (fun W hW => specIsNegNormal_any h f W lo s (FS.below (w := w) hW (Nat.le_refl _) hs))
  have HN := Lib.hid (fun W hz hW => l3a_any h f W lo s hz (FS.below (w := w) hW (Nat.le_refl _) hs))
  obtain ⟨sa, sn, sc, rfl⟩ := hs.slice
  clear hs
  go_enter Try.func79, Try.ntmps79
  go_wp2_with fail
  generalize hW : World.alloc _ _ = W
  have hx : C10 W w.heap.size h (.slice sa sn sc) := by subst hW; exact (by refine ⟨?_, ?_, ?_, ?_, ?_, ?_, ?_, ?_, ?_, ?_, ?_⟩ <;> first | (simp [go_sem]; done) | (simp; omega))
  have hw : Below w.heap.size w W := by subst hW; go_grown
  clear hW
  refine (HO.out _ hw).mono ?_
  rintro e w1 ⟨rfl, hb1⟩
  have hw1 := below_on hw hb1
  have hx1 := c10_on hx hb1
  clear hx hw hb1
  cases ho : opB h f with
  | false =>
    go_wp2
    go_ret
    exact ⟨va_bool (by unfold onB; rw [ho]; rfl), hw1⟩
  | true =>
    have hv6 : vfB h f = true := by
      unfold opB at ho
      rw [Bool.and_eq_true] at ho
      exact ho.1
    have hz : f.size ≤ 1000000 := by have := ((vf_cond h f).1 hv6).2; omega
    have HOP := Lib.hid ho
    clear ho hv6
    obtain ⟨x0, c0, c1, c2, c3, c4, c5, c6, c7, c8, c9⟩ := id hx1
    go_wp2_with fail
    refine (HG.out _ hw1).mono ?_
    rintro e w2 ⟨rfl, hb2⟩
    have hw2 := below_on hw1 hb2
    have hx2 := c10_on hx1 hb2
    clear x0 c0 c1 c2 c3 c4 c5 c6 c7 c8 c9 hb2 hx1 hw1
    cases hg : ngB h f with
    | false =>
      go_wp2
      go_ret
      exact ⟨va_bool (by unfold onB; rw [hg, HOP.out]; rfl), hw2⟩
    | true =>
      have HGP := Lib.hid hg
      clear hg
      cases hv : varB v with
      | false =>
        have HV := Lib.hid hv
        clear hv
        go_wp2_with fail
        refine (l1Var_is v false _ HV.out).mono ?_
        rintro e w' ⟨rfl, rfl⟩
        go_wp2
        go_ret
        exact ⟨va_bool (by unfold onB; rw [HGP.out, HOP.out, HV.out]; rfl), hw2⟩
      | true =>
        have HV := Lib.hid hv
        clear hv
        have HR := Lib.hid (show onB v h f = (atF h f).all (on1 v) by unfold onB; rw [HGP.out, HOP.out, HV.out]; rfl)
        obtain ⟨x0, c0, c1, c2, c3, c4, c5, c6, c7, c8, c9⟩ := id hx2
        go_wp2_with fail
        refine (l1Var_is v true _ HV.out).mono ?_
        rintro e w' ⟨rfl, rfl⟩
        go_wp2_with fail
        refine (HN.out _ hz hw2).mono ?_
        rintro e w3 ⟨g, cap, rfl, ho3, hb3⟩
        have hw3 := below_on hw2 hb3
        obtain ⟨L, hL⟩ : ∃ L, atF h f = L := ⟨_, rfl⟩
        have HR3 := Lib.hid (ownA_reads ho3)
        rw [hL] at HR HR3
        rw [hL]
        obtain ⟨n, hn⟩ : ∃ n, L.length = n := ⟨_, rfl⟩
        have HNN := Lib.hid hn
        have hnl : n ≤ 1000001 := by have := atF_len h f; rw [hL, hn] at this; omega
        rw [hn] at HR3 ⊢
        clear ho3 hb3 x0 c0 c1 c2 c3 c4 c5 c6 c7 c8 c9 hx2 hw2 hn hL hz
        go_wp2_with fail
        go_loopw [6] (fun i wr => ∃ k : Nat, i = .int .i64 k ∧ k ≤ n ∧ Below w3.heap.size w3 wr ∧ ∀ (i : Nat) (x : AtD), i < k → L[i]? = some x → on1 v x = true) (fun i _ => n - (intOf i).toNat)
        case atStart => exact ⟨0, rfl, Nat.zero_le _, Below.refl _ _, fun i x h0 => absurd h0 (by omega)⟩
        case round =>
          obtain ⟨k, rfl, hk, hbw, hall⟩ := hrel
          have HA := Lib.hid hall
          have HB := Lib.hid (below_on hw3 hbw)
          clear hall
          by_cases hlt : k < n
          · have hk' : (k : Int) < (n : Int) := by omega
            obtain ⟨y, hy⟩ : ∃ y, L[k]? = some y := ⟨_, List.getElem?_eq_getElem (by rw [HNN.out]; exact hlt)⟩
            have HY := Lib.hid hy
            obtain ⟨sp, cp, e, hc⟩ := HR3.out
            injection e with e1 e2 e3
            subst e1 e3
            obtain ⟨b, e, hbl, hcell⟩ := hc.resolve_left (by rw [HNN.out]; omega)
            injection e with e
            injection e with e
            subst e
            have f : ∀ o, wr.cell? ⟨g, o, none⟩ = w3.cell? ⟨g, o, none⟩ := fun o => hbw.cell (p := ⟨g, o, none⟩) hbl
            have r1 : ARow wr g (k * 7) y := by have := hcell k y hy; simpa only [ARow, f] using this
            obtain ⟨c0, c1, c2, c3, c4, c5, c6⟩ := r1
            have HBW := Lib.hid hbw
            clear hcell f hy hbw hc e2
            obtain ⟨q, hq⟩ : ∃ q, sel y.a y.b y.c y.d v 0 = q := ⟨_, rfl⟩
            have HQ := Lib.hid hq
            have HC := Lib.hid fun W => specCoefOf_any y.a y.b y.c y.d y.n v W
            rw [hq] at HC
            clear hq
            by_cases h1 : y.k = 1
            · have e1 : (y.k == 1) = true := by simpa using h1
              have HF := Lib.hid (show on1 v y = false by unfold on1; rw [e1]; rfl)
              clear h1
              go_wp2
              go_ret
              exact ⟨va_bool (by rw [HR.out, on_at HY.out HF.out]), HB.out⟩
            · have e1 : (y.k == 1) = false := by simpa using h1
              clear h1
              obtain ⟨t, ht⟩ : ∃ t, inB q (-1) 1 = t := ⟨_, rfl⟩
              have HT := Lib.hid ht
              have HF := Lib.hid (show on1 v y = t by unfold on1 cfA; rw [e1, HQ.out, ht]; rfl)
              clear ht
              go_wp2_with fail
              refine (HC.out _).mono ?_
              rintro e w4 ⟨rfl, hb4⟩
              have HB4 := Lib.hid (below_on HB.out hb4)
              have HBW4 := Lib.hid (below_on HBW.out hb4)
              clear c0 c1 c2 c3 c4 c5 c6 hb4
              go_wp2_with fail
              refine (l1In_is _ _ _ t _ HT.out).mono ?_
              rintro e w' ⟨rfl, rfl⟩
              cases t with
              | false =>
                go_wp2
                go_ret
                exact ⟨va_bool (by rw [HR.out, on_at HY.out HF.out]), HB4.out⟩
              | true =>
                go_wp2
                go_roundw
                case rel => exact ⟨k + 1, by go_num, by omega, HBW4.out, on_next HY.out HF.out HA.out⟩
                case measure => simp [intOf]; omega
          · have hk' : ¬ (k : Int) < (n : Int) := by omega
            obtain rfl : k = n := by omega
            clear hbw
            go_wp2
            go_ret
            exact ⟨va_bool (by rw [HR.out, on_of (fun i x h1 h2 => HA.out i x (by rw [← HNN.out]; exact h1) h2)]), HB.out⟩

theorem l6Lcm_any (n m : Int) (w : World) (n0 : 1 ≤ n) (n1 : n ≤ 60) (m0 : 1 ≤ m) (m1 : m ≤ 100) :
    Calls Try.prog 125 #[.int .i64 n, .int .i64 m] w fun e w' => e = .returned (.int .i64 (pdS n m)) ∧ w = w' := by
  obtain ⟨g, q, p, hg, g0, g1, hq, hq', q0, q1, hp, hnp, hnp', hnq, hnq0⟩ := lcm_parts (n := n) (x := m) (by omega) (by omega)
  have hpb := mul_bd (a := n) (x := q) (A := 60) (X := 100) (by omega) (by omega) (by omega) (by omega) (by omega)
  rw [hp] at hpb
  obtain ⟨p0, p1⟩ := hpb
  obtain ⟨u, hu⟩ : ∃ u, n.tdiv g = u := ⟨_, rfl⟩
  rw [hu] at hnp hnq hnq0
  have hgz : ¬ g = 0 := by omega
  have hwu : IntKind.i64.wrap u = u := by rw [IntKind.wrap_i64]; omega
  have hwp : IntKind.i64.wrap p = p := by rw [IntKind.wrap_i64]; omega
  have HG := Lib.hid fun W => l1Gcd_any n m W (by omega) (by omega) (by omega) (by omega)
  rw [hg] at HG
  have HE := Lib.hid (show pdS n m = if p ≤ 60 then p else 61 by unfold pdS; rw [hg, hq', hp])
  clear hg hq' hp
  by_cases h6 : p ≤ 60
  · have HE2 := Lib.hid (show pdS n m = p by rw [HE.out, if_pos h6])
    go_enter Try.func125, Try.ntmps125
    go_wp2_with fail
    refine (HG.out _).mono ?_
    rintro e w' ⟨rfl, rfl⟩
    go_wp2
    all_goals
      go_ret
      exact ⟨ret_int (by rw [HE2.out] <;> omega), rfl⟩
  · have HE2 := Lib.hid (show pdS n m = 61 by rw [HE.out, if_neg h6])
    go_enter Try.func125, Try.ntmps125
    go_wp2_with fail
    refine (HG.out _).mono ?_
    rintro e w' ⟨rfl, rfl⟩
    go_wp2
    all_goals
      go_ret
      exact ⟨ret_int (by rw [HE2.out] <;> omega), rfl⟩

theorem pdL_cons (n x : Int) (r : List Int) : pdL n (x :: r) = pdL (if n ≤ 60 then pdS n x else n) r := rfl
/-- The model's walk through the atoms. -/
def pmS (v : Int) (L : List AtD) : List Int := (L.filter (fun x => decide (2 ≤ x.k) && !(cfA v x == 0))).map (·.m)
theorem pms_pm {v : Int} {L : List AtD} (ha : ∀ x ∈ L, avZ x = true) (h1 : L.all (on1 v) = true) : pmS v L = pmL v L := by
  unfold pmS pmL
  congr 1
  apply List.filter_congr
  intro x hx
  congr 1
  cases h0 : x.k == 0 with
  | true =>
    have : x.k = 0 := by simpa using h0
    rw [this]; rfl
  | false =>
    have := (av_mod (ha x hx) (List.all_eq_true.1 h1 x hx) h0).1
    simp [this]
theorem pds_in {n x : Int} (n0 : 1 ≤ n) (n1 : n ≤ 60) (m0 : 1 ≤ x) (m1 : x ≤ 100) : 1 ≤ pdS n x ∧ pdS n x ≤ 61 := by
  obtain ⟨g, q, p, hg, g0, g1, hq, hq', q0, q1, hp, hnp, hnp', hnq, hnq0⟩ := lcm_parts (n := n) (x := x) (by omega) (by omega)
  unfold pdS
  rw [hg, hq', hp]
  split <;> omega

def PsR (v : Int) (L : List AtD) (B : Nat) (w : World) (m i : Value) (wr : World) : Prop :=
  ∃ (k : Nat) (n : Int), i = .int .i64 k ∧ m = .int .i64 n ∧ k ≤ L.length ∧ 1 ≤ n ∧ n ≤ 61 ∧ pdL n (pmS v (L.drop k)) = pdL 1 (pmS v L) ∧ Below B w wr

theorem ps_yes {v : Int} {L : List AtD} {k : Nat} {y : AtD} (hy : L[k]? = some y) (h2 : decide (2 ≤ y.k) = true) (hc : (cfA v y == 0) = false) : pmS v (L.drop k) = y.m :: pmS v (L.drop (k + 1)) := by
  have hlt := (List.getElem?_eq_some_iff.1 hy).1
  rw [List.drop_eq_getElem_cons hlt, (List.getElem?_eq_some_iff.1 hy).2]
  have h2' : 2 ≤ y.k := by simpa using h2
  have hc' : ¬ cfA v y = 0 := by simpa using hc
  simp [pmS, h2', hc']
theorem ps_no {v : Int} {L : List AtD} {k : Nat} {y : AtD} (hy : L[k]? = some y) (h : decide (2 ≤ y.k) = false ∨ (cfA v y == 0) = true) : pmS v (L.drop k) = pmS v (L.drop (k + 1)) := by
  have hlt := (List.getElem?_eq_some_iff.1 hy).1
  rw [List.drop_eq_getElem_cons hlt, (List.getElem?_eq_some_iff.1 hy).2]
  have e : (decide (2 ≤ y.k) && !(cfA v y == 0)) = false := by rcases h with h | h <;> rw [h] <;> simp
  unfold pmS
  rw [List.filter_cons_of_neg (by rw [e]; decide)]

set_option maxRecDepth 10000 in
set_option maxHeartbeats 1000000 in
theorem specPeriod_any (v : Int) (h : FH) (f : Fo) (w : World) (lo : Nat) (s : Value) (hs : FS w lo f s) (hz : f.size ≤ 1000000) (hm : ∀ x ∈ atF h f, 2 ≤ x.k → 1 ≤ x.m ∧ x.m ≤ 100) :
    Calls Try.prog 84 #[.agg #[.int .i64 h.k, .int .i64 h.ak, .int .i64 h.am, .int .i64 h.a, .int .i64 h.b, .int .i64 h.c, .int .i64 h.d, .int .i64 h.n, .int .i64 h.v, s], .int .i64 v] w (IntT (pdL 1 (pmS v (atF h f))) w) := by
  have HN := Lib.hid (fun W hW => l3a_any h f W lo s hz (FS.below (w := w) hW (Nat.le_refl _) hs))
  obtain ⟨sa, sn, sc, rfl⟩ := hs.slice
  have HM := Lib.hid hm
  clear hs hm
  go_enter Try.func84, Try.ntmps84
  go_wp2_with fail
  generalize hW : World.alloc _ _ = W
  have hw : Below w.heap.size w W := by subst hW; go_grown
  clear hW
  refine (HN.out _ hw).mono ?_
  rintro e w3 ⟨g, cap, rfl, ho3, hb3⟩
  have hw3 := below_on hw hb3
  obtain ⟨L, hL⟩ : ∃ L, atF h f = L := ⟨_, rfl⟩
  have HR3 := Lib.hid (ownA_reads ho3)
  have HLE := Lib.hid hL
  rw [hL] at HR3 HM
  rw [hL]
  obtain ⟨n, hn⟩ : ∃ n, L.length = n := ⟨_, rfl⟩
  have HNN := Lib.hid hn
  have hnl : n ≤ 1000001 := by have := atF_len h f; rw [hL, hn] at this; omega
  rw [hn] at HR3 ⊢
  clear ho3 hb3 hw hn hL hz
  go_wp2_with fail
  go_loopw [5, 7] (fun m i wr => PsR v L w3.heap.size w3 m i wr) (fun _ i _ => n - (intOf i).toNat)
  case atStart => exact ⟨0, 1, rfl, rfl, Nat.zero_le _, by omega, by omega, by rw [List.drop_zero], Below.refl _ _⟩
  case round =>
    obtain ⟨k, m, rfl, rfl, hk, m0, m1, hl, hbw⟩ := hrel
    rw [HNN.out] at hk
    have HB := Lib.hid (below_on hw3 hbw)
    have HL := Lib.hid hl
    clear hl
    by_cases hlt : k < n
    · have hk' : (k : Int) < (n : Int) := by omega
      obtain ⟨y, hy⟩ : ∃ y, L[k]? = some y := ⟨_, List.getElem?_eq_getElem (by rw [HNN.out]; exact hlt)⟩
      have HY := Lib.hid hy
      obtain ⟨sp, cp, e, hc⟩ := HR3.out
      injection e with e1 e2 e3
      subst e1 e3
      obtain ⟨b, e, hbl, hcell⟩ := hc.resolve_left (by rw [HNN.out]; omega)
      injection e with e
      injection e with e
      subst e
      have f : ∀ o, wr.cell? ⟨g, o, none⟩ = w3.cell? ⟨g, o, none⟩ := fun o => hbw.cell (p := ⟨g, o, none⟩) hbl
      have r1 : ARow wr g (k * 7) y := by have := hcell k y hy; simpa only [ARow, f] using this
      obtain ⟨c0, c1, c2, c3, c4, c5, c6⟩ := r1
      have HBW := Lib.hid hbw
      have HMY := Lib.hid (HM.out y (List.mem_of_getElem? hy))
      clear hcell f hy hbw hc e2
      obtain ⟨q, hq⟩ : ∃ q, sel y.a y.b y.c y.d v 0 = q := ⟨_, rfl⟩
      have HQ := Lib.hid hq
      have HC := Lib.hid fun W => specCoefOf_any y.a y.b y.c y.d y.n v W
      rw [hq] at HC
      clear hq
      cases h2 : decide (2 ≤ y.k) with
      | false =>
        have HE := Lib.hid (ps_no (v := v) HY.out (.inl h2))
        go_wp2
        go_roundw
        case rel => exact ⟨k + 1, m, by go_num, rfl, by rw [HNN.out]; omega, m0, m1, by rw [← HE.out]; exact HL.out, HBW.out⟩
        case measure => simp [intOf]; omega
      | true =>
        have h2' : 2 ≤ y.k := by simpa using h2
        have hmm := HMY.out h2'
        clear h2'
        go_wp2_with fail
        refine (HC.out _).mono ?_
        rintro e w4 ⟨rfl, hb4⟩
        have HBW4 := Lib.hid (below_on HBW.out hb4)
        have hgw : g < wr.heap.size := Nat.lt_of_lt_of_le hbl HBW.out.size
        have f : ∀ o, w4.cell? ⟨g, o, none⟩ = wr.cell? ⟨g, o, none⟩ := fun o => hb4.cell (p := ⟨g, o, none⟩) hgw
        have d1 := (f (k * 7 + 1)).trans c1
        clear c0 c1 c2 c3 c4 c5 c6 f hb4
        cases h0 : q == 0 with
        | true =>
          have hn0 : (q != 0) = false := by simpa using h0
          have HE := Lib.hid (ps_no (v := v) HY.out (.inr (show (cfA v y == 0) = true by unfold cfA; rw [HQ.out]; exact h0)))
          go_wp2
          go_roundw
          case rel => exact ⟨k + 1, m, by go_num, rfl, by rw [HNN.out]; omega, m0, m1, by rw [← HE.out]; exact HL.out, HBW4.out⟩
          case measure => simp [intOf]; omega
        | false =>
          have hn0 : (q != 0) = true := by simpa using h0
          have HE := Lib.hid (ps_yes (v := v) HY.out h2 (show (cfA v y == 0) = false by unfold cfA; rw [HQ.out]; exact h0))
          by_cases h6 : m ≤ 60
          · have HLC := Lib.hid fun W => l6Lcm_any m y.m W m0 h6 hmm.1 hmm.2
            have HPD := Lib.hid (pds_in m0 h6 hmm.1 hmm.2)
            obtain ⟨z, hz⟩ : ∃ z, pdS m y.m = z := ⟨_, rfl⟩
            have HLL := Lib.hid (show pdL z (pmS v (L.drop (k + 1))) = pdL 1 (pmS v L) by have := HL.out; rw [HE.out, pdL_cons, if_pos h6, hz] at this; exact this)
            rw [hz] at HLC HPD
            clear hz
            go_wp2_with fail
            refine (HLC.out _).mono ?_
            rintro e w' ⟨rfl, rfl⟩
            go_wp2
            go_roundw
            case rel => exact ⟨k + 1, z, by go_num, rfl, by rw [HNN.out]; omega, HPD.out.1, HPD.out.2, HLL.out, HBW4.out⟩
            case measure => simp [intOf]; omega
          · have HLL := Lib.hid (show pdL m (pmS v (L.drop (k + 1))) = pdL 1 (pmS v L) by have := HL.out; rw [HE.out, pdL_cons, if_neg h6] at this; exact this)
            go_wp2
            go_roundw
            case rel => exact ⟨k + 1, m, by go_num, rfl, by rw [HNN.out]; omega, m0, m1, HLL.out, HBW4.out⟩
            case measure => simp [intOf]; omega
    · have hk' : ¬ (k : Int) < (n : Int) := by omega
      obtain rfl : k = n := by omega
      have HF := Lib.hid (show m = pdL 1 (pmS v L) by have := HL.out; rw [← HNN.out, List.drop_length] at this; exact this)
      clear hbw
      go_wp2
      go_ret
      exact ⟨ret_int (by rw [HLE.out]; exact HF.out), HB.out⟩

set_option maxRecDepth 10000 in
set_option maxHeartbeats 1000000 in
theorem specPeriodOf_any (v : Int) (h : FH) (f : Fo) (w : World) (lo : Nat) (s : Value) (hs : FS w lo f s) :
    Calls Try.prog 36 #[.agg #[.int .i64 h.k, .int .i64 h.ak, .int .i64 h.am, .int .i64 h.a, .int .i64 h.b, .int .i64 h.c, .int .i64 h.d, .int .i64 h.n, .int .i64 h.v, s], .int .i64 v] w (IntT (perI v h f) w) := by
  have HO := Lib.hid (fun W hW => specOnes_any v h f W lo s (FS.below (w := w) hW (Nat.le_refl _) hs))
  have HP := Lib.hid (fun W hW hz hm => specPeriod_any v h f W lo s (FS.below (w := w) hW (Nat.le_refl _) hs) hz hm)
  obtain ⟨sa, sn, sc, rfl⟩ := hs.slice
  clear hs
  cases ho : onB v h f with
  | false =>
    have HI := Lib.hid (show perI v h f = -1 by unfold perI; rw [if_neg (by rw [ho]; decide)])
    rw [ho] at HO
    clear ho
    go_enter Try.func36, Try.ntmps36
    go_wp2_with fail
    refine (HO.out _ (by go_grown)).mono ?_
    rintro e w1 ⟨rfl, hb1⟩
    go_wp2
    go_ret
    exact ⟨ret_int HI.out.symm, below_on (by go_grown) hb1⟩
  | true =>
    obtain ⟨hv, _, ha⟩ := on_parts ho
    have hav := atF_valid hv
    have hz : f.size ≤ 1000000 := by have := (vf_parts hv).2.2; omega
    have hm : ∀ x ∈ atF h f, 2 ≤ x.k → 1 ≤ x.m ∧ x.m ≤ 100 := fun x hx h2 => (av_mod (hav x hx) (List.all_eq_true.1 ha x hx) (by simp; omega)).2
    obtain ⟨p, hp⟩ : ∃ p, pdL 1 (pmS v (atF h f)) = p := ⟨_, rfl⟩
    have HPP := Lib.hid (fun W hW => HP.out W hW hz hm)
    rw [hp] at HPP
    have HI := Lib.hid (show perI v h f = prI p by unfold perI; rw [if_pos ho, ← pms_pm hav ha, hp])
    rw [ho] at HO
    clear ho hv ha hav hz hm hp HP
    by_cases h6 : 60 < p
    · have HF := Lib.hid (show perI v h f = -1 by rw [HI.out]; unfold prI; rw [if_pos h6])
      go_enter Try.func36, Try.ntmps36
      go_wp2_with fail
      generalize hW : World.alloc _ _ = W
      have hx : C10 W w.heap.size h (.slice sa sn sc) := by subst hW; exact (by refine ⟨?_, ?_, ?_, ?_, ?_, ?_, ?_, ?_, ?_, ?_, ?_⟩ <;> first | (simp [go_sem]; done) | (simp; omega))
      have hw : Below w.heap.size w W := by subst hW; go_grown
      clear hW
      refine (HO.out _ hw).mono ?_
      rintro e w1 ⟨rfl, hb1⟩
      have hw1 := below_on hw hb1
      obtain ⟨x0, c0, c1, c2, c3, c4, c5, c6, c7, c8, c9⟩ := c10_on hx hb1
      go_wp2_with fail
      refine (HPP.out _ hw1).mono ?_
      rintro e w2 ⟨rfl, hb2⟩
      have hw2 := below_on hw1 hb2
      clear x0 c0 c1 c2 c3 c4 c5 c6 c7 c8 c9
      go_wp2
      go_ret
      exact ⟨ret_int HF.out.symm, hw2⟩
    · have HF := Lib.hid (show perI v h f = p by rw [HI.out]; unfold prI; rw [if_neg h6])
      go_enter Try.func36, Try.ntmps36
      go_wp2_with fail
      generalize hW : World.alloc _ _ = W
      have hx : C10 W w.heap.size h (.slice sa sn sc) := by subst hW; exact (by refine ⟨?_, ?_, ?_, ?_, ?_, ?_, ?_, ?_, ?_, ?_, ?_⟩ <;> first | (simp [go_sem]; done) | (simp; omega))
      have hw : Below w.heap.size w W := by subst hW; go_grown
      clear hW
      refine (HO.out _ hw).mono ?_
      rintro e w1 ⟨rfl, hb1⟩
      have hw1 := below_on hw hb1
      have hx1 := c10_on hx hb1
      obtain ⟨x0, c0, c1, c2, c3, c4, c5, c6, c7, c8, c9⟩ := id hx1
      go_wp2_with fail
      refine (HPP.out _ hw1).mono ?_
      rintro e w2 ⟨rfl, hb2⟩
      have hw2 := below_on hw1 hb2
      clear x0 c0 c1 c2 c3 c4 c5 c6 c7 c8 c9
      obtain ⟨x0, c0, c1, c2, c3, c4, c5, c6, c7, c8, c9⟩ := c10_on hx1 hb2
      go_wp2_with fail
      refine (HPP.out _ hw2).mono ?_
      rintro e w3 ⟨rfl, hb3⟩
      have hw3 := below_on hw2 hb3
      clear x0 c0 c1 c2 c3 c4 c5 c6 c7 c8 c9
      go_wp2
      go_ret
      exact ⟨ret_int HF.out.symm, hw3⟩

end Go.Proofs.Ytcgolbkpfncgpaa
