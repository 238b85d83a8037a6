/- The model's first solutions and counts. -/
import Derived.Test.YtjhfmlbnpdnddaaNbT
namespace Go.Proofs.Ytjhfmlbnpdnddaa
open Go.RowKit

def smB (a b c : Int) : Bool := wlB a 100 && wlB b 100 && wlB c 10000

theorem l5Small_any (a b c : Int) (w : World) :
    Calls Try.prog 93 #[.int .i64 a, .int .i64 b, .int .i64 c] w fun e w' => e = .returned (.bool (smB a b c)) ∧ w = w' := by
  have h1 : inB a (-100) 100 = wlB a 100 := rfl
  have h2 : inB b (-100) 100 = wlB b 100 := rfl
  have h3 : inB c (-10000) 10000 = wlB c 10000 := rfl
  have HS := Lib.hid (show smB a b c = (wlB a 100 && wlB b 100 && wlB c 10000) from rfl)
  rcases ha : wlB a 100 with _ | _
  · go_enter Try.func93, Try.ntmps93
    go_wp2_with (go_at_call 65; refine (l1In_any _ _ _ _).mono ?_; rintro e w' ⟨rfl, rfl⟩)
    go_returns
    exact ⟨ret_bool (by rw [HS.out, ha]; rfl), rfl⟩
  rcases hb : wlB b 100 with _ | _
  · go_enter Try.func93, Try.ntmps93
    go_wp2_with (go_at_call 65; refine (l1In_any _ _ _ _).mono ?_; rintro e w' ⟨rfl, rfl⟩)
    go_returns
    exact ⟨ret_bool (by rw [HS.out, ha, hb]; rfl), rfl⟩
  rcases hc : wlB c 10000 with _ | _
  · go_enter Try.func93, Try.ntmps93
    go_wp2_with (go_at_call 65; refine (l1In_any _ _ _ _).mono ?_; rintro e w' ⟨rfl, rfl⟩)
    go_returns
    exact ⟨ret_bool (by rw [HS.out, ha, hb, hc]; rfl), rfl⟩
  go_enter Try.func93, Try.ntmps93
  go_wp2_with (go_at_call 65; refine (l1In_any _ _ _ _).mono ?_; rintro e w' ⟨rfl, rfl⟩)
  go_returns
  exact ⟨ret_bool (by rw [HS.out, ha, hb, hc]; rfl), rfl⟩

def LsR (a b c : Int) (w : World) (x : Value) (wr : World) : Prop := ∃ k : Nat, x = .int .i64 k ∧ k ≤ 20001 ∧ (∀ u v : Int, 0 ≤ u → u < k → 0 ≤ v → a * u + b * v ≠ c) ∧ Below w.heap.size w wr

set_option maxHeartbeats 1000000 in
theorem specLeast_any (a b c : Int) (w : World) :
    Calls Try.prog 50 #[.int .i64 a, .int .i64 b, .int .i64 c] w fun e w' => e = .returned (T3 (lsT a b c)) ∧ Below w.heap.size w w' := by
  rcases hs : smB a b c with _ | _
  · have e : lsT a b c = (0, 0, false) := by unfold lsT; rw [if_neg (by unfold smB at hs; rw [hs]; simp)]
    rw [e]
    go_enter Try.func50, Try.ntmps50
    go_wp2_with (go_at_call 93; refine (l5Small_any _ _ _ _).mono ?_; rintro e w' ⟨rfl, rfl⟩)
    go_returns
    exact ⟨rfl, Below.refl _ _⟩
  have HV := Lib.hid (show lsT a b c = lsV a b c from by unfold lsT; rw [if_pos (by unfold smB at hs; rw [hs])])
  have hb3 : (-100 ≤ a ∧ a ≤ 100) ∧ (-100 ≤ b ∧ b ≤ 100) ∧ (-10000 ≤ c ∧ c ≤ 10000) := by
    simp only [smB, Bool.and_eq_true] at hs
    exact ⟨wl_yes hs.1.1, wl_yes hs.1.2, wl_yes hs.2⟩
  have HB := Lib.hid hb3
  obtain ⟨⟨a0, a1⟩, ⟨b0, b1⟩, ⟨c0, c1⟩⟩ := hb3
  rw [HV.out]
  go_enter Try.func50, Try.ntmps50
  go_wp2_with (go_at_call 93; refine (l5Small_any _ _ _ _).mono ?_; rintro e w' ⟨rfl, rfl⟩)
  go_loopw [9] (fun x wr => LsR a b c w x wr) (fun x _ => 20001 - (intOf x).toNat)
  case atStart => exact ⟨0, rfl, by omega, fun u v hu hx => by omega, Below.refl _ _⟩
  case round =>
    obtain ⟨k, rfl, hk, hno, hB⟩ := hrel
    have HN := Lib.hid hno
    clear hno
    by_cases hk1 : k = 20001
    · subst hk1
      have HZ := Lib.hid (show lsV a b c = (0, 0, false) from lsV_no (none_all HB.out.1 HB.out.2.1 HB.out.2.2 HN.out))
      go_wp2
      go_returns
      exact ⟨by rw [HZ.out]; rfl, hB⟩
    · have hk2 : k ≤ 20000 := by omega
      obtain ⟨p, hp⟩ : ∃ p, a * (k : Int) = p := ⟨_, rfl⟩
      have hpb := mul_bd (a := a) (x := k) (A := 100) (X := 20000) a0 a1 (by omega) (by omega) (by omega)
      rw [hp] at hpb
      obtain ⟨p0, p1⟩ := hpb
      have hwp : IntKind.i64.wrap p = p := by rw [IntKind.wrap_i64]; omega
      have hwr : IntKind.i64.wrap (c - p) = c - p := by rw [IntKind.wrap_i64]; omega
      obtain ⟨r, hr⟩ : ∃ r, c - p = r := ⟨_, rfl⟩
      have hr0 : -2010000 ≤ r ∧ r ≤ 2010000 := by omega
      rw [hr] at hwr
      obtain ⟨r0, r1⟩ := hr0
      have hwrr : IntKind.i64.wrap r = r := by rw [IntKind.wrap_i64]; omega
      by_cases hb0 : b = 0
      · subst hb0
        by_cases hrz : r = 0
        · subst hrz
          have HZ := Lib.hid (show lsV a 0 c = ((k : Int), 0, true) from lsV_yes (least_found HN.out (by omega) (by rw [hp]; omega) (fun v hv _ => hv)))
          go_wp2
          go_returns
          exact ⟨by rw [HZ.out]; rfl, hB⟩
        · have HN2 := Lib.hid (none_next HN.out (fun v hv e => hrz (by rw [hp] at e; omega)))
          clear HN
          go_wp2
          go_roundw
          case rel => exact ⟨k + 1, by go_num, by omega, HN2.out, hB⟩
          case measure => simp [intOf]; omega
      · obtain ⟨t, ht⟩ : ∃ t, r.tmod b = t := ⟨_, rfl⟩
        have htb : -100 ≤ t ∧ t ≤ 100 := by
          have := (tmod_bd (a := r) (b := b) (M := 100) hb0 (by omega) (by omega))
          omega
        obtain ⟨t0, t1⟩ := htb
        have hqb : (b == 0) = false := by simpa using hb0
        by_cases htz : t = 0
        · have hdv : b ∣ r := Int.dvd_of_tmod_eq_zero (by rw [ht, htz])
          have hbm := Int.mul_tdiv_cancel' hdv
          obtain ⟨q, hq⟩ : ∃ q, r.tdiv b = q := ⟨_, rfl⟩
          have hqa := tdiv_le r b
          rw [hq] at hbm hqa
          have hwq : IntKind.i64.wrap q = q := by rw [IntKind.wrap_i64]; omega
          subst htz
          by_cases hq0 : 0 ≤ q
          · have HZ := Lib.hid (show lsV a b c = ((k : Int), q, true) from lsV_yes (least_found HN.out hq0 (by rw [hp]; omega) (fun v hv e => by
              have : b * v = b * q := by rw [hp] at e; omega
              have := Int.eq_of_mul_eq_mul_left hb0 this
              omega)))
            clear hdv hbm hqa HN
            go_wp2
            go_quiet (fail)
            go_wp2
            go_returns
            exact ⟨by rw [HZ.out]; rfl, below_on hB (below_dq _ _)⟩
          · have HN2 := Lib.hid (none_next HN.out (fun v hv e => hq0 (by
              have : b * v = b * q := by rw [hp] at e; omega
              have := Int.eq_of_mul_eq_mul_left hb0 this
              omega)))
            clear HN hdv hbm hqa
            go_wp2
            go_roundw
            case rel => exact ⟨k + 1, by go_num, by omega, HN2.out, hB⟩
            case measure => simp [intOf]; omega
        · have HN2 := Lib.hid (none_next HN.out (fun v hv e => htz (by
            rw [← ht, ← hr]
            refine Int.tmod_eq_zero_of_dvd ⟨v, ?_⟩
            rw [hp] at e
            omega)))
          clear HN
          go_wp2
          go_roundw
          case rel => exact ⟨k + 1, by go_num, by omega, HN2.out, hB⟩
          case measure => simp [intOf]; omega

set_option maxHeartbeats 1000000 in
theorem specCount_any (a b c : Int) (w : World) :
    Calls Try.prog 53 #[.int .i64 a, .int .i64 b, .int .i64 c] w fun e w' => e = .returned (.int .i64 (cntT a b c)) ∧ w = w' := by
  rcases hs : smB a b c with _ | _
  · have e : cntT a b c = -1 := by
      unfold cntT
      rw [if_neg]
      intro h
      simp only [Bool.and_eq_true] at h
      have h1 := pcB_yes h.1.1
      have h2 := pcB_yes h.1.2
      have : smB a b c = true := by
        simp only [smB, Bool.and_eq_true]
        exact ⟨⟨by simp [wlB]; omega, by simp [wlB]; omega⟩, h.2⟩
      rw [hs] at this
      exact Bool.noConfusion this
    rw [e]
    go_enter Try.func53, Try.ntmps53
    go_wp2_with (go_at_call 93; refine (l5Small_any _ _ _ _).mono ?_; rintro e w' ⟨rfl, rfl⟩)
    go_returns
    exact ⟨rfl, rfl⟩
  have hb3 : (-100 ≤ a ∧ a ≤ 100) ∧ (-100 ≤ b ∧ b ≤ 100) ∧ (-10000 ≤ c ∧ c ≤ 10000) := by
    simp only [smB, Bool.and_eq_true] at hs
    exact ⟨wl_yes hs.1.1, wl_yes hs.1.2, wl_yes hs.2⟩
  have hwc : wlB c 10000 = true := by simp only [smB, Bool.and_eq_true] at hs; exact hs.2
  obtain ⟨⟨a0, a1⟩, ⟨b0, b1⟩, ⟨c0, c1⟩⟩ := hb3
  by_cases ha : a < 1
  · have e : cntT a b c = -1 := by
      unfold cntT
      rw [if_neg]
      intro h
      simp only [Bool.and_eq_true] at h
      have h1 := pcB_yes h.1.1
      omega
    rw [e]
    go_enter Try.func53, Try.ntmps53
    go_wp2_with (go_at_call 93; refine (l5Small_any _ _ _ _).mono ?_; rintro e w' ⟨rfl, rfl⟩)
    go_returns
    exact ⟨rfl, rfl⟩
  by_cases hb : b < 1
  · have e : cntT a b c = -1 := by
      unfold cntT
      rw [if_neg]
      intro h
      simp only [Bool.and_eq_true] at h
      have h1 := pcB_yes h.1.2
      omega
    rw [e]
    go_enter Try.func53, Try.ntmps53
    go_wp2_with (go_at_call 93; refine (l5Small_any _ _ _ _).mono ?_; rintro e w' ⟨rfl, rfl⟩)
    go_returns
    exact ⟨rfl, rfl⟩
  have ha1 : 1 ≤ a := by omega
  have hb1 : 1 ≤ b := by omega
  have hqa : decide (a < 1) = false := by simp; omega
  have hqb : decide (b < 1) = false := by simp; omega
  have e : cntT a b c = (cntV a b c : Nat) := by unfold cntT; rw [if_pos (by simp only [Bool.and_eq_true]; exact ⟨⟨by simp [pcB, inB]; omega, by simp [pcB, inB]; omega⟩, hwc⟩)]
  rw [e]
  clear ha hb
  by_cases hcn : 0 ≤ c
  · have hq0 : 0 ≤ c / a := Int.ediv_nonneg hcn (by omega)
    have hq1 : c / a ≤ 10000 := Int.le_trans (Int.ediv_le_self _ hcn) c1
    have HV := Lib.hid (cntV_eq (a := a) (b := b) hcn)
    have hle : ∀ i : Int, a * i ≤ c ↔ i ≤ c / a := fun i => by rw [Int.le_ediv_iff_mul_le (by omega), Int.mul_comm]
    obtain ⟨N, hN⟩ : ∃ N : Nat, c / a = N := ⟨(c / a).toNat, by omega⟩
    rw [hN] at HV hle hq1
    simp only [Int.toNat_natCast] at HV
    have HLE := Lib.hid hle
    have hN1 : N ≤ 10000 := by omega
    clear e hN hq0 hle hq1
    go_enter Try.func53, Try.ntmps53
    go_wp2_with (go_at_call 93; refine (l5Small_any _ _ _ _).mono ?_; rintro e w' ⟨rfl, rfl⟩)
    go_loopw [7, 8] (fun x y wr => CnR a b c (N + 1) w x y wr) (fun _ y _ => N + 1 - (intOf y).toNat)
    case atStart => exact ⟨0, rfl, rfl, by omega, rfl⟩
    case round =>
      obtain ⟨k, rfl, rfl, hk, rfl⟩ := hrel
      have hcp := cntP_le (cP a b c) k
      obtain ⟨p, hp⟩ : ∃ p, a * (k : Int) = p := ⟨_, rfl⟩
      have hpb := mul_bd (a := a) (x := k) (A := 100) (X := 10001) a0 a1 (by omega) (by omega) (by omega)
      have hpk := HLE.out k
      rw [hp] at hpb hpk
      obtain ⟨p0, p1⟩ := hpb
      have hwp : IntKind.i64.wrap p = p := by rw [IntKind.wrap_i64]; omega
      by_cases hkN : k = N + 1
      · have hpc : decide (p ≤ c) = false := by simp; omega
        have HF := Lib.hid (show ((cntP (cP a b c) k : Nat) : Int) = (cntV a b c : Nat) from by rw [HV.out, hkN])
        clear HV HLE hpk hkN
        generalize cntP (cP a b c) k = n at *
        go_wp2
        go_returns
        exact ⟨ret_int HF.out, rfl⟩
      · have hkq : k ≤ N := by omega
        have hpc0 : p ≤ c := by omega
        have hpc : decide (p ≤ c) = true := by simp; omega
        have htb := tmod_small (n := c - p) (d := b) (by omega)
        obtain ⟨t, ht⟩ : ∃ t, (c - p).tmod b = t := ⟨_, rfl⟩
        rw [ht] at htb
        obtain ⟨t0, t1⟩ := htb
        have hbz : ¬ b = 0 := by omega
        by_cases htz : t = 0
        · have hP : cP a b c k = true := by
            simp only [cP, decide_eq_true_eq]
            rw [hp]
            exact Int.dvd_of_tmod_eq_zero (by rw [ht, htz])
          have HN := Lib.hid (cntP_yes hP)
          subst htz
          clear hP HV HLE hpk
          generalize cntP (cP a b c) k = n at *
          go_wp2
          go_roundw
          case rel => exact ⟨k + 1, by rw [HN.out]; go_num, by go_num, by omega, rfl⟩
          case measure => simp [intOf]; omega
        · have hP : cP a b c k = false := by
            simp only [cP, decide_eq_false_iff_not]
            rw [hp]
            exact fun h => htz (by rw [← ht]; exact Int.tmod_eq_zero_of_dvd h)
          have HN := Lib.hid (cntP_no hP)
          clear hP HV HLE hpk
          generalize cntP (cP a b c) k = n at *
          go_wp2
          go_roundw
          case rel => exact ⟨k + 1, by rw [HN.out], by go_num, by omega, rfl⟩
          case measure => simp [intOf]; omega
  · rw [cntV_neg (by omega)]
    clear e
    go_enter Try.func53, Try.ntmps53
    go_wp2_with (go_at_call 93; refine (l5Small_any _ _ _ _).mono ?_; rintro e w' ⟨rfl, rfl⟩)
    refine wp_loop_rounds 1 ?_
    rw [rounds_succ]
    go_wp2
    go_returns
    exact ⟨rfl, rfl⟩

end Go.Proofs.Ytjhfmlbnpdnddaa
