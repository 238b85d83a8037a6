/- Reading a term's text, the model: l17Num. -/
import Derived.Test.YtjgmoledhkikcaaDoorPtS
namespace Go.Proofs.YtjgmoledhkikcaaDoor
open Go.RowKit

def NmV (r : Int × Bool) : Value := .tuple #[.int .i64 r.1, .bool r.2]
theorem nm_ret {a b : Int × Bool} (h : a = b) : Ending.returned (NmV b) = .returned (NmV a) := by rw [h]
def NmR (d : List UInt8) (n : Nat) (v i : Value) : Prop :=
  ∃ k nn : Nat, v = .int .i64 nn ∧ i = .int .i64 k ∧ k ≤ n ∧ Lib.decFrom 0 (d.take k) = some nn

set_option maxRecDepth 10000 in
set_option maxHeartbeats 4000000 in
theorem l17Num_any (l0 : List UInt8) (w : World) (hl : l0.length ≤ 1048576) :
    Calls Tryd.prog 38 #[.string (bs l0)] w fun e w' => e = .returned (NmV (num17 l0)) ∧ w = w' := by
  have hsz := bs_size
  have hl0 := bs_list
  cases l0 with
  | nil =>
    have HV := Lib.hid (show num17 [] = (0, false) from rfl)
    have hlen : (([] : List UInt8).length : Int) = 0 := rfl
    go_enter Tryd.func38, Tryd.ntmps38
    go_wp2
    go_returns
    exact ⟨nm_ret HV.out, rfl⟩
  | cons c r =>
    obtain ⟨l0, hle⟩ : ∃ l, c :: r = l := ⟨_, rfl⟩
    have h0 : l0[0]? = some c := by rw [← hle]; rfl
    have hixc : ∀ W, (Instr.index 9 (.string (bs l0)) (.int .i64 0)).run Tryd.prog W = .ok (.int .u8 (c.toNat : Int)) W := fun W => run_at (P := Tryd.prog) Tryd.underlying9 h0 .i64 W
    have hN : nmN l0 = (c == 45) := by rw [← hle]; unfold nmN; rfl
    have hD : nmD l0 = if (c == 45) = true then r else l0 := by unfold nmD; rw [hN, ← hle]; rfl
    have hpos : 0 < l0.length := by rw [← hle]; simp
    have hrl : r.length ≤ 1048576 := by simp at hl; omega
    obtain ⟨zc, hzc⟩ : ∃ z : Int, (c.toNat : Int) = z := ⟨_, rfl⟩
    have h45 : (zc == 45) = (c == 45) := by rw [← hzc]; exact u8_eq c 45
    rw [hzc] at hixc
    obtain ⟨m, hm⟩ : ∃ m, l0.length = m := ⟨_, rfl⟩
    have hpm : (0 : Int) < (m : Int) := by omega
    have hfr : ∀ W, (Instr.slice 9 (.string (bs l0)) (some (.int .i64 1)) none none).run Tryd.prog W = .ok (.string (bs r)) W := fun W => rn_from (P := Tryd.prog) Tryd.underlying9 (l := l0) (k := 1) (x := r) (by omega) (by rw [← hle]; rfl) .i64 W
    have HM := Lib.hid hm
    have hlm : (l0.length : Int) = m := by rw [hm]
    rw [hle] at hl ⊢
    clear hle hzc h0 hpos hm
    go_enter Tryd.func38, Tryd.ntmps38
    rcases q45 : (c == 45) with _ | _
    · rw [q45] at h45 hN hD
      have HND := Lib.hid (show nmD l0 = l0 from by rw [hD]; rfl)
      have HNN := Lib.hid hN
      clear hN hD q45
      go_upto_region 4 with fail
      clear hfr hixc hlm hpm
      rcases hB : nmBad l0 with _ | _
      · have hB0 := hB
        unfold nmBad at hB
        rw [HND.out, HNN.out] at hB
        simp only [Bool.or_eq_false_iff, decide_eq_false_iff_not] at hB
        obtain ⟨⟨hb1, hb2⟩, hb3⟩ := hB
        obtain ⟨x, r, hxr⟩ : ∃ x r, l0 = x :: r := by cases l0 with
          | nil => exact absurd rfl hb1
          | cons x r => exact ⟨x, r, rfl⟩
        have hx0 : l0[0]? = some x := by rw [hxr]; rfl
        have hix0 : ∀ W, (Instr.index 9 (.string (bs l0)) (.int .i64 0)).run Tryd.prog W = .ok (.int .u8 (x.toNat : Int)) W := fun W => run_at (P := Tryd.prog) Tryd.underlying9 hx0 .i64 W
        obtain ⟨z, hz⟩ : ∃ z : Int, (x.toNat : Int) = z := ⟨_, rfl⟩
        have h48 : (z == 48) = (x == 48) := by rw [← hz]; exact u8_eq x 48
        rw [hz] at hix0
        obtain ⟨n, hn⟩ : ∃ n, l0.length = n := ⟨_, rfl⟩
        rw [hn] at hb1 hb2 hb3
        have hhd : l0.head? = some x := by rw [hxr]; rfl
        rw [hhd] at hb3
        have hq3 : ((x == 48) && (decide (1 < n) || false)) = false := hb3
        have HN := Lib.hid hn
        have hlen : (l0.length : Int) = n := by rw [hn]
        have hn0 : ((n : Int) == 0) = false := by rw [beq_eq_false_iff_ne]; omega
        have hn17 : ¬ (17 : Int) < (n : Int) := by omega
        have HV := Lib.hid (show num17 l0 = (match Lib.decFrom 0 l0 with | none => (0, false) | some u => (if false = true then -(u : Int) else u, true)) from by unfold num17; rw [hB0, HND.out, HNN.out]; rfl)
        have hfacts : ((z == 48) = false ∧ True) ∨ ((z == 48) = true ∧ decide (1 < (n : Int)) = false ∧ false = false) := by
          rw [h48]
          cases hx : (x == 48) with
          | false => exact .inl ⟨rfl, trivial⟩
          | true =>
            rw [hx, Bool.true_and, Bool.or_eq_false_iff, decide_eq_false_iff_not] at hq3
            exact .inr ⟨rfl, decide_eq_false (by omega), hq3.2⟩
        have HST := Lib.hid (show NmR l0 n (.int .i64 0) (.int .i64 0) from ⟨0, 0, rfl, rfl, Nat.zero_le _, rfl⟩)
        clear hb1 hb2 hb3 hB0 h48 hq3 hhd hxr hx0 hz
        rcases hfacts with ⟨hf1, hf2⟩ | ⟨hf1, hf2, hf3⟩
        all_goals
          go_wp2
          go_loopw [5, 6] (fun v i wr => NmR l0 n v i ∧ w = wr) (fun _ i _ => n - (intOf i).toNat)
          case atStart => exact ⟨HST.out, rfl⟩
          case round =>
            obtain ⟨⟨k, nn, rfl, rfl, hk, hdec⟩, rfl⟩ := hrel
            clear HST
            have HDC := Lib.hid hdec
            have hnn : nn ≤ 100000000000000000 := by
              have h1 := Lib.decFrom_lt _ _ _ hdec
              have h2 : (l0.take k).length ≤ 17 := by rw [List.length_take]; omega
              have h3 : 10 ^ (l0.take k).length ≤ 10 ^ 17 := Nat.pow_le_pow_right (by omega) h2
              have : (10 : Nat) ^ 17 = 100000000000000000 := by decide
              omega
            clear hdec
            by_cases hlt : k < n
            · have hk' : (k : Int) < (n : Int) := by omega
              obtain ⟨y, hy⟩ : ∃ y, l0[k]? = some y := ⟨_, List.getElem?_eq_getElem (by rw [HN.out]; exact hlt)⟩
              have hix := fun W => run_at (P := Tryd.prog) Tryd.underlying9 hy .i64 W
              have HY := Lib.hid hy
              obtain ⟨v, hv⟩ : ∃ v : Int, (y.toNat : Int) = v := ⟨_, rfl⟩
              rw [hv] at hix
              rcases hyd : isD y with _ | _
              · have HVV := Lib.hid (show num17 l0 = (0, false) from by
                  rw [HV.out]
                  cases hdd : Lib.decFrom 0 l0 with
                  | none => rfl
                  | some u =>
                    obtain ⟨e, he⟩ := Lib.digit_of_decFrom l0 0 u hdd k y HY.out
                    have := Lib.digitVal_eq he
                    exfalso
                    unfold isD at hyd
                    rw [decide_eq_true (by omega), decide_eq_true (by omega)] at hyd
                    cases hyd)
                have hdc : decide (v < 48) = true ∨ (decide (v < 48) = false ∧ decide (57 < v) = true) := by
                  unfold isD at hyd
                  by_cases h1 : v < 48
                  · exact .inl (decide_eq_true h1)
                  · refine .inr ⟨decide_eq_false h1, decide_eq_true ?_⟩
                    rw [decide_eq_true (by omega), Bool.true_and, decide_eq_false_iff_not] at hyd
                    omega
                clear hyd hy hv
                rcases hdc with hd1 | ⟨hd1, hd2⟩
                all_goals
                  go_wp2
                  go_returns
                  exact ⟨nm_ret HVV.out, rfl⟩
              · have hvb : 48 ≤ v ∧ v ≤ 57 := by
                  unfold isD at hyd
                  rw [Bool.and_eq_true, decide_eq_true_eq, decide_eq_true_eq] at hyd
                  omega
                have HNX := Lib.hid (show Lib.decFrom 0 (l0.take (k + 1)) = some (nn * 10 + (y.toNat - 48)) from Lib.decFrom_take l0 k 0 nn y _ HDC.out hy (by unfold Lib.digitVal; rw [if_pos (by omega)]))
                have HYV := Lib.hid (show ((nn * 10 + (y.toNat - 48) : Nat) : Int) = nn * 10 + (v - 48) from by omega)
                have hd1 : decide (v < 48) = false := decide_eq_false (by omega)
                have hd2 : decide (57 < v) = false := decide_eq_false (by omega)
                have hw8 : IntKind.u8.wrap (v - 48) = v - 48 := by
                  unfold IntKind.wrap
                  have h1 : (0 : Int) ≤ v - 48 := by omega
                  have h2 : v - 48 < 256 := by omega
                  simp [IntKind.signed, IntKind.bits]
                  omega
                clear hyd hy hv
                go_wp2
                go_roundw
                case rel => exact ⟨⟨k + 1, _, by rw [HYV.out], by go_num, by omega, HNX.out⟩, by first | rfl | trivial⟩
                case measure => simp [intOf]; omega
            · have hk' : ¬ (k : Int) < (n : Int) := by omega
              obtain rfl : k = n := by omega
              have HVV := Lib.hid (show num17 l0 = ((nn : Int), true) from by
                rw [HV.out]
                have := HDC.out
                rw [List.take_of_length_le (by rw [HN.out]; exact Nat.le_refl _)] at this
                rw [this]
                rfl)
              go_wp2
              go_returns
              exact ⟨nm_ret HVV.out, rfl⟩
      · have HV := Lib.hid (show num17 l0 = (0, false) from by unfold num17; rw [hB]; rfl)
        unfold nmBad at hB
        rw [HND.out, HNN.out] at hB
        obtain ⟨n, hn⟩ : ∃ n, l0.length = n := ⟨_, rfl⟩
        rw [hn] at hB
        have hlen : (l0.length : Int) = n := by rw [hn]
        by_cases h0 : n = 0
        · have hn0 : ((n : Int) == 0) = true := by rw [beq_iff_eq]; omega
          clear hB h0
          go_wp2
          go_returns
          exact ⟨nm_ret HV.out, rfl⟩
        · have hn0 : ((n : Int) == 0) = false := by rw [beq_eq_false_iff_ne]; omega
          by_cases h17 : 17 < n
          · have hn17 : (17 : Int) < (n : Int) := by omega
            clear hB h0
            go_wp2
            go_returns
            exact ⟨nm_ret HV.out, rfl⟩
          · have hn17 : ¬ (17 : Int) < (n : Int) := by omega
            obtain ⟨x, r, hxr⟩ : ∃ x r, l0 = x :: r := by cases l0 with
              | nil => exact absurd hn.symm h0
              | cons x r => exact ⟨x, r, rfl⟩
            have hx0 : l0[0]? = some x := by rw [hxr]; rfl
            have hix0 : ∀ W, (Instr.index 9 (.string (bs l0)) (.int .i64 0)).run Tryd.prog W = .ok (.int .u8 (x.toNat : Int)) W := fun W => run_at (P := Tryd.prog) Tryd.underlying9 hx0 .i64 W
            have hhd : l0.head? = some x := by rw [hxr]; rfl
            rw [hhd, decide_eq_false h0, decide_eq_false h17] at hB
            have hB2 : ((x == 48) && (decide (1 < n) || false)) = true := hB
            rw [Bool.and_eq_true] at hB2
            obtain ⟨z, hz⟩ : ∃ z : Int, (x.toNat : Int) = z := ⟨_, rfl⟩
            have h48 : (z == 48) = true := by rw [← hz]; exact (u8_eq x 48).trans hB2.1
            rw [hz] at hix0
            have hor := hB2.2
            clear hB hB2 hhd hxr hx0 hz h0 h17
            cases h1n : decide (1 < (n : Int)) with
            | true =>
              go_wp2
              go_returns
              exact ⟨nm_ret HV.out, rfl⟩
            | false =>
              have h1n' : ¬ (1 < n) := by have := of_decide_eq_false h1n; omega
              simp [h1n'] at hor
    · rw [q45] at h45 hN hD
      obtain ⟨d, hd⟩ : ∃ d, r = d := ⟨_, rfl⟩
      have HND := Lib.hid (show nmD l0 = d from by rw [hD, ← hd]; rfl)
      have HNN := Lib.hid hN
      rw [hd] at hfr hrl
      clear hN hD q45 hd
      go_upto_region 4 with fail
      clear hfr hixc hlm hpm
      rcases hB : nmBad l0 with _ | _
      · have hB0 := hB
        unfold nmBad at hB
        rw [HND.out, HNN.out] at hB
        simp only [Bool.or_eq_false_iff, decide_eq_false_iff_not] at hB
        obtain ⟨⟨hb1, hb2⟩, hb3⟩ := hB
        obtain ⟨x, r, hxr⟩ : ∃ x r, d = x :: r := by cases d with
          | nil => exact absurd rfl hb1
          | cons x r => exact ⟨x, r, rfl⟩
        have hx0 : d[0]? = some x := by rw [hxr]; rfl
        have hix0 : ∀ W, (Instr.index 9 (.string (bs d)) (.int .i64 0)).run Tryd.prog W = .ok (.int .u8 (x.toNat : Int)) W := fun W => run_at (P := Tryd.prog) Tryd.underlying9 hx0 .i64 W
        obtain ⟨z, hz⟩ : ∃ z : Int, (x.toNat : Int) = z := ⟨_, rfl⟩
        have h48 : (z == 48) = (x == 48) := by rw [← hz]; exact u8_eq x 48
        rw [hz] at hix0
        obtain ⟨n, hn⟩ : ∃ n, d.length = n := ⟨_, rfl⟩
        rw [hn] at hb1 hb2 hb3
        have hhd : d.head? = some x := by rw [hxr]; rfl
        rw [hhd] at hb3
        have hq3 : ((x == 48) && (decide (1 < n) || true)) = false := hb3
        have HN := Lib.hid hn
        have hlen : (d.length : Int) = n := by rw [hn]
        have hn0 : ((n : Int) == 0) = false := by rw [beq_eq_false_iff_ne]; omega
        have hn17 : ¬ (17 : Int) < (n : Int) := by omega
        have HV := Lib.hid (show num17 l0 = (match Lib.decFrom 0 d with | none => (0, false) | some u => (if true = true then -(u : Int) else u, true)) from by unfold num17; rw [hB0, HND.out, HNN.out]; rfl)
        have hfacts : ((z == 48) = false ∧ True) ∨ ((z == 48) = true ∧ decide (1 < (n : Int)) = false ∧ true = false) := by
          rw [h48]
          cases hx : (x == 48) with
          | false => exact .inl ⟨rfl, trivial⟩
          | true =>
            rw [hx, Bool.true_and, Bool.or_eq_false_iff, decide_eq_false_iff_not] at hq3
            exact .inr ⟨rfl, decide_eq_false (by omega), hq3.2⟩
        have HST := Lib.hid (show NmR d n (.int .i64 0) (.int .i64 0) from ⟨0, 0, rfl, rfl, Nat.zero_le _, rfl⟩)
        clear hb1 hb2 hb3 hB0 h48 hq3 hhd hxr hx0 hz
        have hf1 : (z == 48) = false := by
          rcases hfacts with ⟨h, _⟩ | ⟨_, _, h⟩
          · exact h
          · cases h
        clear hfacts
        all_goals
          go_wp2
          go_loopw [5, 6] (fun v i wr => NmR d n v i ∧ w = wr) (fun _ i _ => n - (intOf i).toNat)
          case atStart => exact ⟨HST.out, rfl⟩
          case round =>
            obtain ⟨⟨k, nn, rfl, rfl, hk, hdec⟩, rfl⟩ := hrel
            clear HST
            have HDC := Lib.hid hdec
            have hnn : nn ≤ 100000000000000000 := by
              have h1 := Lib.decFrom_lt _ _ _ hdec
              have h2 : (d.take k).length ≤ 17 := by rw [List.length_take]; omega
              have h3 : 10 ^ (d.take k).length ≤ 10 ^ 17 := Nat.pow_le_pow_right (by omega) h2
              have : (10 : Nat) ^ 17 = 100000000000000000 := by decide
              omega
            clear hdec
            by_cases hlt : k < n
            · have hk' : (k : Int) < (n : Int) := by omega
              obtain ⟨y, hy⟩ : ∃ y, d[k]? = some y := ⟨_, List.getElem?_eq_getElem (by rw [HN.out]; exact hlt)⟩
              have hix := fun W => run_at (P := Tryd.prog) Tryd.underlying9 hy .i64 W
              have HY := Lib.hid hy
              obtain ⟨v, hv⟩ : ∃ v : Int, (y.toNat : Int) = v := ⟨_, rfl⟩
              rw [hv] at hix
              rcases hyd : isD y with _ | _
              · have HVV := Lib.hid (show num17 l0 = (0, false) from by
                  rw [HV.out]
                  cases hdd : Lib.decFrom 0 d with
                  | none => rfl
                  | some u =>
                    obtain ⟨e, he⟩ := Lib.digit_of_decFrom d 0 u hdd k y HY.out
                    have := Lib.digitVal_eq he
                    exfalso
                    unfold isD at hyd
                    rw [decide_eq_true (by omega), decide_eq_true (by omega)] at hyd
                    cases hyd)
                have hdc : decide (v < 48) = true ∨ (decide (v < 48) = false ∧ decide (57 < v) = true) := by
                  unfold isD at hyd
                  by_cases h1 : v < 48
                  · exact .inl (decide_eq_true h1)
                  · refine .inr ⟨decide_eq_false h1, decide_eq_true ?_⟩
                    rw [decide_eq_true (by omega), Bool.true_and, decide_eq_false_iff_not] at hyd
                    omega
                clear hyd hy hv
                rcases hdc with hd1 | ⟨hd1, hd2⟩
                all_goals
                  go_wp2
                  go_returns
                  exact ⟨nm_ret HVV.out, rfl⟩
              · have hvb : 48 ≤ v ∧ v ≤ 57 := by
                  unfold isD at hyd
                  rw [Bool.and_eq_true, decide_eq_true_eq, decide_eq_true_eq] at hyd
                  omega
                have HNX := Lib.hid (show Lib.decFrom 0 (d.take (k + 1)) = some (nn * 10 + (y.toNat - 48)) from Lib.decFrom_take d k 0 nn y _ HDC.out hy (by unfold Lib.digitVal; rw [if_pos (by omega)]))
                have HYV := Lib.hid (show ((nn * 10 + (y.toNat - 48) : Nat) : Int) = nn * 10 + (v - 48) from by omega)
                have hd1 : decide (v < 48) = false := decide_eq_false (by omega)
                have hd2 : decide (57 < v) = false := decide_eq_false (by omega)
                have hw8 : IntKind.u8.wrap (v - 48) = v - 48 := by
                  unfold IntKind.wrap
                  have h1 : (0 : Int) ≤ v - 48 := by omega
                  have h2 : v - 48 < 256 := by omega
                  simp [IntKind.signed, IntKind.bits]
                  omega
                clear hyd hy hv
                go_wp2
                go_roundw
                case rel => exact ⟨⟨k + 1, _, by rw [HYV.out], by go_num, by omega, HNX.out⟩, by first | rfl | trivial⟩
                case measure => simp [intOf]; omega
            · have hk' : ¬ (k : Int) < (n : Int) := by omega
              obtain rfl : k = n := by omega
              have HVV := Lib.hid (show num17 l0 = (-(nn : Int), true) from by
                rw [HV.out]
                have := HDC.out
                rw [List.take_of_length_le (by rw [HN.out]; exact Nat.le_refl _)] at this
                rw [this]
                rfl)
              have hwn : wrap64 (-(nn : Int)) = -(nn : Int) := by unfold wrap64; omega
              go_wp2
              go_returns
              exact ⟨nm_ret HVV.out, rfl⟩
      · have HV := Lib.hid (show num17 l0 = (0, false) from by unfold num17; rw [hB]; rfl)
        unfold nmBad at hB
        rw [HND.out, HNN.out] at hB
        obtain ⟨n, hn⟩ : ∃ n, d.length = n := ⟨_, rfl⟩
        rw [hn] at hB
        have hlen : (d.length : Int) = n := by rw [hn]
        by_cases h0 : n = 0
        · have hn0 : ((n : Int) == 0) = true := by rw [beq_iff_eq]; omega
          clear hB h0
          go_wp2
          go_returns
          exact ⟨nm_ret HV.out, rfl⟩
        · have hn0 : ((n : Int) == 0) = false := by rw [beq_eq_false_iff_ne]; omega
          by_cases h17 : 17 < n
          · have hn17 : (17 : Int) < (n : Int) := by omega
            clear hB h0
            go_wp2
            go_returns
            exact ⟨nm_ret HV.out, rfl⟩
          · have hn17 : ¬ (17 : Int) < (n : Int) := by omega
            obtain ⟨x, r, hxr⟩ : ∃ x r, d = x :: r := by cases d with
              | nil => exact absurd hn.symm h0
              | cons x r => exact ⟨x, r, rfl⟩
            have hx0 : d[0]? = some x := by rw [hxr]; rfl
            have hix0 : ∀ W, (Instr.index 9 (.string (bs d)) (.int .i64 0)).run Tryd.prog W = .ok (.int .u8 (x.toNat : Int)) W := fun W => run_at (P := Tryd.prog) Tryd.underlying9 hx0 .i64 W
            have hhd : d.head? = some x := by rw [hxr]; rfl
            rw [hhd, decide_eq_false h0, decide_eq_false h17] at hB
            have hB2 : ((x == 48) && (decide (1 < n) || true)) = true := hB
            rw [Bool.and_eq_true] at hB2
            obtain ⟨z, hz⟩ : ∃ z : Int, (x.toNat : Int) = z := ⟨_, rfl⟩
            have h48 : (z == 48) = true := by rw [← hz]; exact (u8_eq x 48).trans hB2.1
            rw [hz] at hix0
            have hor := hB2.2
            clear hB hB2 hhd hxr hx0 hz h0 h17
            cases h1n : decide (1 < (n : Int)) with
            | true =>
              go_wp2
              go_returns
              exact ⟨nm_ret HV.out, rfl⟩
            | false =>
              have h1n' : ¬ (1 < n) := by have := of_decide_eq_false h1n; omega
              clear h1n' hor
              go_wp2
              go_returns
              exact ⟨nm_ret HV.out, rfl⟩

end Go.Proofs.YtjgmoledhkikcaaDoor
