/- The walk of the law FnHasNumber. -/
import Derived.Test.YtbckigekedpdgaaDoorLwK
import Derived.BigQuiet
import Derived.Deep.RegionHeld3
import Derived.BigGuardPart
import Derived.Deep.DeepCutAuto
namespace Go.Proofs.YtbckigekedpdgaaDoor
open Go.RowKit

set_option maxRecDepth 10000 in
set_option maxHeartbeats 4000000 in
theorem fnHasNumber_walk (sp : Option Addr) (n cap : Nat) (w : World) (h : Code w sp n cap) :
    Calls Tryd.prog 3 #[.slice sp n cap] w fun e w' => e = .returned (.bool true) ∧ Below w.heap.size w w' := by
  have HC := Lib.hid h
  clear h
  by_cases hn : n ≤ 1048576
  · have hn' : ¬ (1048576 : Int) < (n : Int) := by omega
    go_enter Tryd.func3, Tryd.ntmps3
    go_wp2_with fail
    refine (DrawHasNumber_t sp n cap w HC.out).mono ?_
    rintro e w1 ⟨h, l, n', rfl, ⟨s0, s1⟩, ⟨i0, i1⟩, k0⟩
    go_upto_region 4 with fail
    generalize hW : World.alloc w1 _ = w2
    obtain ⟨hx, hsx, hb⟩ := s2_new hW
    clear hW
    have k2 := below_on k0 hb
    clear k0
    have s_2 := hx
    clear hx hb
    obtain ⟨z0, z1⟩ : h.length ≤ 1000000000 ∧ l.length ≤ 1000000000 := ⟨by omega, by omega⟩
    obtain ⟨hl, hhl⟩ : ∃ x, h.length = x := ⟨_, rfl⟩
    obtain ⟨ll, hll⟩ : ∃ x, l.length = x := ⟨_, rfl⟩
    have hs1 := bs_size h
    have hs2 := bs_size l
    rw [hhl] at hs1
    rw [hll] at hs2
    have HI := Lib.hid fun w => HasNumber_any h l n' w z0 z1 i0 i1
    have HS := Lib.hid fun w => specHasNumber_any h l n' w z0 z1 i0 i1
    have HV := Lib.hid fun w => SetValid_any h l w z0 z1
    obtain ⟨b, hb⟩ : ∃ b, hnB h l n' = b := ⟨_, rfl⟩
    obtain ⟨v, hv⟩ : ∃ v, svS h l = v := ⟨_, rfl⟩
    rw [hb] at HI HS
    rw [hv] at HV
    have HB := Lib.hid hb
    have HVV := Lib.hid hv
    have HHL := Lib.hid hhl
    have HLL := Lib.hid hll
    rw [hhl] at s0 z0
    rw [hll] at s1 z1
    have hbb : (b != b) = false := by cases b <;> rfl
    have hbe : (b == b) = true := by cases b <;> rfl
    clear hb hv hhl hll
    obtain ⟨s_a, s_b, s_c, s_d⟩ := id s_2
    go_wp2_with fail
    refine (HI.out _).mono ?_
    rintro e w3 ⟨rfl, hb⟩
    clear s_a s_b s_c s_d
    have k3 := below_on k2 hb
    have s_3 := s2_on s_2 hb
    clear k2 s_2
    clear hb
    obtain ⟨s_a, s_b, s_c, s_d⟩ := id s_3
    go_wp2_with fail
    refine (HS.out _).mono ?_
    rintro e w4 ⟨rfl, hb⟩
    clear s_a s_b s_c s_d
    have k4 := below_on k3 hb
    have s_4 := s2_on s_3 hb
    clear k3 s_3
    clear hb
    obtain ⟨s_a, s_b, s_c, s_d⟩ := id s_4
    go_wp2_with fail
    refine (HV.out _).mono ?_
    rintro e w5 ⟨rfl, hb⟩
    clear s_a s_b s_c s_d
    have k5 := below_on k4 hb
    have s_5 := s2_on s_4 hb
    clear k4 s_4
    clear hb
    cases v with
    | false =>
      obtain ⟨s_a, s_b, s_c, s_d⟩ := id s_5
      go_wp2_with fail
      refine (HS.out _).mono ?_
      rintro e w6 ⟨rfl, hb⟩
      clear s_a s_b s_c s_d
      have k6 := below_on k5 hb
      have s_6 := s2_on s_5 hb
      clear k5 s_5
      clear hb
      obtain ⟨s_a, s_b, s_c, s_d⟩ := id s_6
      go_wp2
      go_ret
      exact ⟨rfl, k6⟩
    | true =>
      by_cases h0 : n' < 0
      · have hd : decide (n' < 0) = true := decide_eq_true h0
        obtain ⟨s_a, s_b, s_c, s_d⟩ := id s_5
        go_wp2_with fail
        refine (HS.out _).mono ?_
        rintro e w6 ⟨rfl, hb⟩
        clear s_a s_b s_c s_d
        have k6 := below_on k5 hb
        have s_6 := s2_on s_5 hb
        clear k5 s_5
        clear hb
        obtain ⟨s_a, s_b, s_c, s_d⟩ := id s_6
        go_wp2
        go_ret
        exact ⟨rfl, k6⟩
      · have hd : decide (n' < 0) = false := decide_eq_false h0
        by_cases hm : 1000000 < n'
        · have hd2 : decide (1000000 < n') = true := decide_eq_true hm
          obtain ⟨s_a, s_b, s_c, s_d⟩ := id s_5
          go_wp2_with fail
          refine (HS.out _).mono ?_
          rintro e w6 ⟨rfl, hb⟩
          clear s_a s_b s_c s_d
          have k6 := below_on k5 hb
          have s_6 := s2_on s_5 hb
          clear k5 s_5
          clear hb
          obtain ⟨s_a, s_b, s_c, s_d⟩ := id s_6
          go_wp2
          go_ret
          exact ⟨rfl, k6⟩
        · have hd2 : decide (1000000 < n') = false := decide_eq_false hm
          obtain ⟨k, rfl⟩ := Int.eq_ofNat_of_zero_le (show 0 ≤ n' by omega)
          obtain ⟨_, _, q3, q4, q5, _⟩ := svS_parts HVV.out
          rw [HHL.out] at q3
          rw [HLL.out] at q4 q5
          by_cases hkh : k < hl
          · have hk1 : (k : Int) < (hl : Int) := by omega
            obtain ⟨x, hx⟩ : ∃ x, h[k]? = some x := ⟨_, List.getElem?_eq_getElem (by rw [HHL.out]; exact hkh)⟩
            have hix := fun W => run_at (P := Tryd.prog) Tryd.underlying9 hx .i64 W
            have hbx : b = (x == 49) := by rw [← HB.out, hn_head HVV.out (by rw [HHL.out]; exact hkh), List.getD_eq_getElem?_getD, hx]; rfl
            have e49 := u8_eq x 49
            rw [show (((49 : UInt8).toNat : Nat) : Int) = 49 from rfl, ← hbx] at e49
            obtain ⟨z, hz⟩ : ∃ z : Int, (x.toNat : Int) = z := ⟨_, rfl⟩
            rw [hz] at hix e49
            clear hx hbx hz HI HS HV h0 hm
            obtain ⟨s_a, s_b, s_c, s_d⟩ := id s_5
            go_wp2
            go_ret
            exact ⟨rfl, k5⟩
          · have hk1 : ¬ (k : Int) < (hl : Int) := by omega
            obtain ⟨m, hm1⟩ : ∃ m, k + ll = m := ⟨_, rfl⟩
            obtain ⟨s, hs⟩ : ∃ s, hl + ll = s := ⟨_, rfl⟩
            have hwm : IntKind.i64.wrap ((k : Int) + (ll : Int)) = (m : Int) := by rw [IntKind.wrap_i64]; omega
            have hws : IntKind.i64.wrap ((hl : Int) + (ll : Int)) = (s : Int) := by rw [IntKind.wrap_i64]; omega
            have hP := hn_law HVV.out k
            rw [HHL.out, HLL.out, if_neg hkh, HB.out, hm1] at hP
            have P1 := Lib.hid fun w => pbIn_is h l m b w (by rw [HHL.out]; exact z0) (by rw [HLL.out]; exact z1) (by omega) (by omega) hP
            clear hP
            by_cases hks : s ≤ k
            · have hk2 : (s : Int) ≤ (k : Int) := by omega
              have hk3 : decide ((s : Int) ≤ (k : Int)) = true := decide_eq_true hk2
              obtain ⟨s_a, s_b, s_c, s_d⟩ := id s_5
              go_wp2_with fail
              refine (P1.out _).mono ?_
              rintro e w6 ⟨rfl, hb⟩
              clear s_a s_b s_c s_d
              have k6 := below_on k5 hb
              have s_6 := s2_on s_5 hb
              clear k5 s_5
              clear hb
              obtain ⟨s_a, s_b, s_c, s_d⟩ := id s_6
              go_wp2
              go_ret
              exact ⟨rfl, k6⟩
            · have hk2 : ¬ (s : Int) ≤ (k : Int) := by omega
              have hk3 : decide ((s : Int) ≤ (k : Int)) = false := decide_eq_false hk2
              obtain ⟨d, hd3⟩ : ∃ d, k - hl = d := ⟨_, rfl⟩
              have hwd : IntKind.i64.wrap ((k : Int) - (hl : Int)) = (d : Int) := by rw [IntKind.wrap_i64]; omega
              obtain ⟨x, hx⟩ : ∃ x, l[d]? = some x := ⟨_, List.getElem?_eq_getElem (by rw [HLL.out]; omega)⟩
              have hix := fun W => run_at (P := Tryd.prog) Tryd.underlying9 hx .i64 W
              have hbx : b = (x == 49) := by rw [← HB.out, hn_loop HVV.out (by rw [HHL.out]; omega) (by rw [HHL.out, HLL.out]; omega), HHL.out, hd3, List.getD_eq_getElem?_getD, hx]; rfl
              have e49 := u8_eq x 49
              rw [show (((49 : UInt8).toNat : Nat) : Int) = 49 from rfl, ← hbx] at e49
              obtain ⟨z, hz⟩ : ∃ z : Int, (x.toNat : Int) = z := ⟨_, rfl⟩
              rw [hz] at hix e49
              clear hx hbx hz HI HS HV h0 hm hm1 hs hd3
              obtain ⟨s_a, s_b, s_c, s_d⟩ := id s_5
              go_wp2_with fail
              refine (P1.out _).mono ?_
              rintro e w6 ⟨rfl, hb⟩
              clear s_a s_b s_c s_d
              have k6 := below_on k5 hb
              have s_6 := s2_on s_5 hb
              clear k5 s_5
              clear hb
              obtain ⟨s_a, s_b, s_c, s_d⟩ := id s_6
              go_wp2
              go_ret
              exact ⟨rfl, k6⟩
  · have hn' : (1048576 : Int) < (n : Int) := by omega
    go_enter Tryd.func3, Tryd.ntmps3
    go_wp2
    go_ret
    exact ⟨rfl, by go_grown⟩

end Go.Proofs.YtbckigekedpdgaaDoor
