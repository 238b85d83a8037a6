/- The model's least and greatest number of a set, and its count. -/
import Derived.Test.YtknocndfjnjjfaaDoorSa7
import Derived.Test.YtknocndfjnjjfaaDoorSfM
import Derived.Test.YtknocndfjnjjfaaDoorStB
namespace Go.Proofs.YtknocndfjnjjfaaDoor
open Go.RowKit

theorem fnd_ge (c : UInt8) : ∀ (l : List UInt8) (k : Nat), (fndI c l k = -1 ∧ l.count c = 0) ∨ ((k : Int) ≤ fndI c l k ∧ l.count c ≠ 0)
  | [], k => .inl ⟨rfl, rfl⟩
  | x :: r, k => by
    unfold fndI
    by_cases hx : x = c
    · rw [if_pos hx, hx]
      exact .inr ⟨Int.le_refl _, by simp⟩
    · rw [if_neg hx, List.count_cons_of_ne hx]
      have e : ((k : Int) + 1) = ((k + 1 : Nat) : Int) := by omega
      rw [e]
      rcases fnd_ge c r (k + 1) with h | ⟨h1, h2⟩
      · exact .inl h
      · exact .inr ⟨by omega, h2⟩

set_option maxHeartbeats 2000000 in
theorem specCountBelow_any (h l : List UInt8) (n : Int) (w : World) (hh : h.length ≤ 1000000000) (hl : l.length ≤ 1000000000) (h0 : -9223372036854775808 ≤ n) (hn : n ≤ 9223372036854775807) :
    Calls Tryd.prog 23 #[.agg #[.string (bs h), .string (bs l)], .int .i64 n] w fun e w' => e = .returned (.int .i64 (cbR h l n)) ∧ Below w.heap.size w w' := by
  have HV := Lib.hid fun w => specSetValid_b h l w hh hl
  have HS := Lib.hid (svS_parts (h := h) (l := l))
  obtain ⟨v, hv⟩ : ∃ v, svS h l = v := ⟨_, rfl⟩
  have HQ : Hid (svS h l = v) := Lib.hid hv
  rw [hv] at HV
  clear hv
  cases v with
  | false =>
    have HF : Hid (cbR h l n = -1) := Lib.hid (by unfold cbR; rw [HQ.out]; rfl)
    rw [HF.out]
    go_enter Tryd.func23, Tryd.ntmps23
    go_wp2_with fail
    generalize hW0 : World.alloc w _ = W
    obtain ⟨hx, hsx, hwx⟩ := s2_new hW0
    clear hW0
    refine (HV.out _).mono ?_
    rintro e w3 ⟨rfl, hw⟩
    go_wp2
    go_ret
    exact ⟨rfl, below_on hwx hw⟩
  | true =>
    have HI := Lib.hid fun w => l1In_any n 0 1000000 w
    obtain ⟨b, hb⟩ : ∃ b, inB n 0 1000000 = b := ⟨_, rfl⟩
    rw [hb] at HI
    have hbi : b = (decide (0 ≤ n) && decide (n ≤ 1000000)) := by rw [← hb]; unfold inB; first | rfl | simp
    clear hb
    cases b with
    | false =>
      have HF : Hid (cbR h l n = -1) := Lib.hid (by unfold cbR; rw [HQ.out, Bool.true_and, ← hbi]; rfl)
      rw [HF.out]
      clear hbi
      go_enter Tryd.func23, Tryd.ntmps23
      go_wp2_with fail
      generalize hW0 : World.alloc w _ = W
      obtain ⟨hx, hsx, hwx⟩ := s2_new hW0
      clear hW0
      refine (HV.out _).mono ?_
      rintro e w3 ⟨rfl, hw⟩
      have k3 := below_on hwx hw
      go_wp2_with fail
      refine (HI.out _).mono ?_
      rintro e w4 ⟨rfl, rfl⟩
      go_wp2
      go_ret
      exact ⟨rfl, k3⟩
    | true =>
      have hbi' := hbi.symm
      rw [Bool.and_eq_true, decide_eq_true_eq, decide_eq_true_eq] at hbi'
      obtain ⟨hn0, hn1⟩ := hbi'
      obtain ⟨N, rfl⟩ : ∃ N : Nat, n = N := ⟨n.toNat, by omega⟩
      have HF : Hid (cbR h l N = (cntA (atS h l) N : Nat)) := Lib.hid (by unfold cbR; rw [HQ.out, Bool.true_and, ← hbi]; rfl)
      obtain ⟨_, _, q3, q4, q5, q6⟩ := HS.out HQ.out
      have HA := Lib.hid fun (n : Nat) (hn : n ≤ 9223372036854775807) w => l7Has_any h l n w q6 hh hl hn
      obtain ⟨a, ha⟩ : ∃ a, atS h l = a := ⟨_, rfl⟩
      rw [ha] at HA HF
      rw [HF.out]
      have hcl := Lib.hid (cnt_le a)
      have hNb : N ≤ 1000000 := by omega
      clear ha hbi hn0 hn1 h0 hn hh hl q3 q4 q5 q6
      go_enter Tryd.func23, Tryd.ntmps23
      go_wp2_with fail
      generalize hW0 : World.alloc w _ = W
      obtain ⟨hx, hsx, hwx⟩ := s2_new hW0
      clear hW0
      refine (HV.out _).mono ?_
      rintro e w3 ⟨rfl, hw⟩
      have HB3 := Lib.hid (below_on hwx hw)
      have HX3 := Lib.hid (s2_on hx hw)
      clear hx hwx hw
      go_wp2_with fail
      refine (HI.out _).mono ?_
      rintro e w4 ⟨rfl, rfl⟩
      go_wp2_with fail
      go_loopw [5, 6] (fun c i wr => ∃ k : Nat, i = .int .i64 k ∧ k ≤ N ∧ c = .int .i64 (cntA a k : Nat) ∧ S2 wr w.heap.size (bs h) (bs l) ∧ Below w.heap.size w wr) (fun _ i _ => N - (intOf i).toNat)
      case atStart => exact ⟨0, rfl, Nat.zero_le _, rfl, HX3.out, HB3.out⟩
      case round =>
        obtain ⟨k, rfl, hk, rfl, hX, hB⟩ := hrel
        have HX := Lib.hid hX
        have HB := Lib.hid hB
        have hck := hcl.out k
        have HCS : Hid (cntA a (k + 1) = cntA a k + (inS a k).toNat) := Lib.hid rfl
        obtain ⟨c, hc⟩ : ∃ c, cntA a k = c := ⟨_, rfl⟩
        have HC := Lib.hid hc
        rw [hc] at HCS hck ⊢
        clear hc hX hB
        obtain ⟨x0, x1, x2, x3⟩ := HX.out
        by_cases hlt : k < N
        · have hk' : (k : Int) < (N : Int) := by omega
          have hwk : IntKind.i64.wrap ((k : Int) + 1) = ((k + 1 : Nat) : Int) := by rw [IntKind.wrap_i64]; omega
          have hwc : IntKind.i64.wrap ((c : Int) + 1) = ((c + 1 : Nat) : Int) := by rw [IntKind.wrap_i64]; omega
          go_wp2_with fail
          refine (HA.out k (by omega) _).mono ?_
          rintro e w5 ⟨rfl, hw⟩
          have HB5 := Lib.hid (below_on HB.out hw)
          have HX5 := Lib.hid (s2_on HX.out hw)
          clear hw x0 x1 x2 x3
          cases hi : inS a k with
          | true =>
            have HE : Hid (cntA a (k + 1) = c + 1) := Lib.hid (by rw [HCS.out, hi]; rfl)
            clear hi
            go_wp2
            go_roundw
            case rel => exact ⟨k + 1, rfl, by omega, by rw [HE.out]; simp, HX5.out, HB5.out⟩
            case measure => simp [intOf]; omega
          | false =>
            have HE : Hid (cntA a (k + 1) = c) := Lib.hid (by rw [HCS.out, hi]; rfl)
            clear hi
            go_wp2
            go_roundw
            case rel => exact ⟨k + 1, rfl, by omega, by rw [HE.out], HX5.out, HB5.out⟩
            case measure => simp [intOf]; omega
        · have hk' : ¬ (k : Int) < (N : Int) := by omega
          obtain rfl : k = N := by omega
          go_wp2
          go_ret
          exact ⟨by rw [HC.out]; rfl, HB.out⟩
end Go.Proofs.YtknocndfjnjjfaaDoor
