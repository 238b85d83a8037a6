/- The model's least and greatest number of a set, and its count. -/
import Derived.Test.YtbckigekedpdgaaDoorSa7
import Derived.Test.YtbckigekedpdgaaDoorSfM
import Derived.Test.YtbckigekedpdgaaDoorStB
namespace Go.Proofs.YtbckigekedpdgaaDoor
open Go.RowKit

theorem fnd_ge (c : UInt8) : ∀ (l : List UInt8) (k : Nat), (fndI c l k = -1 ∧ l.count c = 0) ∨ ((k : Int) ≤ fndI c l k ∧ l.count c ≠ 0)
  | [], k => .inl ⟨rfl, rfl⟩
  | x :: r, k => by
    unfold fndI
    by_cases hx : x = c
    · rw [if_pos hx, hx]
      exact .inr ⟨Int.le_refl _, by simp⟩
    · rw [if_neg hx, List.count_cons_of_ne hx]
      have e : ((k : Int) + 1) = ((k + 1 : Nat) : Int) := by omega
      rw [e]
      rcases fnd_ge c r (k + 1) with h | ⟨h1, h2⟩
      · exact .inl h
      · exact .inr ⟨by omega, h2⟩

set_option maxHeartbeats 2000000 in
theorem specLeastOf_any (h l : List UInt8) (w : World) (hh : h.length ≤ 1000000000) (hl : l.length ≤ 1000000000) :
    Calls Tryd.prog 22 #[.agg #[.string (bs h), .string (bs l)]] w fun e w' => e = .returned (.int .i64 (leR h l)) ∧ Below w.heap.size w w' := by
  have HV := Lib.hid fun w => specSetValid_b h l w hh hl
  have HS := Lib.hid (svS_parts (h := h) (l := l))
  obtain ⟨v, hv⟩ : ∃ v, svS h l = v := ⟨_, rfl⟩
  have HQ : Hid (svS h l = v) := Lib.hid hv
  rw [hv] at HV
  clear hv
  cases v with
  | false =>
    have HF : Hid (leR h l = -1) := Lib.hid (by unfold leR; rw [HQ.out]; rfl)
    rw [HF.out]
    go_enter Tryd.func22, Tryd.ntmps22
    go_wp2_with fail
    generalize hW0 : World.alloc w _ = W
    obtain ⟨hx, hsx, hwx⟩ := s2_new hW0
    clear hW0
    go_loopw [3] (fun i wr => i = .int .i64 0 ∧ Below W.heap.size W wr) (fun _ _ => 0)
    case atStart => exact ⟨rfl, Below.refl _ _⟩
    case round =>
      obtain ⟨rfl, hb⟩ := hrel
      have hwr := below_on hwx hb
      obtain ⟨x0, x1, x2, x3⟩ := s2_on hx hb
      clear hb hwx hx
      go_wp2_with fail
      refine (HV.out _).mono ?_
      rintro e w3 ⟨rfl, hw⟩
      have hw3 := below_on hwr hw
      go_wp2
      go_ret
      exact ⟨rfl, hw3⟩
  | true =>
    obtain ⟨_, _, q3, q4, q5, q6⟩ := HS.out HQ.out
    have HF : Hid (leR h l = Lib.indexByte (h ++ l) 49) := Lib.hid (by unfold leR; rw [HQ.out]; rfl)
    have HL := Lib.hid (least_idx (h := h) (l := l) (by omega))
    have HAB := Lib.hid fun n => at_back (h := h) (l := l) (by omega) n
    have HA := Lib.hid fun (n : Nat) (hn : n ≤ 9223372036854775807) w => l7Has_any h l n w q6 hh hl hn
    have hs1 := bs_size h
    have hs2 := bs_size l
    obtain ⟨H, hH⟩ : ∃ k, h.length = k := ⟨_, rfl⟩
    obtain ⟨L, hL⟩ : ∃ k, l.length = k := ⟨_, rfl⟩
    obtain ⟨N, hN⟩ : ∃ k, H + L = k := ⟨_, rfl⟩
    have hw1 : IntKind.i64.wrap ((H : Int) + (L : Int)) = (N : Int) := by rw [IntKind.wrap_i64]; omega
    obtain ⟨a, ha⟩ : ∃ a, atS h l = a := ⟨_, rfl⟩
    rw [ha] at HL HAB HA
    rw [hH, hL, hN] at HAB
    rw [hH] at hs1
    rw [hL] at hs2
    rw [HF.out]
    obtain ⟨r, hr⟩ : ∃ r, Lib.indexByte (h ++ l) 49 = r := ⟨_, rfl⟩
    rw [hr] at HL ⊢
    have hNb : N ≤ 640 := by omega
    clear hH hL hN ha hr hh hl q3 q4 q5 q6
    go_enter Tryd.func22, Tryd.ntmps22
    go_wp2_with fail
    generalize hW0 : World.alloc w _ = W
    obtain ⟨hx, hsx, hwx⟩ := s2_new hW0
    clear hW0
    go_loopw [3] (fun i wr => ∃ k : Nat, i = .int .i64 k ∧ k ≤ N ∧ S2 wr w.heap.size (bs h) (bs l) ∧ Below w.heap.size w wr ∧ ∀ m, m < k → inS a m = false) (fun i _ => N - (intOf i).toNat)
    case atStart => exact ⟨0, rfl, Nat.zero_le _, hx, hwx, fun m hm => absurd hm (Nat.not_lt_zero _)⟩
    case round =>
      obtain ⟨k, rfl, hk, hX, hB, hall⟩ := hrel
      have HN := Lib.hid hall
      have HB := Lib.hid hB
      have HX := Lib.hid hX
      clear hall hX hB hwx hx
      obtain ⟨x0, x1, x2, x3⟩ := HX.out
      go_wp2_with fail
      refine (HV.out _).mono ?_
      rintro e w3 ⟨rfl, hw⟩
      have HB3 := Lib.hid (below_on HB.out hw)
      have HX3 := Lib.hid (s2_on HX.out hw)
      clear x0 x1 x2 x3 hw
      obtain ⟨x0, x1, x2, x3⟩ := HX3.out
      by_cases hlt : k < N
      · have hk' : (k : Int) < (N : Int) := by omega
        have hwk : IntKind.i64.wrap ((k : Int) + 1) = ((k + 1 : Nat) : Int) := by rw [IntKind.wrap_i64]; omega
        go_wp2_with fail
        refine (HA.out k (by omega) _).mono ?_
        rintro e w4 ⟨rfl, hw⟩
        have HB4 := Lib.hid (below_on HB3.out hw)
        have HX4 := Lib.hid (s2_on HX3.out hw)
        clear x0 x1 x2 x3 hw
        cases hi : inS a k with
        | true =>
          have HE := Lib.hid (least_one HL.out (.inr ⟨k, rfl, hi, HN.out⟩))
          clear hi
          go_wp2
          go_ret
          exact ⟨ret_int HE.out.symm, HB4.out⟩
        | false =>
          have HN2 := Lib.hid (show ∀ m, m < k + 1 → inS a m = false from fun m hm => by
            by_cases e : m = k
            · rw [e]; exact hi
            · exact HN.out m (by omega))
          clear hi
          go_wp2
          go_roundw
          case rel => exact ⟨k + 1, rfl, by omega, HX4.out, HB4.out, HN2.out⟩
          case measure => simp [intOf]; omega
      · have hk' : ¬ (k : Int) < (N : Int) := by omega
        have HE := Lib.hid (least_one HL.out (.inl ⟨rfl, fun n => by
          obtain ⟨m, _, hm, e⟩ := HAB.out n
          have := HN.out m (by omega)
          unfold inS at this ⊢
          rw [e]; exact this⟩))
        go_wp2
        go_ret
        exact ⟨ret_int HE.out.symm, HB3.out⟩

set_option maxHeartbeats 2000000 in
theorem specGreatestOf_any (h l : List UInt8) (w : World) (hh : h.length ≤ 1000000000) (hl : l.length ≤ 1000000000) :
    Calls Tryd.prog 23 #[.agg #[.string (bs h), .string (bs l)]] w fun e w' => e = .returned (.int .i64 (gtR h l)) ∧ Below w.heap.size w w' := by
  have HV := Lib.hid fun w => specSetValid_b h l w hh hl
  have HS := Lib.hid (svS_parts (h := h) (l := l))
  obtain ⟨v, hv⟩ : ∃ v, svS h l = v := ⟨_, rfl⟩
  have HQ : Hid (svS h l = v) := Lib.hid hv
  rw [hv] at HV
  clear hv
  cases v with
  | false =>
    have HF : Hid (gtR h l = -3) := Lib.hid (by unfold gtR; rw [HQ.out]; rfl)
    rw [HF.out]
    go_enter Tryd.func23, Tryd.ntmps23
    go_wp2_with fail
    generalize hW0 : World.alloc w _ = W
    obtain ⟨hx, hsx, hwx⟩ := s2_new hW0
    clear hW0
    refine (HV.out _).mono ?_
    rintro e w3 ⟨rfl, hw⟩
    go_wp2
    go_ret
    exact ⟨rfl, below_on hwx hw⟩
  | true =>
    obtain ⟨q1, _, q3, q4, q5, q6⟩ := HS.out HQ.out
    have HF : Hid (gtR h l = mostI h l) := Lib.hid (by unfold gtR; rw [HQ.out]; rfl)
    have HFd : Hid (∀ w, Calls Tryd.prog 39 #[.string (bs l), .int .u8 49] w fun e w' => e = .returned (.int .i64 (fndI 49 l 0)) ∧ w = w') := Lib.hid fun w => l17Find_any l 49 w hl
    obtain ⟨z, hz⟩ : ∃ z, fndI 49 l 0 = z := ⟨_, rfl⟩
    have hfd := fnd_ge 49 l 0
    rw [show ((0 : Nat) : Int) = 0 from rfl, hz] at hfd
    rw [hz] at HFd
    have hs1 := bs_size h
    have hs2 := bs_size l
    rw [HF.out]
    clear hh hl
    rcases hfd with ⟨hz1, hc⟩ | ⟨hz1, hc⟩
    · have HE : Hid (mostI h l = lastI h h.length) := Lib.hid (by unfold mostI; rw [if_pos hc])
      rw [HE.out]
      subst hz1
      obtain ⟨H, hH⟩ : ∃ k, h.length = k := ⟨_, rfl⟩
      have HH := Lib.hid hH
      have HQ1 := Lib.hid q1
      rw [hH] at hs1 q3 ⊢
      obtain ⟨r, hr⟩ : ∃ r, lastI h H = r := ⟨_, rfl⟩
      have HR := Lib.hid hr
      rw [hr]
      have hw1 : IntKind.i64.wrap ((H : Int) - 1) = (H : Int) - 1 := by rw [IntKind.wrap_i64]; omega
      clear hz hc hH q1 q4 q5 q6 hr
      go_enter Tryd.func23, Tryd.ntmps23
      go_wp2_with fail
      generalize hW0 : World.alloc w _ = W
      obtain ⟨hx, hsx, hwx⟩ := s2_new hW0
      clear hW0
      refine (HV.out _).mono ?_
      rintro e w3 ⟨rfl, hw⟩
      have k3 := below_on hwx hw
      have X3 := s2_on hx hw
      clear hx hwx hw
      obtain ⟨x0, x1, x2, x3⟩ := id X3
      go_wp2_with fail
      refine (HFd.out _).mono ?_
      rintro e w4 ⟨rfl, rfl⟩
      go_wp2_with fail
      go_loopw [3] (fun i wr => ∃ k : Nat, i = .int .i64 ((k : Int) - 1) ∧ k ≤ H ∧ wr = w3 ∧ lastI h k = r) (fun i _ => (intOf i + 1).toNat)
      case atStart => exact ⟨H, by go_num, Nat.le_refl _, rfl, HR.out⟩
      case round =>
        obtain ⟨k, rfl, hk, rfl, hrk⟩ := hrel
        cases k with
        | zero =>
          have HE0 := Lib.hid hrk
          clear hrk
          go_wp2
          go_ret
          exact ⟨by rw [← HE0.out]; rfl, k3⟩
        | succ j =>
          obtain ⟨x, hx⟩ : ∃ x, h[j]? = some x := ⟨_, List.getElem?_eq_getElem (by rw [HH.out]; omega)⟩
          have hix := fun w => run_at (P := Tryd.prog) Tryd.underlying9 hx .i64 w
          have hj1 : ((j + 1 : Nat) : Int) - 1 = (j : Int) := by omega
          have hgd : h.getD j 0 = x := by rw [List.getD_eq_getElem?_getD, hx, Option.getD_some]
          have hj0 : (0 : Int) ≤ (j : Int) := by omega
          have hwj : IntKind.i64.wrap ((j : Int) - 1) = (j : Int) - 1 := by rw [IntKind.wrap_i64]; omega
          have hxb := HQ1.out x (List.mem_of_getElem? hx)
          rw [hj1]
          unfold lastI at hrk
          rw [hgd] at hrk
          clear hx hgd
          rcases hxb with rfl | rfl
          · have HRK := Lib.hid (show lastI h j = r by rw [← hrk]; rfl)
            clear hrk
            go_wp2
            go_roundw
            case rel => exact ⟨j, rfl, by omega, trivial, HRK.out⟩
            case measure => simp [intOf]
          · have HRK := Lib.hid (show (j : Int) = r by rw [← hrk]; rfl)
            clear hrk
            go_wp2
            go_ret
            exact ⟨ret_int HRK.out, k3⟩
    · have HE : Hid (mostI h l = -2) := Lib.hid (by unfold mostI; rw [if_neg hc])
      rw [HE.out]
      clear hz hc
      go_enter Tryd.func23, Tryd.ntmps23
      go_wp2_with fail
      generalize hW0 : World.alloc w _ = W
      obtain ⟨hx, hsx, hwx⟩ := s2_new hW0
      clear hW0
      refine (HV.out _).mono ?_
      rintro e w3 ⟨rfl, hw⟩
      have k3 := below_on hwx hw
      obtain ⟨x0, x1, x2, x3⟩ := s2_on hx hw
      clear hx hwx hw
      go_wp2_with fail
      refine (HFd.out _).mono ?_
      rintro e w4 ⟨rfl, rfl⟩
      go_wp2
      go_ret
      exact ⟨rfl, k3⟩

end Go.Proofs.YtbckigekedpdgaaDoor
