/- The program's least and greatest number of a set, and its count. -/
import Derived.Test.YtbckigekedpdgaaDoorSetF
import Derived.Test.YtbckigekedpdgaaDoorSfM
import Derived.Lib.LastIndexByte
import Derived.BigQuiet
import Derived.Deep.RegionHeld3
import Derived.BigGuardPart
namespace Go.Proofs.YtbckigekedpdgaaDoor
open Go.RowKit

theorem s2_cells {W w' : World} {b : Nat} {x y : ByteArray} (h : S2 W b x y) (hb : Below W.heap.size W w') : w'.cell? ⟨b, 0, none⟩ = some (.string x) ∧ w'.cell? ⟨b, 1, none⟩ = some (.string y) :=
  have h1 := s2_on h hb
  ⟨h1.2.1, h1.2.2.1⟩
theorem count_is (l : List UInt8) (w : World) :
    Calls Tryd.prog 55 #[.string (bs l), .string ⟨#[49]⟩] w fun e w' => e = .returned (.int .i64 (l.count 49 : Nat)) ∧ w' = w :=
  (Tryd.strings_Count_one (bs l) 49 w).mono fun _ _ ⟨he, hw⟩ => ⟨by rw [he, bs_data]; rfl, hw⟩
theorem index_is (l : List UInt8) (w : World) :
    Calls Tryd.prog 36 #[.string (bs l), .int .u8 49] w fun e w' => e = .returned (.int .i64 (Lib.indexByte l 49)) ∧ w' = w :=
  (Tryd.strings_IndexByte (bs l) 49 w).mono fun _ _ ⟨he, hw⟩ => ⟨by rw [he, bs_data]; rfl, hw⟩

theorem countIn_any (l : List UInt8) (w : World) :
    Calls Tryd.prog 37 #[.string (bs l)] w fun e w' => e = .returned (.int .i64 (l.count 49 : Nat)) ∧ w' = w := by
  have HC := Lib.hid fun w => count_is l w
  go_enter Tryd.func37, Tryd.ntmps37
  go_wp2_with fail
  refine (HC.out _).mono ?_
  rintro e w1 ⟨rfl, rfl⟩
  go_wp2
  go_ret
  exact ⟨rfl, rfl⟩

theorem last_lib (h : List UInt8) : ∀ k, k ≤ h.length → Lib.lastIdx (bs h) 49 k = lastI h k
  | 0, _ => rfl
  | k + 1, hk => by
    have e : (bs h).data[k]! = h.getD k 0 := by
      show h.toArray[k]! = _
      rw [List.getElem!_toArray, List.getD_eq_getElem?_getD, getElem!_pos _ k (by omega), List.getElem?_eq_getElem (by omega), Option.getD_some]
    unfold Lib.lastIdx lastI
    rw [last_lib h k (by omega), e]
    have hq := u8_eq (h.getD k 0) 49
    rw [show (((49 : UInt8).toNat : Nat) : Int) = 49 from rfl] at hq
    rw [← hq]
    simp
theorem last_is (h : List UInt8) (w : World) (hh : h.length ≤ 1000000000) :
    Calls Tryd.prog 38 #[.string (bs h), .int .u8 49] w fun e w' => e = .returned (.int .i64 (lastI h h.length)) ∧ w' = w :=
  (Tryd.strings_LastIndexByte (bs h) 49 (by rw [bs_size]; omega) w).mono fun _ _ ⟨he, hw⟩ => ⟨by rw [he, ← last_lib h _ (Nat.le_refl _)]; unfold Lib.lastIndexByte; rw [bs_size], hw⟩

set_option maxHeartbeats 2000000 in
theorem LeastOf_any (h l : List UInt8) (w : World) (hh : h.length ≤ 1000000000) (hl : l.length ≤ 1000000000) :
    Calls Tryd.prog 20 #[.agg #[.string (bs h), .string (bs l)]] w fun e w' => e = .returned (.int .i64 (leR h l)) ∧ Below w.heap.size w w' := by
  have HV := Lib.hid fun w => SetValid_any h l w hh hl
  have HS := Lib.hid (svS_parts (h := h) (l := l))
  obtain ⟨v, hv⟩ : ∃ v, svS h l = v := ⟨_, rfl⟩
  have HQ : Hid (svS h l = v) := Lib.hid hv
  rw [hv] at HV
  clear hv
  cases v with
  | false =>
    have HF : Hid (leR h l = -1) := Lib.hid (by unfold leR; rw [HQ.out]; rfl)
    rw [HF.out]
    go_enter Tryd.func20, Tryd.ntmps20
    go_wp2_with fail
    generalize hW0 : World.alloc w _ = W
    obtain ⟨hx, hsx, hwx⟩ := s2_new hW0
    clear hW0
    refine (HV.out _).mono ?_
    rintro e w3 ⟨rfl, hw⟩
    go_wp2
    go_ret
    exact ⟨rfl, below_on hwx hw⟩
  | true =>
    obtain ⟨_, _, q3, _, q5, _⟩ := HS.out HQ.out
    have HF : Hid (leR h l = Lib.indexByte (h ++ l) 49) := Lib.hid (by unfold leR; rw [HQ.out]; rfl)
    have HC := Lib.hid fun w => index_is (h ++ l) w
    obtain ⟨r, hr⟩ : ∃ r, Lib.indexByte (h ++ l) 49 = r := ⟨_, rfl⟩
    rw [hr] at HC HF
    rw [HF.out]
    have happ := bs_app
    have hsz := bs_size
    clear hr hh hl
    go_enter Tryd.func20, Tryd.ntmps20
    go_wp2_with fail
    generalize hW0 : World.alloc w _ = W
    obtain ⟨hx, hsx, hwx⟩ := s2_new hW0
    clear hW0
    refine (HV.out _).mono ?_
    rintro e w3 ⟨rfl, hw⟩
    have k3 := below_on hwx hw
    obtain ⟨x0, x1, x2, x3⟩ := s2_on hx hw
    clear hx hwx hw
    go_wp2_with fail
    refine (HC.out _).mono ?_
    rintro e w1 ⟨rfl, rfl⟩
    go_wp2
    go_ret
    exact ⟨rfl, k3⟩

set_option maxHeartbeats 2000000 in
theorem GreatestOf_any (h l : List UInt8) (w : World) (hh : h.length ≤ 1000000000) (hl : l.length ≤ 1000000000) :
    Calls Tryd.prog 21 #[.agg #[.string (bs h), .string (bs l)]] w fun e w' => e = .returned (.int .i64 (gtR h l)) ∧ Below w.heap.size w w' := by
  have HV := Lib.hid fun w => SetValid_any h l w hh hl
  have HS := Lib.hid (svS_parts (h := h) (l := l))
  obtain ⟨v, hv⟩ : ∃ v, svS h l = v := ⟨_, rfl⟩
  have HQ : Hid (svS h l = v) := Lib.hid hv
  rw [hv] at HV
  clear hv
  cases v with
  | false =>
    have HF : Hid (gtR h l = -3) := Lib.hid (by unfold gtR; rw [HQ.out]; rfl)
    rw [HF.out]
    go_enter Tryd.func21, Tryd.ntmps21
    go_wp2_with fail
    generalize hW0 : World.alloc w _ = W
    obtain ⟨hx, hsx, hwx⟩ := s2_new hW0
    clear hW0
    refine (HV.out _).mono ?_
    rintro e w3 ⟨rfl, hw⟩
    go_wp2
    go_ret
    exact ⟨rfl, below_on hwx hw⟩
  | true =>
    have HF : Hid (gtR h l = mostI h l) := Lib.hid (by unfold gtR; rw [HQ.out]; rfl)
    have HC := Lib.hid fun w => countIn_any l w
    have HLs := Lib.hid fun w => last_is h w hh
    obtain ⟨r, hr⟩ : ∃ r, lastI h h.length = r := ⟨_, rfl⟩
    obtain ⟨c, hc⟩ : ∃ c, l.count 49 = c := ⟨_, rfl⟩
    have HM : Hid (mostI h l = if c = 0 then r else -2) := Lib.hid (by unfold mostI; rw [hc, hr])
    rw [hr] at HLs
    rw [hc] at HC
    rw [HF.out, HM.out]
    clear hr hc hh hl
    by_cases hc0 : c = 0
    · rw [if_pos hc0]
      subst hc0
      go_enter Tryd.func21, Tryd.ntmps21
      go_wp2_with fail
      generalize hW0 : World.alloc w _ = W
      obtain ⟨hx, hsx, hwx⟩ := s2_new hW0
      clear hW0
      refine (HV.out _).mono ?_
      rintro e w3 ⟨rfl, hw⟩
      have k3 := below_on hwx hw
      obtain ⟨x0, x1, x2, x3⟩ := s2_on hx hw
      clear hx hwx hw
      go_wp2_with fail
      refine (HC.out _).mono ?_
      rintro e w1 ⟨rfl, rfl⟩
      go_wp2_with fail
      refine (HLs.out _).mono ?_
      rintro e w1 ⟨rfl, rfl⟩
      go_wp2
      go_ret
      exact ⟨rfl, k3⟩
    · rw [if_neg hc0]
      have hc1 : (0 : Int) < (c : Int) := by omega
      clear hc0
      go_enter Tryd.func21, Tryd.ntmps21
      go_wp2_with fail
      generalize hW0 : World.alloc w _ = W
      obtain ⟨hx, hsx, hwx⟩ := s2_new hW0
      clear hW0
      refine (HV.out _).mono ?_
      rintro e w3 ⟨rfl, hw⟩
      have k3 := below_on hwx hw
      obtain ⟨x0, x1, x2, x3⟩ := s2_on hx hw
      clear hx hwx hw
      go_wp2_with fail
      refine (HC.out _).mono ?_
      rintro e w1 ⟨rfl, rfl⟩
      go_wp2
      go_ret
      exact ⟨rfl, k3⟩

end Go.Proofs.YtbckigekedpdgaaDoor
