/- HasNumber of the model and of the program. -/
import Derived.Test.YtkhnninnmpffmaaDoorSetF
namespace Go.Proofs.YtkhnninnmpffmaaDoor
open Go.RowKit

def hnB (h l : List UInt8) (n : Int) : Bool := (svS h l && decide (0 ≤ n)) && inS (atS h l) n.toNat

set_option maxHeartbeats 1000000 in
theorem HasNumber_any (h l : List UInt8) (n : Int) (w : World) (hh : h.length ≤ 1000000000) (hl : l.length ≤ 1000000000) (h0 : -9223372036854775808 ≤ n) (hn : n ≤ 9223372036854775807) :
    Calls Tryd.prog 18 #[.agg #[.string (bs h), .string (bs l)], .int .i64 n] w fun e w' => e = .returned (.bool (hnB h l n)) ∧ Below w.heap.size w w' := by
  have HV := Lib.hid fun w => SetValid_any h l w hh hl
  have HS := Lib.hid (svS_parts (h := h) (l := l))
  obtain ⟨v, hv⟩ : ∃ v, svS h l = v := ⟨_, rfl⟩
  have HQ : Hid (svS h l = v) := Lib.hid hv
  rw [hv] at HV
  clear hv
  cases v with
  | false =>
    have HF : Hid (hnB h l n = false) := Lib.hid (by unfold hnB; rw [HQ.out]; rfl)
    rw [HF.out]
    go_enter Tryd.func18, Tryd.ntmps18
    go_wp2_with fail
    generalize hW0 : World.alloc w _ = W
    obtain ⟨hx, hsx, hwx⟩ := s2_new hW0
    clear hW0
    refine (HV.out _).mono ?_
    rintro e w3 ⟨rfl, hw⟩
    skip
    go_wp2
    go_ret
    exact ⟨rfl, below_on hwx hw⟩
  | true =>
    by_cases hneg : n < 0
    · have d0 : decide (0 ≤ n) = false := decide_eq_false (by omega)
      have HF : Hid (hnB h l n = false) := Lib.hid (by unfold hnB; rw [HQ.out, d0]; rfl)
      rw [HF.out]
      go_enter Tryd.func18, Tryd.ntmps18
      go_wp2_with fail
      generalize hW0 : World.alloc w _ = W
      obtain ⟨hx, hsx, hwx⟩ := s2_new hW0
      clear hW0
      refine (HV.out _).mono ?_
      rintro e w3 ⟨rfl, hw⟩
      skip
      go_wp2
      go_ret
      exact ⟨rfl, below_on hwx hw⟩
    · obtain ⟨k, rfl⟩ : ∃ k : Nat, n = k := ⟨n.toNat, by omega⟩
      have d0 : decide (0 ≤ (k : Int)) = true := decide_eq_true (by omega)
      have HF : Hid (hnB h l k = inS (atS h l) k) := Lib.hid (by unfold hnB; rw [HQ.out, d0]; rfl)
      obtain ⟨q1, q2, _, _, _, q6⟩ := HS.out HQ.out
      have HR := Lib.hid fun w => has_any h l k w q6 hh hl (by omega)
      obtain ⟨b, hb⟩ : ∃ b, inS (atS h l) k = b := ⟨_, rfl⟩
      rw [hb] at HF HR
      rw [HF.out]
      clear hb q1 q2 q6
      go_enter Tryd.func18, Tryd.ntmps18
      go_wp2_with fail
      generalize hW0 : World.alloc w _ = W
      obtain ⟨hx, hsx, hwx⟩ := s2_new hW0
      clear hW0
      refine (HV.out _).mono ?_
      rintro e w3 ⟨rfl, hw⟩
      skip
      obtain ⟨a0, a1, a2, a3⟩ := s2_on hx hw
      have hb3 := below_on hwx hw
      go_wp2_with fail
      refine (HR.out _).mono ?_
      rintro e w4 ⟨rfl, hb4⟩
      have hb5 := below_on hb3 hb4
      go_wp2
      go_ret
      exact ⟨rfl, hb5⟩

end Go.Proofs.YtkhnninnmpffmaaDoor
