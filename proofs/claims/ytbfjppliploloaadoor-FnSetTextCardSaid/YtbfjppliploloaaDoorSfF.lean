/- The texts of sets, of the model and of the program. -/
import Derived.Test.YtbfjppliploloaaDoorSf7
import Derived.Test.YtbfjppliploloaaDoorSfM
namespace Go.Proofs.YtbfjppliploloaaDoor
open Go.RowKit

def fsT (h l : List UInt8) : List UInt8 := if svS h l then h ++ [40] ++ l ++ [41] else []

set_option maxHeartbeats 1000000 in
theorem specFormatSet_any (h l : List UInt8) (w : World) (hh : h.length ≤ 1000000000) (hl : l.length ≤ 1000000000) :
    Calls Tryd.prog 6 #[.agg #[.string (bs h), .string (bs l)]] w fun e w' => e = .returned (.string (bs (fsT h l))) ∧ Below w.heap.size w w' := by
  have HV := Lib.hid fun w => specSetValid_b h l w hh hl
  have HS := Lib.hid (svS_parts (h := h) (l := l))
  obtain ⟨v, hv⟩ : ∃ v, svS h l = v := ⟨_, rfl⟩
  have HQ : Hid (svS h l = v) := Lib.hid hv
  rw [hv] at HV
  clear hv
  cases v with
  | false =>
    have HF : Hid (fsT h l = []) := Lib.hid (by unfold fsT; rw [HQ.out]; rfl)
    rw [HF.out]
    go_enter Tryd.func6, Tryd.ntmps6
    go_wp2_with fail
    generalize hW0 : World.alloc w _ = W
    obtain ⟨hx, hsx, hwx⟩ := s2_new hW0
    clear hW0
    refine (HV.out _).mono ?_
    rintro e w3 ⟨rfl, hw⟩
    go_wp2
    go_ret
    exact ⟨rfl, below_on hwx hw⟩
  | true =>
    obtain ⟨_, _, q3, _, q5, _⟩ := HS.out HQ.out
    have HF : Hid (fsT h l = h ++ [40] ++ l ++ [41]) := Lib.hid (by unfold fsT; rw [HQ.out]; rfl)
    rw [HF.out]
    have hb1 : ({ data := #[40] } : ByteArray) = bs [40] := rfl
    have hb2 : ({ data := #[41] } : ByteArray) = bs [41] := rfl
    have happ := bs_app
    have hsz := bs_size
    clear hh hl
    go_enter Tryd.func6, Tryd.ntmps6
    go_wp2_with fail
    generalize hW0 : World.alloc w _ = W
    obtain ⟨hx, hsx, hwx⟩ := s2_new hW0
    clear hW0
    refine (HV.out _).mono ?_
    rintro e w3 ⟨rfl, hw⟩
    obtain ⟨a0, a1, a2, a3⟩ := s2_on hx hw
    have hb3 := below_on hwx hw
    clear hx hwx hw
    go_wp2
    go_ret
    exact ⟨by first | rfl | simp, hb3⟩

set_option maxHeartbeats 1000000 in
theorem FormatSet_any (h l : List UInt8) (w : World) (hh : h.length ≤ 1000000000) (hl : l.length ≤ 1000000000) :
    Calls Tryd.prog 5 #[.agg #[.string (bs h), .string (bs l)]] w fun e w' => e = .returned (.string (bs (fsT h l))) ∧ Below w.heap.size w w' := by
  have HV := Lib.hid fun w => SetValid_any h l w hh hl
  have HS := Lib.hid (svS_parts (h := h) (l := l))
  obtain ⟨v, hv⟩ : ∃ v, svS h l = v := ⟨_, rfl⟩
  have HQ : Hid (svS h l = v) := Lib.hid hv
  rw [hv] at HV
  clear hv
  cases v with
  | false =>
    have HF : Hid (fsT h l = []) := Lib.hid (by unfold fsT; rw [HQ.out]; rfl)
    rw [HF.out]
    go_enter Tryd.func5, Tryd.ntmps5
    go_wp2_with fail
    generalize hW0 : World.alloc w _ = W
    obtain ⟨hx, hsx, hwx⟩ := s2_new hW0
    clear hW0
    refine (HV.out _).mono ?_
    rintro e w3 ⟨rfl, hw⟩
    go_wp2
    go_ret
    exact ⟨rfl, below_on hwx hw⟩
  | true =>
    obtain ⟨_, _, q3, _, q5, _⟩ := HS.out HQ.out
    have HF : Hid (fsT h l = h ++ [40] ++ l ++ [41]) := Lib.hid (by unfold fsT; rw [HQ.out]; rfl)
    rw [HF.out]
    have hb1 : ({ data := #[40] } : ByteArray) = bs [40] := rfl
    have hb2 : ({ data := #[41] } : ByteArray) = bs [41] := rfl
    have happ := bs_app
    have hsz := bs_size
    clear hh hl
    go_enter Tryd.func5, Tryd.ntmps5
    go_wp2_with fail
    generalize hW0 : World.alloc w _ = W
    obtain ⟨hx, hsx, hwx⟩ := s2_new hW0
    clear hW0
    refine (HV.out _).mono ?_
    rintro e w3 ⟨rfl, hw⟩
    obtain ⟨a0, a1, a2, a3⟩ := s2_on hx hw
    have hb3 := below_on hwx hw
    clear hx hwx hw
    go_wp2
    go_ret
    exact ⟨by first | rfl | simp, hb3⟩

end Go.Proofs.YtbfjppliploloaaDoor
