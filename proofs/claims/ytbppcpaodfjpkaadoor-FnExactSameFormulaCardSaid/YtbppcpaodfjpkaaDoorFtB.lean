/- A node's own text, the program. -/
import Derived.Test.YtbppcpaodfjpkaaDoorFtM
import Derived.Test.YtbppcpaodfjpkaaDoorWd
import Derived.Test.YtbppcpaodfjpkaaDoorFormK
import Derived.Deep.RegionHeld3
import Derived.BigQuiet
namespace Go.Proofs.YtbppcpaodfjpkaaDoor
open Go.RowKit

theorem Tryd.tb_bound (b : Bool) (v : Int) (t : TypeId) (y : Value) (w : World) : (Instr.typeAssert (.iface 116 (.agg #[.bool b, .int .i64 v, .iface t y])) 84 116 true).run Tryd.prog w = .ok (.tuple #[.agg #[.bool b, .int .i64 v, .iface t y], .bool true]) w := by kernel_rfl
theorem Tryd.tb_other (t : TypeId) (y : Value) (h : t = 131 ∨ t = 133 ∨ t = 135) (w : World) : (Instr.typeAssert (.iface t y) 84 116 true).run Tryd.prog w = .ok (.tuple #[.agg #[.bool false, .int .i64 0, .nilIface], .bool false]) w := by
  rcases h with rfl | rfl | rfl
  · kernel_rfl
  · kernel_rfl
  · kernel_rfl

def OtT (h : FH) (w : World) (e : Ending) (w' : World) : Prop := e = .returned (.string (bs (owT h))) ∧ Below w.heap.size w w'

set_option maxRecDepth 10000 in
set_option maxHeartbeats 1000000 in
theorem ownText_0 (w : World) (hw : Words w) :
    Calls Tryd.prog 48 #[.iface 131 (.agg #[.bool true])] w fun e w' => e = .returned (.string (bs (wdT 0))) ∧ Below w.heap.size w w' := by
  obtain ⟨B, O, CAP, hw0⟩ := hw
  have HW := Lib.hid hw0
  have hcap := hw0.2.1
  have hcap2 := hw0.2.2.1
  have hsz := bs_size (wdT 0)
  clear hw0
  have hta := fun w => Tryd.ta_other 131 (.agg #[.bool true]) (by simp) w
  have htb := fun w => Tryd.tb_other 131 (.agg #[.bool true]) (by simp) w
  go_enter Tryd.func48, Tryd.ntmps48
  go_upto_region 1 with fail
  go_region_held3 (fun w' => Below w.heap.size w w' ∧ w'.cell? ⟨0, 0, none⟩ = some (.slice (some ⟨B, O, none⟩) 8 CAP) ∧ w'.cell? ⟨B, O, none⟩ = some (.string (bs (wdT 0)))) (exact keepWd HW.out 0 (by decide) (by go_grown)) (first | (go_at_call 126; refine (kind_t _ _).mono ?_; rintro e wk ⟨rfl, hbk⟩; have hbw := below_on (w := w) (by go_grown) hbk; have hsk : w.heap.size ≤ wk.heap.size := hbw.size))
  go_wp2
  go_ret
  exact ⟨rfl, by go_grown⟩

set_option maxRecDepth 10000 in
set_option maxHeartbeats 1000000 in
theorem ownText_1 (w : World) (hw : Words w) :
    Calls Tryd.prog 48 #[.iface 131 (.agg #[.bool false])] w fun e w' => e = .returned (.string (bs (wdT 1))) ∧ Below w.heap.size w w' := by
  obtain ⟨B, O, CAP, hw0⟩ := hw
  have HW := Lib.hid hw0
  have hcap := hw0.2.1
  have hcap2 := hw0.2.2.1
  have hsz := bs_size (wdT 1)
  clear hw0
  have hta := fun w => Tryd.ta_other 131 (.agg #[.bool false]) (by simp) w
  have htb := fun w => Tryd.tb_other 131 (.agg #[.bool false]) (by simp) w
  go_enter Tryd.func48, Tryd.ntmps48
  go_upto_region 1 with fail
  go_region_held3 (fun w' => Below w.heap.size w w' ∧ w'.cell? ⟨0, 0, none⟩ = some (.slice (some ⟨B, O, none⟩) 8 CAP) ∧ w'.cell? ⟨B, O + 1, none⟩ = some (.string (bs (wdT 1)))) (exact keepWd HW.out 1 (by decide) (by go_grown)) (first | (go_at_call 126; refine (kind_t _ _).mono ?_; rintro e wk ⟨rfl, hbk⟩; have hbw := below_on (w := w) (by go_grown) hbk; have hsk : w.heap.size ≤ wk.heap.size := hbw.size))
  go_wp2
  go_ret
  exact ⟨rfl, by go_grown⟩

set_option maxRecDepth 10000 in
set_option maxHeartbeats 1000000 in
theorem ownText_3 (t : TypeId) (y : Value) (w : World) (hw : Words w) :
    Calls Tryd.prog 48 #[.iface 133 (.agg #[.iface t y])] w fun e w' => e = .returned (.string (bs (wdT 3))) ∧ Below w.heap.size w w' := by
  obtain ⟨B, O, CAP, hw0⟩ := hw
  have HW := Lib.hid hw0
  have hcap := hw0.2.1
  have hcap2 := hw0.2.2.1
  have hsz := bs_size (wdT 3)
  clear hw0
  have hta := fun w => Tryd.ta_other 133 (.agg #[.iface t y]) (by simp) w
  have htb := fun w => Tryd.tb_other 133 (.agg #[.iface t y]) (by simp) w
  go_enter Tryd.func48, Tryd.ntmps48
  go_upto_region 1 with fail
  go_region_held3 (fun w' => Below w.heap.size w w' ∧ w'.cell? ⟨0, 0, none⟩ = some (.slice (some ⟨B, O, none⟩) 8 CAP) ∧ w'.cell? ⟨B, O + 3, none⟩ = some (.string (bs (wdT 3)))) (exact keepWd HW.out 3 (by decide) (by go_grown)) (first | (go_at_call 128; refine (kind_n _ _ _).mono ?_; rintro e wk ⟨rfl, hbk⟩; have hbw := below_on (w := w) (by go_grown) hbk; have hsk : w.heap.size ≤ wk.heap.size := hbw.size))
  go_wp2
  go_ret
  exact ⟨rfl, by go_grown⟩

set_option maxRecDepth 10000 in
set_option maxHeartbeats 1000000 in
theorem ownText_4 (t : TypeId) (y : Value) (t' : TypeId) (y' : Value) (w : World) (hw : Words w) :
    Calls Tryd.prog 48 #[.iface 135 (.agg #[.bool true, .iface t y, .iface t' y'])] w fun e w' => e = .returned (.string (bs (wdT 4))) ∧ Below w.heap.size w w' := by
  obtain ⟨B, O, CAP, hw0⟩ := hw
  have HW := Lib.hid hw0
  have hcap := hw0.2.1
  have hcap2 := hw0.2.2.1
  have hsz := bs_size (wdT 4)
  clear hw0
  have hta := fun w => Tryd.ta_other 135 (.agg #[.bool true, .iface t y, .iface t' y']) (by simp) w
  have htb := fun w => Tryd.tb_other 135 (.agg #[.bool true, .iface t y, .iface t' y']) (by simp) w
  go_enter Tryd.func48, Tryd.ntmps48
  go_upto_region 1 with fail
  go_region_held3 (fun w' => Below w.heap.size w w' ∧ w'.cell? ⟨0, 0, none⟩ = some (.slice (some ⟨B, O, none⟩) 8 CAP) ∧ w'.cell? ⟨B, O + 4, none⟩ = some (.string (bs (wdT 4)))) (exact keepWd HW.out 4 (by decide) (by go_grown)) (first | (go_at_call 130; refine (kind_p _ _ _ _ _ _).mono ?_; rintro e wk ⟨rfl, hbk⟩; have hbw := below_on (w := w) (by go_grown) hbk; have hsk : w.heap.size ≤ wk.heap.size := hbw.size))
  go_wp2
  go_ret
  exact ⟨rfl, by go_grown⟩

set_option maxRecDepth 10000 in
set_option maxHeartbeats 1000000 in
theorem ownText_5 (t : TypeId) (y : Value) (t' : TypeId) (y' : Value) (w : World) (hw : Words w) :
    Calls Tryd.prog 48 #[.iface 135 (.agg #[.bool false, .iface t y, .iface t' y'])] w fun e w' => e = .returned (.string (bs (wdT 5))) ∧ Below w.heap.size w w' := by
  obtain ⟨B, O, CAP, hw0⟩ := hw
  have HW := Lib.hid hw0
  have hcap := hw0.2.1
  have hcap2 := hw0.2.2.1
  have hsz := bs_size (wdT 5)
  clear hw0
  have hta := fun w => Tryd.ta_other 135 (.agg #[.bool false, .iface t y, .iface t' y']) (by simp) w
  have htb := fun w => Tryd.tb_other 135 (.agg #[.bool false, .iface t y, .iface t' y']) (by simp) w
  go_enter Tryd.func48, Tryd.ntmps48
  go_upto_region 1 with fail
  go_region_held3 (fun w' => Below w.heap.size w w' ∧ w'.cell? ⟨0, 0, none⟩ = some (.slice (some ⟨B, O, none⟩) 8 CAP) ∧ w'.cell? ⟨B, O + 5, none⟩ = some (.string (bs (wdT 5)))) (exact keepWd HW.out 5 (by decide) (by go_grown)) (first | (go_at_call 130; refine (kind_p _ _ _ _ _ _).mono ?_; rintro e wk ⟨rfl, hbk⟩; have hbw := below_on (w := w) (by go_grown) hbk; have hsk : w.heap.size ≤ wk.heap.size := hbw.size))
  go_wp2
  go_ret
  exact ⟨rfl, by go_grown⟩

set_option maxRecDepth 10000 in
set_option maxHeartbeats 1000000 in
theorem ownText_6 (t : TypeId) (y : Value) (v : Nat) (hv : v ≤ 3) (w : World) (hw : Words w) :
    Calls Tryd.prog 48 #[.iface 116 (.agg #[.bool true, .int .i64 (v : Int), .iface t y])] w fun e w' => e = .returned (.string (bs (wdT 6 ++ [32] ++ [UInt8.ofNat (97 + v)]))) ∧ Below w.heap.size w w' := by
  obtain ⟨B, O, CAP, hw0⟩ := hw
  have HW := Lib.hid hw0
  have hcap := hw0.2.1
  have hcap2 := hw0.2.2.1
  have hsz := bs_size (wdT 6)
  clear hw0
  have hta := fun w => Tryd.ta_other 116 (.agg #[.bool true, .int .i64 (v : Int), .iface t y]) (by simp) w
  have htb := fun w => Tryd.tb_bound true v t y w
  have hsl := slice_at v hv
  have hwv : IntKind.i64.wrap ((v : Int) + 1) = (v : Int) + 1 := by rw [IntKind.wrap_i64]; omega
  have happ := bs_app
  have h32 : ({ data := #[32] } : ByteArray) = bs [32] := rfl
  have hs1 := bs_size [32]
  obtain ⟨c, hc⟩ : ∃ c, UInt8.ofNat (97 + v) = c := ⟨_, rfl⟩
  rw [hc] at hsl ⊢
  clear hc
  have hs2 := bs_size [c]
  have hs3 := bs_size (wdT 6 ++ [32])
  have hs4 : (wdT 6).length ≤ 5 := wd_len _
  have hs5 : (wdT 6 ++ [32]).length ≤ 6 := by rw [List.length_append]; simp only [List.length_cons, List.length_nil]; omega
  go_enter Tryd.func48, Tryd.ntmps48
  go_upto_region 1 with fail
  go_region_held3 (fun w' => Below w.heap.size w w' ∧ w'.cell? ⟨0, 0, none⟩ = some (.slice (some ⟨B, O, none⟩) 8 CAP) ∧ w'.cell? ⟨B, O + 6, none⟩ = some (.string (bs (wdT 6)))) (exact keepWd HW.out 6 (by decide) (by go_grown)) (first | (go_at_call 123; refine (kind_b _ _ _ _ _).mono ?_; rintro e wk ⟨rfl, hbk⟩; have hbw := below_on (w := w) (by go_grown) hbk; have hsk : w.heap.size ≤ wk.heap.size := hbw.size))
  go_wp2
  go_ret
  exact ⟨rfl, by go_grown⟩

set_option maxRecDepth 10000 in
set_option maxHeartbeats 1000000 in
theorem ownText_7 (t : TypeId) (y : Value) (v : Nat) (hv : v ≤ 3) (w : World) (hw : Words w) :
    Calls Tryd.prog 48 #[.iface 116 (.agg #[.bool false, .int .i64 (v : Int), .iface t y])] w fun e w' => e = .returned (.string (bs (wdT 7 ++ [32] ++ [UInt8.ofNat (97 + v)]))) ∧ Below w.heap.size w w' := by
  obtain ⟨B, O, CAP, hw0⟩ := hw
  have HW := Lib.hid hw0
  have hcap := hw0.2.1
  have hcap2 := hw0.2.2.1
  have hsz := bs_size (wdT 7)
  clear hw0
  have hta := fun w => Tryd.ta_other 116 (.agg #[.bool false, .int .i64 (v : Int), .iface t y]) (by simp) w
  have htb := fun w => Tryd.tb_bound false v t y w
  have hsl := slice_at v hv
  have hwv : IntKind.i64.wrap ((v : Int) + 1) = (v : Int) + 1 := by rw [IntKind.wrap_i64]; omega
  have happ := bs_app
  have h32 : ({ data := #[32] } : ByteArray) = bs [32] := rfl
  have hs1 := bs_size [32]
  obtain ⟨c, hc⟩ : ∃ c, UInt8.ofNat (97 + v) = c := ⟨_, rfl⟩
  rw [hc] at hsl ⊢
  clear hc
  have hs2 := bs_size [c]
  have hs3 := bs_size (wdT 7 ++ [32])
  have hs4 : (wdT 7).length ≤ 5 := wd_len _
  have hs5 : (wdT 7 ++ [32]).length ≤ 6 := by rw [List.length_append]; simp only [List.length_cons, List.length_nil]; omega
  go_enter Tryd.func48, Tryd.ntmps48
  go_upto_region 1 with fail
  go_region_held3 (fun w' => Below w.heap.size w w' ∧ w'.cell? ⟨0, 0, none⟩ = some (.slice (some ⟨B, O, none⟩) 8 CAP) ∧ w'.cell? ⟨B, O + 7, none⟩ = some (.string (bs (wdT 7)))) (exact keepWd HW.out 7 (by decide) (by go_grown)) (first | (go_at_call 123; refine (kind_b _ _ _ _ _).mono ?_; rintro e wk ⟨rfl, hbk⟩; have hbw := below_on (w := w) (by go_grown) hbk; have hsk : w.heap.size ≤ wk.heap.size := hbw.size))
  go_wp2
  go_ret
  exact ⟨rfl, by go_grown⟩

set_option maxRecDepth 10000 in
set_option maxHeartbeats 1000000 in
theorem ownText_2 (k m a b c d n : Int) (w : World) (hw : Words w) (hT : Tab w) :
    Calls Tryd.prog 48 #[.iface 114 (.agg #[.int .i64 k, .int .i64 m, .int .i64 a, .int .i64 b, .int .i64 c, .int .i64 d, .int .i64 n])] w fun e w' => e = .returned (.string (bs (taL k m a b c d n))) ∧ Below w.heap.size w w' := by
  obtain ⟨B, O, CAP, hw0⟩ := hw
  have HW := Lib.hid hw0
  have hcap := hw0.2.1
  have hcap2 := hw0.2.2.1
  have hsz := bs_size (wdT 2)
  clear hw0
  have HT := Lib.hid hT
  clear hT
  have hta := fun w => Tryd.ta_atom k m a b c d n w
  have HF := Lib.hid (fun W (hW : Tab W) => pFormatAtom_any k m a b c d n W hW)
  go_enter Tryd.func48, Tryd.ntmps48
  go_upto_region 1 with fail
  go_region_held3 (fun w' => Below w.heap.size w w' ∧ w'.cell? ⟨0, 0, none⟩ = some (.slice (some ⟨B, O, none⟩) 8 CAP) ∧ w'.cell? ⟨B, O + 2, none⟩ = some (.string (bs (wdT 2)))) (exact keepWd HW.out 2 (by decide) (by go_grown)) (first | (go_at_call 121; refine (kind_a _ _).mono ?_; rintro e wk ⟨rfl, hbk⟩; have hbw := below_on (w := w) (by go_grown) hbk; have hsk : w.heap.size ≤ wk.heap.size := hbw.size))
  go_wp2_with fail
  refine (HF.out _ (tab_on HT.out (by go_grown))).mono ?_
  rintro e w3 ⟨rfl, hb3⟩
  have hb4 := below_on (w := w) (by go_grown) hb3
  go_wp2
  go_ret
  exact ⟨rfl, by go_grown⟩

end Go.Proofs.YtbppcpaodfjpkaaDoor
