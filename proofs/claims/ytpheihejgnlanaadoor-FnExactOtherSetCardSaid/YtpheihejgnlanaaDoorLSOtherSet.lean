/- The walk of the exact law of OtherSet. -/
import Derived.Test.YtpheihejgnlanaaDoorLawS
import Derived.Test.YtpheihejgnlanaaDoorSe7
import Derived.Test.YtpheihejgnlanaaDoorSetK
namespace Go.Proofs.YtpheihejgnlanaaDoor
open Go.RowKit

set_option maxHeartbeats 1000000 in
theorem exactOtherSet_walk (h l : List UInt8) (w : World) (hh : h.length ≤ 9223372036854775807) (hl : l.length ≤ 9223372036854775807) :
    Calls Tryd.prog 5 #[.agg #[.string (bs h), .string (bs l)]] w fun e w' => e = .returned (.bool true) ∧ Below w.heap.size w w' := by
  by_cases hs : h.length + l.length ≤ 1048576
  · have HZ := Lib.hid fun w => szSet_ok h l 1048576 w hs (Nat.le_refl _)
    have HS := Lib.hid fun w => specOtherSet_any h l w (by omega) (by omega)
    have HI := Lib.hid fun w => OtherSet_any h l w (by omega) (by omega)
    have HT := Lib.hid fun w => toSet_any h l w
    obtain ⟨q, hq⟩ : ∃ q, 1048576 - (h.length + l.length) = q := ⟨_, rfl⟩
    obtain ⟨r, hr⟩ : ∃ r, combR (fun x _ => !x) h l h l = r := ⟨_, rfl⟩
    rw [hq] at HZ
    rw [hr] at HS HI
    have d0 : decide ((q : Int) < 0) = false := decide_eq_false (by omega)
    clear hs hh hl hq hr
    go_enter Tryd.func5, Tryd.ntmps5
    go_wp2_with fail
    generalize hW : World.alloc w _ = W
    obtain ⟨hx, _, hw0⟩ := s2_new hW
    clear hW
    obtain ⟨x0, x1, x2, x3⟩ := id hx
    refine (HZ.out _).mono ?_
    rintro e w1 ⟨rfl, hb⟩
    have k1 := below_on hw0 hb
    have y1 := s2_on hx hb
    clear x0 x1 x2 x3 hb hx
    obtain ⟨x0, x1, x2, x3⟩ := id y1
    go_wp2_with fail
    refine (HT.out _).mono ?_
    rintro e w2 ⟨rfl, hb⟩
    have k2 := below_on k1 hb
    have y2 := s2_on y1 hb
    clear x0 x1 x2 x3 hb
    obtain ⟨x0, x1, x2, x3⟩ := id y2
    go_wp2_with fail
    refine (HS.out _).mono ?_
    rintro e w3 ⟨rfl, hb⟩
    have k3 := below_on k2 hb
    have y3 := s2_on y2 hb
    clear x0 x1 x2 x3 hb
    obtain ⟨x0, x1, x2, x3⟩ := id y3
    go_wp2_with fail
    generalize hW : World.alloc w3 _ = W4
    obtain ⟨hu, _, hb⟩ := s2_new hW
    clear hW
    have k4 := below_on k3 hb
    have y4 := s2_on y3 hb
    clear x0 x1 x2 x3 hb
    obtain ⟨x0, x1, x2, x3⟩ := id y4
    refine (HT.out _).mono ?_
    rintro e w5 ⟨rfl, hb⟩
    have k5 := below_on k4 hb
    have y5 := s2_on hu hb
    clear x0 x1 x2 x3 hb
    go_wp2_with fail
    refine (HI.out _).mono ?_
    rintro e w6 ⟨rfl, hb⟩
    have k6 := below_on k5 hb
    have y6 := s2_on y5 hb
    clear hb
    have HE := Lib.hid fun w => eqSet_same r.1.1 r.1.2 w
    go_upto_region 7 with fail
    generalize hW : World.alloc w6 _ = W7
    obtain ⟨hv, _, hb⟩ := s2_new hW
    clear hW
    have k7 := below_on k6 hb
    have y7 := s2_on y6 hb
    clear hb
    obtain ⟨x0, x1, x2, x3⟩ := id y7
    obtain ⟨z0, z1, z2, z3⟩ := id hv
    go_wp2_with fail
    refine (HE.out _).mono ?_
    rintro e w8 ⟨rfl, hb⟩
    have k8 := below_on k7 hb
    go_wp2
    go_ret
    exact ⟨rfl, k8⟩
  · have HZ := Lib.hid fun w => szSet_no h l 1048576 w (by omega) (Nat.le_refl _) hh hl
    clear hs hh hl
    go_enter Tryd.func5, Tryd.ntmps5
    go_wp2_with fail
    generalize hW : World.alloc w _ = W
    obtain ⟨hx, _, hw0⟩ := s2_new hW
    clear hW
    refine (HZ.out _).mono ?_
    rintro e w1 ⟨rfl, hb⟩
    go_wp2
    go_ret
    exact ⟨rfl, below_on hw0 hb⟩

end Go.Proofs.YtpheihejgnlanaaDoor
