/- The walk of the exact law of ProgressionSet. -/
import Derived.Test.YtpheihejgnlanaaDoorLawS
import Derived.Test.YtpheihejgnlanaaDoorSe7
namespace Go.Proofs.YtpheihejgnlanaaDoor
open Go.RowKit

set_option maxHeartbeats 1000000 in
theorem exactProgressionSet_walk (f s : Int) (w : World) (f0 : -9223372036854775808 ≤ f) (f1 : f ≤ 9223372036854775807) (s0 : -9223372036854775808 ≤ s) (s1 : s ≤ 9223372036854775807) :
    Calls Tryd.prog 6 #[.int .i64 f, .int .i64 s] w fun e w' => e = .returned (.bool true) ∧ Below w.heap.size w w' := by
  have HS := Lib.hid fun w => specProgressionSet_any f s w f0 f1 s0 s1
  have HI := Lib.hid fun w => ProgressionSet_any f s w f0 f1 s0 s1
  obtain ⟨r, hr⟩ : ∃ r, prR f s = r := ⟨_, rfl⟩
  rw [hr] at HS HI
  clear f0 f1 s0 s1 hr
  go_enter Tryd.func6, Tryd.ntmps6
  go_wp2_with fail
  refine (HS.out _).mono ?_
  rintro e w1 ⟨rfl, hb1⟩
  go_upto_region 2 with fail
  generalize hW : World.alloc w1 _ = W2
  obtain ⟨hu, _, hb⟩ := s2_new hW
  clear hW
  have k2 := below_on hb1 hb
  go_wp2_with fail
  refine (HI.out _).mono ?_
  rintro e w3 ⟨rfl, hb3⟩
  have k3 := below_on k2 hb3
  have y3 := s2_on hu hb3
  have HE := Lib.hid fun w => eqSet_same r.1.1 r.1.2 w
  go_upto_region 3 with fail
  generalize hW : World.alloc w3 _ = W4
  obtain ⟨hv, _, hb4⟩ := s2_new hW
  clear hW
  have k4 := below_on k3 hb4
  have y4 := s2_on y3 hb4
  obtain ⟨x0, x1, x2, x3⟩ := id y4
  obtain ⟨z0, z1, z2, z3⟩ := id hv
  go_wp2_with fail
  refine (HE.out _).mono ?_
  rintro e w5 ⟨rfl, hb5⟩
  have k5 := below_on k4 hb5
  go_wp2
  go_ret
  exact ⟨rfl, k5⟩

end Go.Proofs.YtpheihejgnlanaaDoor
