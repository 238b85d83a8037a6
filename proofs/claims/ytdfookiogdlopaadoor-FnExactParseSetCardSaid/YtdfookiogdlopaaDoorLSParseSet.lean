/- The walk of the exact law of ParseSet. -/
import Derived.Test.YtdfookiogdlopaaDoorLawS
import Derived.Test.YtdfookiogdlopaaDoorSgS
import Derived.Test.YtdfookiogdlopaaDoorSgP
namespace Go.Proofs.YtdfookiogdlopaaDoor
open Go.RowKit

set_option maxHeartbeats 1000000 in
theorem exactParseSet_walk (t : List UInt8) (w : World) (ht : t.length ≤ 9223372036854775807) :
    Calls Tryd.prog 3 #[.string (bs t)] w fun e w' => e = .returned (.bool true) ∧ Below w.heap.size w w' := by
  have hs := bs_size t
  obtain ⟨M, hM⟩ : ∃ M, t.length = M := ⟨_, rfl⟩
  rw [hM] at hs ht
  by_cases hb : M ≤ 1048576
  · have HS := Lib.hid fun w => specParseSet_any t w (by omega)
    have HI := Lib.hid fun w => ParseSet_any t w (by omega)
    obtain ⟨r, hr⟩ : ∃ r, paR t = r := ⟨_, rfl⟩
    rw [hr] at HS HI
    have hlt : ¬ (1048576 : Int) < (M : Int) := by omega
    clear hr hb hM ht
    go_enter Tryd.func3, Tryd.ntmps3
    go_wp2_with fail
    refine (HS.out _).mono ?_
    rintro e w1 ⟨rfl, hb1⟩
    go_upto_region 4 with fail
    generalize hW : World.alloc w1 _ = W2
    obtain ⟨hu, _, hb⟩ := s2_new hW
    clear hW
    have k2 := below_on hb1 hb
    go_wp2_with fail
    refine (HI.out _).mono ?_
    rintro e w3 ⟨rfl, hb3⟩
    have k3 := below_on k2 hb3
    have y3 := s2_on hu hb3
    have HE := Lib.hid fun w => eqSet_same r.1.1 r.1.2 w
    go_upto_region 5 with fail
    generalize hW : World.alloc w3 _ = W4
    obtain ⟨hv, _, hb4⟩ := s2_new hW
    clear hW
    have k4 := below_on k3 hb4
    have y4 := s2_on y3 hb4
    obtain ⟨x0, x1, x2, x3⟩ := id y4
    obtain ⟨z0, z1, z2, z3⟩ := id hv
    go_wp2_with fail
    refine (HE.out _).mono ?_
    rintro e w5 ⟨rfl, hb5⟩
    have k5 := below_on k4 hb5
    go_wp2
    go_ret
    exact ⟨rfl, k5⟩
  · have hlt : (1048576 : Int) < (M : Int) := by omega
    clear hb hM ht
    go_enter Tryd.func3, Tryd.ntmps3
    go_wp2
    go_ret
    exact ⟨rfl, by go_grown⟩
end Go.Proofs.YtdfookiogdlopaaDoor
