/- The walk of the exact law of CountBelow. -/
import Derived.Test.YtlachkhfpddcnaaDoorLawS
import Derived.Test.YtlachkhfpddcnaaDoorSfS
import Derived.Test.YtlachkhfpddcnaaDoorSfP
namespace Go.Proofs.YtlachkhfpddcnaaDoor
open Go.RowKit

set_option maxHeartbeats 1000000 in
theorem exactCountBelow_walk (h l : List UInt8) (n : Int) (w : World) (hh : h.length ≤ 9223372036854775807) (hl : l.length ≤ 9223372036854775807) (n0 : -9223372036854775808 ≤ n) (n1 : n ≤ 9223372036854775807) :
    Calls Tryd.prog 6 #[.agg #[.string (bs h), .string (bs l)], .int .i64 n] w fun e w' => e = .returned (.bool true) ∧ Below w.heap.size w w' := by
  by_cases hs : h.length + l.length ≤ 1048576
  · have HZ := Lib.hid fun w => szSet_ok h l 1048576 w hs (Nat.le_refl _)
    have HS := Lib.hid fun w => specCountBelow_any h l n w (by omega) (by omega) n0 n1
    have HI := Lib.hid fun w => CountBelow_any h l n w (by omega) (by omega) n0 n1
    have HT := Lib.hid fun w => toSet_any h l w
    obtain ⟨q, hq⟩ : ∃ q, 1048576 - (h.length + l.length) = q := ⟨_, rfl⟩
    obtain ⟨r, hr⟩ : ∃ r, cbR h l n = r := ⟨_, rfl⟩
    rw [hq] at HZ
    rw [hr] at HS HI
    have d0 : decide ((q : Int) < 0) = false := decide_eq_false (by omega)
    clear hs hh hl hq hr
    go_enter Tryd.func6, Tryd.ntmps6
    go_wp2_with fail
    generalize hW : World.alloc w _ = W
    obtain ⟨hx, _, hw0⟩ := s2_new hW
    clear hW
    obtain ⟨x0, x1, x2, x3⟩ := id hx
    refine (HZ.out _).mono ?_
    rintro e w1 ⟨rfl, hb⟩
    have k1 := below_on hw0 hb
    have y1 := s2_on hx hb
    clear x0 x1 x2 x3 hb hx
    obtain ⟨x0, x1, x2, x3⟩ := id y1
    go_wp2_with fail
    refine (HT.out _).mono ?_
    rintro e w2 ⟨rfl, hb⟩
    have k2 := below_on k1 hb
    have y2 := s2_on y1 hb
    clear x0 x1 x2 x3 hb
    obtain ⟨x0, x1, x2, x3⟩ := id y2
    go_wp2_with fail
    refine (HS.out _).mono ?_
    rintro e w3 ⟨rfl, hb⟩
    have k3 := below_on k2 hb
    have y3 := s2_on y2 hb
    clear x0 x1 x2 x3 hb
    obtain ⟨x0, x1, x2, x3⟩ := id y3
    go_wp2_with fail
    refine (HT.out _).mono ?_
    rintro e w4 ⟨rfl, hb⟩
    have k4 := below_on k3 hb
    clear x0 x1 x2 x3 hb
    go_wp2_with fail
    refine (HI.out _).mono ?_
    rintro e w5 ⟨rfl, hb⟩
    have k5 := below_on k4 hb
    clear hb
    go_wp2
    go_ret
    exact ⟨rfl, k5⟩
  · have HZ := Lib.hid fun w => szSet_no h l 1048576 w (by omega) (Nat.le_refl _) hh hl
    clear hs hh hl
    go_enter Tryd.func6, Tryd.ntmps6
    go_wp2_with fail
    generalize hW : World.alloc w _ = W
    obtain ⟨hx, _, hw0⟩ := s2_new hW
    clear hW
    refine (HZ.out _).mono ?_
    rintro e w1 ⟨rfl, hb⟩
    go_wp2
    go_ret
    exact ⟨rfl, below_on hw0 hb⟩

end Go.Proofs.YtlachkhfpddcnaaDoor
