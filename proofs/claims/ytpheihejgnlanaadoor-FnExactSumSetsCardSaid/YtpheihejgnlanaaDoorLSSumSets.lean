/- The walk of the exact law of SumSets. -/
import Derived.Test.YtpheihejgnlanaaDoorLawT
import Derived.Test.YtpheihejgnlanaaDoorSe7
import Derived.BigQuiet
import Derived.Deep.RegionHeld3
import Derived.BigGuardPart
import Derived.Deep.DeepCutAuto
namespace Go.Proofs.YtpheihejgnlanaaDoor
open Go.RowKit

set_option maxRecDepth 10000 in
set_option maxHeartbeats 4000000 in
theorem exactSumSets_walk (h l h' l' : List UInt8) (w : World) (hh : h.length ≤ 9223372036854775807) (hl : l.length ≤ 9223372036854775807) (hh' : h'.length ≤ 9223372036854775807) (hl' : l'.length ≤ 9223372036854775807) :
    Calls Tryd.prog 10 #[.agg #[.string (bs h), .string (bs l)], .agg #[.string (bs h'), .string (bs l')]] w fun e w' => e = .returned (.bool true) ∧ Below w.heap.size w w' := by
  by_cases hs : h.length + l.length ≤ 1048576
  · have HZ := Lib.hid fun w => szSet_ok h l 1048576 w hs (Nat.le_refl _)
    obtain ⟨q, hq⟩ : ∃ q, 1048576 - (h.length + l.length) = q := ⟨_, rfl⟩
    rw [hq] at HZ
    have d0 : decide ((q : Int) < 0) = false := decide_eq_false (by omega)
    by_cases hs2 : h'.length + l'.length ≤ q
    · have HZ2 := Lib.hid fun w => szSet_ok h' l' q w hs2 (by omega)
      have HS := Lib.hid fun w => specSumSets_any h l h' l' w (by omega) (by omega) (by omega) (by omega)
      have HI := Lib.hid fun w => SumSets_any h l h' l' w (by omega) (by omega) (by omega) (by omega)
      obtain ⟨q2, hq2⟩ : ∃ k, q - (h'.length + l'.length) = k := ⟨_, rfl⟩
      obtain ⟨r, hr⟩ : ∃ r, smR h l h' l' = r := ⟨_, rfl⟩
      rw [hq2] at HZ2
      rw [hr] at HS HI
      have d1 : decide ((q2 : Int) < 0) = false := decide_eq_false (by omega)
      clear hs hs2 hh hl hh' hl' hq hq2 hr
      go_enter Tryd.func10, Tryd.ntmps10
      go_wp2_with fail
      generalize hW0 : World.alloc w _ = W0
      obtain ⟨hx, hsx, hwx⟩ := s2_new hW0
      clear hW0
      generalize hW : World.alloc W0 _ = W1
      obtain ⟨hz, hsz, hwz⟩ := s2_new hW
      rw [hsx] at hz
      clear hW
      have X1 := s2_on hx hwz
      have B1 := below_on hwx hwz
      obtain ⟨x0, x1, x2, x3⟩ := id X1
      refine (HZ.out _).mono ?_
      rintro e w1 ⟨rfl, hb1⟩
      have X2 := s2_on X1 hb1
      have Z2 := s2_on hz hb1
      have B2 := below_on B1 hb1
      clear hx hz hsx hsz hwx hwz X1 B1 hb1 x0 x1 x2 x3
      obtain ⟨z0, z1, z2, z3⟩ := id Z2
      go_wp2_with fail
      refine (HZ2.out _).mono ?_
      rintro e w2 ⟨rfl, hb2⟩
      have hx := s2_w2 (s2_on X2 hb2)
      have hy := s2_w2 (s2_on Z2 hb2)
      have B3 := below_on B2 hb2
      clear X2 Z2 B2 hb2 z0 z1 z2 z3
      obtain ⟨x0, x1, x2⟩ := id hx
      obtain ⟨z0, z1, z2⟩ := id hy
      go_upto_region 8 with fail
      clear x0 x1 x2 z0 z1 z2
      go_cut [6, 7] (fun p q W => ResS w2 r p q W)
      case first =>
        go_region_held3 (fun w' => Below w2.heap.size w2 w' ∧ (w'.cell? ⟨w.heap.size, 0, none⟩ = some (.string (bs h)) ∧ w'.cell? ⟨w.heap.size, 1, none⟩ = some (.string (bs l))) ∧ w'.cell? ⟨w.heap.size + 1, 0, none⟩ = some (.string (bs h')) ∧ w'.cell? ⟨w.heap.size + 1, 1, none⟩ = some (.string (bs l'))) (exact w2_keep2 hx hy (by go_grown)) (first | (go_at_call 15; refine (toSet_x _ _ _).mono ?_; rintro e w' ⟨rfl, rfl⟩) | (go_at_call 30; refine (HS.out _).mono ?_; rintro e w4 ⟨rfl, hb1⟩; have hbb1 := below_on (w := w2) (by go_grown) hb1; have hs1 : w2.heap.size ≤ w4.heap.size := hbb1.size; obtain ⟨hc, hf⟩ := bcell hb1; have hz1 := hb1.size; simp at hz1))
        all_goals
          go_wp2_with fail
          go_meet
          refine ⟨_, rfl, rfl, ?_, by go_grown⟩
          first | (with_reducible exact w2_new) | ((with_reducible refine w2_set2 (x' := ⟨#[]⟩) (y' := ⟨#[]⟩) hb1 ?_); refine ⟨?_, ?_, ?_⟩ <;> first | (simp [go_sem]; done) | (simp; omega))
      case rest =>
        obtain ⟨b1, rfl, rfl, hr1, hB1⟩ := hcut
        have hx2 := w2_on hx hB1
        have hy2 := w2_on hy hB1
        obtain ⟨x0, x1, x2⟩ := id hx2
        obtain ⟨z0, z1, z2⟩ := id hy2
        go_upto_region 9 with fail
        clear x0 x1 x2 z0 z1 z2
        obtain ⟨w6, hw6⟩ : ∃ w6, w6 = wc := ⟨_, rfl⟩
        go_cut [8, 9] (fun p q W => ResS w6 r p q W)
        case first =>
          subst hw6
          go_region_held3 (fun w' => Below w6.heap.size w6 w' ∧ (w'.cell? ⟨w.heap.size, 0, none⟩ = some (.string (bs h)) ∧ w'.cell? ⟨w.heap.size, 1, none⟩ = some (.string (bs l))) ∧ w'.cell? ⟨w.heap.size + 1, 0, none⟩ = some (.string (bs h')) ∧ w'.cell? ⟨w.heap.size + 1, 1, none⟩ = some (.string (bs l'))) (exact w2_keep2 hx2 hy2 (by go_grown)) (first | (go_at_call 15; refine (toSet_x _ _ _).mono ?_; rintro e w' ⟨rfl, rfl⟩) | (go_at_call 31; refine (HI.out _).mono ?_; rintro e w4 ⟨rfl, hb1⟩; have hbb1 := below_on (w := w6) (by go_grown) hb1; have hs1 : w6.heap.size ≤ w4.heap.size := hbb1.size; obtain ⟨hc, hf⟩ := bcell hb1; have hz1 := hb1.size; simp at hz1))
          all_goals
            go_wp2_with fail
            go_meet
            refine ⟨_, rfl, rfl, ?_, by go_grown⟩
            first | (with_reducible exact w2_new) | ((with_reducible refine w2_set2 (x' := ⟨#[]⟩) (y' := ⟨#[]⟩) hb1 ?_); refine ⟨?_, ?_, ?_⟩ <;> first | (simp [go_sem]; done) | (simp; omega))
        case rest =>
          obtain ⟨b2, rfl, rfl, ⟨g0, g1, g2⟩, hB2⟩ := hcut
          subst hw6
          obtain ⟨f0, f1, f2⟩ := w2_on hr1 hB2
          have HE := Lib.hid fun w => eqSet_same r.1.1 r.1.2 w
          go_wp2_with fail
          refine (HE.out _).mono ?_
          rintro e w8 ⟨rfl, hb8⟩
          go_wp2
          go_ret
          exact ⟨rfl, below_on B3 (below_on hB1 (below_on hB2 hb8))⟩
    · have HZ2 := Lib.hid fun w => szSet_no h' l' q w (by omega) (by omega) hh' hl'
      clear hs hs2 hh hl hh' hl' hq
      go_enter Tryd.func10, Tryd.ntmps10
      go_wp2_with fail
      generalize hW0 : World.alloc w _ = W0
      obtain ⟨hx, hsx, hwx⟩ := s2_new hW0
      clear hW0
      generalize hW : World.alloc W0 _ = W1
      obtain ⟨hz, hsz, hwz⟩ := s2_new hW
      rw [hsx] at hz
      clear hW
      have X1 := s2_on hx hwz
      have B1 := below_on hwx hwz
      obtain ⟨x0, x1, x2, x3⟩ := id X1
      refine (HZ.out _).mono ?_
      rintro e w1 ⟨rfl, hb1⟩
      have Z2 := s2_on hz hb1
      have B2 := below_on B1 hb1
      clear hx hz hsx hsz hwx hwz X1 B1 hb1 x0 x1 x2 x3
      obtain ⟨z0, z1, z2, z3⟩ := id Z2
      go_wp2_with fail
      refine (HZ2.out _).mono ?_
      rintro e w2 ⟨rfl, hb2⟩
      go_wp2
      go_ret
      exact ⟨rfl, below_on B2 hb2⟩
  · have HZ := Lib.hid fun w => szSet_no h l 1048576 w (by omega) (Nat.le_refl _) hh hl
    clear hs hh hl hh' hl'
    go_enter Tryd.func10, Tryd.ntmps10
    go_wp2_with fail
    generalize hW0 : World.alloc w _ = W0
    obtain ⟨hx, hsx, hwx⟩ := s2_new hW0
    clear hW0
    generalize hW : World.alloc W0 _ = W1
    obtain ⟨hz, hsz, hwz⟩ := s2_new hW
    clear hW
    have X1 := s2_on hx hwz
    have B1 := below_on hwx hwz
    obtain ⟨x0, x1, x2, x3⟩ := id X1
    refine (HZ.out _).mono ?_
    rintro e w1 ⟨rfl, hb1⟩
    go_wp2
    go_ret
    exact ⟨rfl, below_on B1 hb1⟩

end Go.Proofs.YtpheihejgnlanaaDoor
