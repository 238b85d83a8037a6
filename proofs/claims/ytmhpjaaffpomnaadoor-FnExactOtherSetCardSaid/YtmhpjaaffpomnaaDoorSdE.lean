/- SumSets of the program. -/
import Derived.Test.YtmhpjaaffpomnaaDoorSdA
import Derived.Test.YtmhpjaaffpomnaaDoorSdD
namespace Go.Proofs.YtmhpjaaffpomnaaDoor
open Go.RowKit

/-- What SumSets answers. -/
noncomputable def smR (h l h' l' : List UInt8) : (List UInt8 × List UInt8) × Bool := if ((svS h l && svS h' l') && decide (l.length * l'.length ≤ 400)) = true then resA (smA (atS h l) (atS h' l')) else (([], []), false)
theorem Tryd.ensm : EnF 70 := fun _ _ => by kernel_rfl

set_option maxHeartbeats 1000000 in
theorem sum1_any (f : Nat → Bool) (lim n c b : Nat) (w : World) (hn : n < lim) (_ : lim ≤ 1000000) (h0 : FB w c (.slice (some ⟨b, 0, none⟩) lim lim)) (h1 : SB w b f lim) :
    Calls Tryd.prog 70 #[.int .i64 n, .pointer (some ⟨c, 0, none⟩)] w fun e w' => e = .returned (.bool (f n)) ∧ Below w.heap.size w w' := by
  obtain ⟨u1, u2⟩ := h0
  obtain ⟨c0, f0⟩ := sb_cell h1 hn
  have hn' : (n : Int) < (lim : Int) := by omega
  obtain ⟨q, hq⟩ : ∃ q, f n = q := ⟨_, rfl⟩
  rw [hq] at c0
  rw [hq]
  clear hq h1
  go_enter Tryd.func70, Tryd.ntmps70
  go_wp2
  go_ret
  exact ⟨rfl, Below.refl _ _⟩

theorem sm_per {h l h' l' : List UInt8} (hl : l ≠ []) (hl' : l' ≠ []) : 0 < lcL2 l l' ∧ PerS (smA (atS h l) (atS h' l')) (h.length + h'.length + lcL2 l l') (lcL2 l l') := by
  have p1 : 0 < l.length := List.length_pos_iff.2 hl
  have p2 : 0 < l'.length := List.length_pos_iff.2 hl'
  obtain ⟨d1, d2⟩ := lcm_both l.length l'.length
  exact ⟨lcm_pos p1 p2, per_sm2 (per_lcm (per_at h l) d1) (per_lcm (per_at h' l') d2)⟩

set_option maxRecDepth 10000 in
set_option maxHeartbeats 4000000 in
theorem SumSets_any (h l h' l' : List UInt8) (w : World) (hh : h.length ≤ 1000000000) (hl : l.length ≤ 1000000000) (hh' : h'.length ≤ 1000000000) (hl' : l'.length ≤ 1000000000) :
    Calls Tryd.prog 41 #[.agg #[.string (bs h), .string (bs l)], .agg #[.string (bs h'), .string (bs l')]] w fun e w' => e = .returned (.tuple #[.agg #[.string (bs (smR h l h' l').1.1), .string (bs (smR h l h' l').1.2)], .bool (smR h l h' l').2]) ∧ Below w.heap.size w w' := by
  have HV := Lib.hid fun w => SetValid_any h l w hh hl
  have HV2 := Lib.hid fun w => SetValid_any h' l' w hh' hl'
  have HS := Lib.hid (svS_parts (h := h) (l := l))
  have HS2 := Lib.hid (svS_parts (h := h') (l := l'))
  obtain ⟨v, hv⟩ : ∃ v, svS h l = v := ⟨_, rfl⟩
  obtain ⟨v2, hv2⟩ : ∃ v, svS h' l' = v := ⟨_, rfl⟩
  have HQ : Hid (svS h l = v) := Lib.hid hv
  have HQ2 : Hid (svS h' l' = v2) := Lib.hid hv2
  rw [hv] at HV
  rw [hv2] at HV2
  clear hv hv2
  cases v with
  | false =>
    have HF : Hid (smR h l h' l' = (([], []), false)) := Lib.hid (by unfold smR; rw [HQ.out]; rfl)
    go_enter Tryd.func41, Tryd.ntmps41
    go_wp2_with fail
    generalize hW0 : World.alloc w _ = W0
    obtain ⟨hx, hsx, hwx⟩ := s2_new hW0
    clear hW0
    generalize hW : World.alloc W0 _ = W1
    obtain ⟨hz, hsz, hwz⟩ := s2_new hW
    rw [hsx] at hz
    clear hW
    generalize hW : World.alloc W1 _ = W2
    obtain ⟨hr, hsr, hwr⟩ := s2_new hW
    rw [hsz, hsx] at hr
    clear hW
    have X1 := s2_on hx (below_on hwz hwr)
    have Z1 := s2_on hz hwr
    have B1 := below_on hwx (below_on hwz hwr)
    have hne : w.heap.size ≤ w.heap.size + 1 + 1 := by omega
    clear hx hz hwx hwz hwr hsx hsz hsr
    refine (HV.out _).mono ?_
    rintro e w3 ⟨rfl, hb3⟩
    have X3 := s2_on X1 hb3
    have Z3 := s2_on Z1 hb3
    have R3 := s2_on hr hb3
    have B3 := below_on B1 hb3
    clear X1 Z1 hr B1 hb3
    obtain ⟨x0, x1, x2, x3⟩ := id X3
    obtain ⟨z0, z1, z2, z3⟩ := id Z3
    obtain ⟨a0, a1, a2, a3⟩ := id R3
    go_wp2
    generalize hW : World.setCell _ _ _ = W8
    obtain ⟨⟨_, r1, r2, _⟩, _, _, hb8⟩ := s2_put hW _ _ R3
    refine bodyPost_ret (v := .tuple #[.agg #[.string ⟨#[]⟩, .string ⟨#[]⟩], .bool false]) (by simp [results, Tryd.results41, go_sem, r1, r2]) rfl ⟨by rw [HF.out]; rfl, ?_⟩
    exact hb8 w B3 hne
  | true =>
    cases v2 with
    | false =>
      have HF : Hid (smR h l h' l' = (([], []), false)) := Lib.hid (by unfold smR; rw [HQ.out, HQ2.out]; rfl)
      go_enter Tryd.func41, Tryd.ntmps41
      go_wp2_with fail
      generalize hW0 : World.alloc w _ = W0
      obtain ⟨hx, hsx, hwx⟩ := s2_new hW0
      clear hW0
      generalize hW : World.alloc W0 _ = W1
      obtain ⟨hz, hsz, hwz⟩ := s2_new hW
      rw [hsx] at hz
      clear hW
      generalize hW : World.alloc W1 _ = W2
      obtain ⟨hr, hsr, hwr⟩ := s2_new hW
      rw [hsz, hsx] at hr
      clear hW
      have X1 := s2_on hx (below_on hwz hwr)
      have Z1 := s2_on hz hwr
      have B1 := below_on hwx (below_on hwz hwr)
      have hne : w.heap.size ≤ w.heap.size + 1 + 1 := by omega
      clear hx hz hwx hwz hwr hsx hsz hsr
      refine (HV.out _).mono ?_
      rintro e w3 ⟨rfl, hb3⟩
      have X3 := s2_on X1 hb3
      have Z3 := s2_on Z1 hb3
      have R3 := s2_on hr hb3
      have B3 := below_on B1 hb3
      clear X1 Z1 hr B1 hb3
      obtain ⟨x0, x1, x2, x3⟩ := id X3
      obtain ⟨z0, z1, z2, z3⟩ := id Z3
      obtain ⟨a0, a1, a2, a3⟩ := id R3
      go_wp2_with fail
      refine (HV2.out _).mono ?_
      rintro e w4 ⟨rfl, hb4⟩
      have X4 := s2_on X3 hb4
      have Z4 := s2_on Z3 hb4
      have R4 := s2_on R3 hb4
      have B4 := below_on B3 hb4
      clear X3 Z3 R3 B3 hb4 x0 x1 x2 x3 z0 z1 z2 z3 a0 a1 a2 a3
      obtain ⟨x0, x1, x2, x3⟩ := id X4
      obtain ⟨z0, z1, z2, z3⟩ := id Z4
      obtain ⟨a0, a1, a2, a3⟩ := id R4
      go_wp2
      generalize hW : World.setCell _ _ _ = W8
      obtain ⟨⟨_, r1, r2, _⟩, _, _, hb8⟩ := s2_put hW _ _ R4
      refine bodyPost_ret (v := .tuple #[.agg #[.string ⟨#[]⟩, .string ⟨#[]⟩], .bool false]) (by simp [results, Tryd.results41, go_sem, r1, r2]) rfl ⟨by rw [HF.out]; rfl, ?_⟩
      exact hb8 w B4 hne
    | true =>
      obtain ⟨q1, q2, q3, q4, q5, q6⟩ := HS.out HQ.out
      obtain ⟨p1, p2, p3, p4, p5, p6⟩ := HS2.out HQ2.out
      have hs1 := bs_size h
      have hs2 := bs_size h'
      have hs3 := bs_size l
      have hs4 := bs_size l'
      obtain ⟨H, hH⟩ : ∃ k, h.length = k := ⟨_, rfl⟩
      obtain ⟨H', hH'⟩ : ∃ k, h'.length = k := ⟨_, rfl⟩
      obtain ⟨L, hL⟩ : ∃ k, l.length = k := ⟨_, rfl⟩
      obtain ⟨L', hL'⟩ : ∃ k, l'.length = k := ⟨_, rfl⟩
      obtain ⟨pr, hpr⟩ : ∃ k, L * L' = k := ⟨_, rfl⟩
      have hpi : (L : Int) * (L' : Int) = (pr : Int) := by rw [← hpr]; exact (Int.natCast_mul L L').symm
      have hpb : pr ≤ 57600 := by rw [← hpr]; exact Nat.le_trans (Nat.mul_le_mul (show L ≤ 240 by omega) (show L' ≤ 240 by omega)) (by omega)
      have hwp : IntKind.i64.wrap (pr : Int) = (pr : Int) := by rw [IntKind.wrap_i64]; omega
      by_cases hbig : 400 < pr
      · have hd : decide ((400 : Int) < (pr : Int)) = true := decide_eq_true (by omega)
        have hd2 : decide (400 < pr) = true := decide_eq_true hbig
        have HF : Hid (smR h l h' l' = (([], []), false)) := Lib.hid (by unfold smR; rw [hL, hL', hpr, decide_eq_false (show ¬ pr ≤ 400 by omega), Bool.and_false]; rfl)
        rw [hH] at hs1
        rw [hH'] at hs2
        rw [hL] at hs3
        rw [hL'] at hs4
        clear q1 q2 q3 q4 q5 q6 p1 p2 p3 p4 p5 p6 hH hH' hL hL' hpr hpb hbig hh hl hh' hl'
        go_enter Tryd.func41, Tryd.ntmps41
        go_wp2_with fail
        generalize hW0 : World.alloc w _ = W0
        obtain ⟨hx, hsx, hwx⟩ := s2_new hW0
        clear hW0
        generalize hW : World.alloc W0 _ = W1
        obtain ⟨hz, hsz, hwz⟩ := s2_new hW
        rw [hsx] at hz
        clear hW
        generalize hW : World.alloc W1 _ = W2
        obtain ⟨hr, hsr, hwr⟩ := s2_new hW
        rw [hsz, hsx] at hr
        clear hW
        have X1 := s2_on hx (below_on hwz hwr)
        have Z1 := s2_on hz hwr
        have B1 := below_on hwx (below_on hwz hwr)
        have hne : w.heap.size ≤ w.heap.size + 1 + 1 := by omega
        clear hx hz hwx hwz hwr hsx hsz hsr
        refine (HV.out _).mono ?_
        rintro e w3 ⟨rfl, hb3⟩
        have X3 := s2_on X1 hb3
        have Z3 := s2_on Z1 hb3
        have R3 := s2_on hr hb3
        have B3 := below_on B1 hb3
        clear X1 Z1 hr B1 hb3
        obtain ⟨x0, x1, x2, x3⟩ := id X3
        obtain ⟨z0, z1, z2, z3⟩ := id Z3
        obtain ⟨a0, a1, a2, a3⟩ := id R3
        go_wp2_with fail
        refine (HV2.out _).mono ?_
        rintro e w4 ⟨rfl, hb4⟩
        have X4 := s2_on X3 hb4
        have Z4 := s2_on Z3 hb4
        have R4 := s2_on R3 hb4
        have B4 := below_on B3 hb4
        clear X3 Z3 R3 B3 hb4 x0 x1 x2 x3 z0 z1 z2 z3 a0 a1 a2 a3
        obtain ⟨x0, x1, x2, x3⟩ := id X4
        obtain ⟨z0, z1, z2, z3⟩ := id Z4
        obtain ⟨a0, a1, a2, a3⟩ := id R4
        go_wp2
        generalize hW : World.setCell _ _ _ = W8
        obtain ⟨⟨_, r1, r2, _⟩, _, _, hb8⟩ := s2_put hW _ _ R4
        refine bodyPost_ret (v := .tuple #[.agg #[.string ⟨#[]⟩, .string ⟨#[]⟩], .bool false]) (by simp [results, Tryd.results41, go_sem, r1, r2]) rfl ⟨by rw [HF.out]; rfl, ?_⟩
        exact hb8 w B4 hne
      · have hd : decide ((400 : Int) < (pr : Int)) = false := decide_eq_false (by omega)
        have hd2 : decide (400 < pr) = false := decide_eq_false hbig
        have HF : Hid (smR h l h' l' = resA (smA (atS h l) (atS h' l'))) := Lib.hid (by unfold smR; rw [HQ.out, HQ2.out, hL, hL', hpr, decide_eq_true (show pr ≤ 400 by omega)]; rfl)
        have HCL := Lib.hid fun w => commonLoop_any h l h' l' w q6 (by omega) (by omega)
        obtain ⟨c1, c2⟩ := sm_per (h := h) (h' := h') q6 p6
        have hlc : lcL2 l l' ≤ 400 := Nat.le_trans (lcm_le _ _) (by rw [hL, hL', hpr]; omega)
        rw [hH, hH'] at c2
        obtain ⟨p, hp⟩ : ∃ p, lcL2 l l' = p := ⟨_, rfl⟩
        obtain ⟨m0, hm0⟩ : ∃ k, H + H' = k := ⟨_, rfl⟩
        obtain ⟨m, hm⟩ : ∃ k, m0 + p = k := ⟨_, rfl⟩
        obtain ⟨lim, hlim⟩ : ∃ k, m + p = k := ⟨_, rfl⟩
        rw [hp] at HCL c1 c2 hlc
        rw [hm0, hm] at c2
        have hw0 : IntKind.i64.wrap ((H : Int) + (H' : Int)) = (m0 : Int) := by rw [IntKind.wrap_i64]; omega
        have hw1 : IntKind.i64.wrap ((m0 : Int) + (p : Int)) = (m : Int) := by rw [IntKind.wrap_i64]; omega
        have hw2 : IntKind.i64.wrap ((m : Int) + (p : Int)) = (lim : Int) := by rw [IntKind.wrap_i64]; omega
        have hlb : lim ≤ 10000 := by omega
        have HSB := Lib.hid fun w => sumsBelow_any h l h' l' lim w q6 p6 hh hl hh' hl' (by omega)
        obtain ⟨r, hr⟩ : ∃ r, resA (smA (atS h l) (atS h' l')) = r := ⟨_, rfl⟩
        have HR := Lib.hid hr
        have HSO : Hid (∀ W c b, FB W c (.slice (some ⟨b, 0, none⟩) lim lim) → SB W b (sumB (atS h l) (atS h' l')) lim → Calls Tryd.prog 57 #[.int .i64 m, .int .i64 p, .func (.func 70) #[] #[.pointer (some ⟨c, 0, none⟩)]] W fun e w' => e = .returned (.tuple #[.agg #[.string (bs r.1.1), .string (bs r.1.2)], .bool r.2]) ∧ Below W.heap.size W w') := Lib.hid fun W c b s1 s2 => by
          have := setOf_seq 70 #[.pointer (some ⟨c, 0, none⟩)] (sumB (atS h l) (atS h' l')) (smA (atS h l) (atS h' l')) m p W Tryd.ensm c1 (by omega) (fun n => rfl) c2
            (fun V hV j hj => sum1_any _ lim j c b V (by omega) (by omega) (fb_on s1 hV) (sb_on s2 hV))
          rw [HR.out] at this
          exact this
        rw [hr] at HF
        rw [hH] at hs1
        rw [hH'] at hs2
        rw [hL] at hs3
        rw [hL'] at hs4
        obtain ⟨sq, hsq⟩ : ∃ f, sumB (atS h l) (atS h' l') = f := ⟨_, rfl⟩
        rw [hsq] at HSB HSO
        clear q1 q2 q3 q4 q5 q6 p1 p2 p3 p4 p5 p6 hH hH' hL hL' hpr hpb hbig hh hl hh' hl' c1 c2 hp hm0 hm hlim hr hsq hlc
        go_enter Tryd.func41, Tryd.ntmps41
        go_wp2_with fail
        generalize hW0 : World.alloc w _ = W0
        obtain ⟨hx, hsx, hwx⟩ := s2_new hW0
        clear hW0
        generalize hW : World.alloc W0 _ = W1
        obtain ⟨hz, hsz, hwz⟩ := s2_new hW
        rw [hsx] at hz
        clear hW
        generalize hW : World.alloc W1 _ = W2
        obtain ⟨hr, hsr, hwr⟩ := s2_new hW
        rw [hsz, hsx] at hr
        clear hW
        have X1 := s2_on hx (below_on hwz hwr)
        have Z1 := s2_on hz hwr
        have B1 := below_on hwx (below_on hwz hwr)
        have hne : w.heap.size ≤ w.heap.size + 1 + 1 := by omega
        clear hx hz hwx hwz hwr hsx hsz hsr
        refine (HV.out _).mono ?_
        rintro e w3 ⟨rfl, hb3⟩
        have X3 := s2_on X1 hb3
        have Z3 := s2_on Z1 hb3
        have R3 := s2_on hr hb3
        have B3 := below_on B1 hb3
        clear X1 Z1 hr B1 hb3
        obtain ⟨x0, x1, x2, x3⟩ := id X3
        obtain ⟨z0, z1, z2, z3⟩ := id Z3
        obtain ⟨a0, a1, a2, a3⟩ := id R3
        go_wp2_with fail
        refine (HV2.out _).mono ?_
        rintro e w4 ⟨rfl, hb4⟩
        have X4 := s2_on X3 hb4
        have Z4 := s2_on Z3 hb4
        have R4 := s2_on R3 hb4
        have B4 := below_on B3 hb4
        clear X3 Z3 R3 B3 hb4 x0 x1 x2 x3 z0 z1 z2 z3 a0 a1 a2 a3
        obtain ⟨x0, x1, x2, x3⟩ := id X4
        obtain ⟨z0, z1, z2, z3⟩ := id Z4
        obtain ⟨a0, a1, a2, a3⟩ := id R4
        go_wp2_with fail
        refine (HCL.out _).mono ?_
        rintro e w5 ⟨rfl, hb5⟩
        have X5 := s2_on X4 hb5
        have Z5 := s2_on Z4 hb5
        have R5 := s2_on R4 hb5
        have B5 := below_on B4 hb5
        clear X4 Z4 R4 B4 hb5 x0 x1 x2 x3 z0 z1 z2 z3 a0 a1 a2 a3
        obtain ⟨x0, x1, x2, x3⟩ := id X5
        obtain ⟨z0, z1, z2, z3⟩ := id Z5
        go_wp2_with fail
        refine (HSB.out _).mono ?_
        rintro e w6 ⟨b, rfl, hsb, hb6⟩
        have R6 := s2_on R5 hb6
        have B6 := below_on B5 hb6
        clear X5 Z5 R5 B5 hb6 x0 x1 x2 x3 z0 z1 z2 z3
        go_wp2_with fail
        generalize hW : World.alloc w6 _ = W7
        obtain ⟨hf, hsf, hwf⟩ := fb_new hW
        clear hW
        have R7 := s2_on R6 hwf
        have B7 := below_on B6 hwf
        refine (HSO.out _ _ b hf (sb_on hsb hwf)).mono ?_
        rintro e w8 ⟨rfl, hb8'⟩
        have R8 := s2_on R7 hb8'
        have B8 := below_on B7 hb8'
        clear R6 B6 R7 B7 hf hsb
        obtain ⟨a0, a1, a2, a3⟩ := id R8
        go_wp2
        generalize hW : World.setCell _ _ _ = W8
        obtain ⟨⟨_, r1, r2, _⟩, _, _, hb8⟩ := s2_put hW _ _ R8
        refine bodyPost_ret (v := .tuple #[.agg #[.string (bs r.1.1), .string (bs r.1.2)], .bool r.2]) (by simp [results, Tryd.results41, go_sem, r1, r2]) rfl ⟨by rw [HF.out], ?_⟩
        exact hb8 w B8 hne

end Go.Proofs.YtmhpjaaffpomnaaDoor
