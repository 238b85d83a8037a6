/- StepValid of the program and of the model. -/
import Derived.Test.YtaiajdeognnndaaSvM
import Derived.Test.YtaiajdeognnndaaRdJ
import Derived.Test.YtaiajdeognnndaaSpecB
import Derived.BigQuiet
namespace Go.Proofs.Ytaiajdeognnndaa
open Go.RowKit

def SvI (F T : List Int) (n : Int) (w : World) (l i : Value) (wr : World) : Prop :=
  ∃ (k : Nat) (m : Int), l = .int .i64 m ∧ i = .int .i64 k ∧ k ≤ F.length ∧ 0 ≤ m ∧ svR m n (F.drop k) (T.drop k) = svR 0 n F T ∧ Below w.heap.size w wr
theorem va_blS {a b : Bool} (h : a = b) : Ending.returned (.bool a) = .returned (.bool b) := by rw [h]

set_option maxHeartbeats 2000000 in
theorem StepValid_any (s t : Value) (F T : List Int) (n : Int) (w : World) (hs : RdJ w s F) (ht : RdJ w t T) (hn1 : n ≤ 9223372036854775807) (hF : F.length ≤ 1048576) :
    Calls Try.prog 15 #[.agg #[s, t], .int .i64 n] w fun e w' => e = .returned (.bool (svB F T n)) ∧ Below w.heap.size w w' := by
  have HS := Lib.hid hs
  have HT := Lib.hid ht
  obtain ⟨N, hN⟩ : ∃ N, F.length = N := ⟨_, rfl⟩
  obtain ⟨M, hM⟩ : ∃ M, T.length = M := ⟨_, rfl⟩
  have HN := Lib.hid hN
  have HM := Lib.hid hM
  obtain ⟨sp, cap, rfl, _, _, hsl⟩ := hs
  obtain ⟨tp, caq, rfl, _, _, htl⟩ := ht
  rw [hN] at hF
  by_cases h0 : N = 0
  · have HF := Lib.hid (show svB F T n = false by unfold svB; rw [hN, h0]; rfl)
    have hq : ((N : Int) == 0) = true := by rw [h0]; rfl
    rw [hN, hM]
    clear hN hM hsl htl
    subst h0
    go_enter Try.func15, Try.ntmps15
    go_wp2
    go_ret
    exact ⟨va_blS HF.out.symm, by go_grown⟩
  · have hq : ((N : Int) == 0) = false := by rw [beq_eq_false_iff_ne]; omega
    by_cases hNM : N = M
    · have HF := Lib.hid (show svB F T n = svR 0 n F T by unfold svB; rw [hN, hM, decide_eq_true (by omega), decide_eq_true hNM]; rfl)
      rw [HF.out, hN, hM]
      clear hN hM HF
      subst hNM
      obtain ⟨b, o, rfl, hb, hc⟩ := hsl.resolve_left (by rw [HN.out]; exact h0)
      obtain ⟨b', o', rfl, hb', hc'⟩ := htl.resolve_left (by rw [HM.out]; exact h0)
      have HC := Lib.hid hc
      have HC' := Lib.hid hc'
      clear hc hc' hsl htl
      go_enter Try.func15, Try.ntmps15
      go_wp2_with fail
      generalize hW : World.alloc _ _ = W
      have hw : Below w.heap.size w W := by subst hW; go_grown
      have hx0 : W.cell? ⟨w.heap.size, 0, none⟩ = some (.slice (some ⟨b, o, none⟩) N cap) := by subst hW; simp [go_sem]
      have hx1 : W.cell? ⟨w.heap.size, 1, none⟩ = some (.slice (some ⟨b', o', none⟩) N caq) := by subst hW; simp [go_sem]
      have hsW : w.heap.size < W.heap.size := by subst hW; simp
      have HW := Lib.hid hw
      clear hW hw
      have HST := Lib.hid (show SvI F T n W (.int .i64 0) (.int .i64 0) W from ⟨0, 0, rfl, rfl, Nat.zero_le _, by omega, rfl, Below.refl _ _⟩)
      go_wp2
      go_loopw [5, 24] (fun l i wr => SvI F T n W l i wr) (fun _ i _ => N - (intOf i).toNat)
      case atStart => exact HST.out
      case round =>
        obtain ⟨k, m, rfl, rfl, hk, hm, hsv, hbw⟩ := hrel
        rw [HN.out] at hk
        have HB := Lib.hid hbw
        have HSV := Lib.hid hsv
        clear HST hsv
        have y0 : wr.cell? ⟨w.heap.size, 0, none⟩ = _ := (hbw.cell (p := ⟨w.heap.size, 0, none⟩) hsW).trans hx0
        have y1 : wr.cell? ⟨w.heap.size, 1, none⟩ = _ := (hbw.cell (p := ⟨w.heap.size, 1, none⟩) hsW).trans hx1
        by_cases hlt : k < N
        · have hk' : (k : Int) < (N : Int) := by omega
          have hk0 : (0 : Int) ≤ (k : Int) := by omega
          obtain ⟨x, hx⟩ : ∃ x, F[k]? = some x := ⟨_, List.getElem?_eq_getElem (by rw [HN.out]; exact hlt)⟩
          obtain ⟨u, hu⟩ : ∃ u, T[k]? = some u := ⟨_, List.getElem?_eq_getElem (by rw [HM.out]; exact hlt)⟩
          have hww := below_on HW.out hbw
          have c0 : wr.cell? ⟨b, o + k, none⟩ = some (.int .i64 x) := (hww.cell (p := ⟨b, o + k, none⟩) hb).trans (HC.out k x hx)
          have c1 : wr.cell? ⟨b', o' + k, none⟩ = some (.int .i64 u) := (hww.cell (p := ⟨b', o' + k, none⟩) hb').trans (HC'.out k u hu)
          have HA := Lib.hid ((svR_at (l := m) (n := n) hx hu).symm.trans HSV.out)
          clear hx hu hww hbw
          by_cases g1 : m ≤ x
          · have d1 : decide (x < m) = false := by rw [decide_eq_false_iff_not]; omega
            by_cases g2 : x < n
            · have d2 : decide (x ≥ n) = false := by rw [decide_eq_false_iff_not]; omega
              have d2' : decide (n ≤ x) = false := d2
              by_cases g3 : 1 ≤ u
              · have d3 : decide (u < 1) = false := by rw [decide_eq_false_iff_not]; omega
                by_cases g4 : u ≤ 1000
                · have d4 : decide (u > 1000) = false := by rw [decide_eq_false_iff_not]; omega
                  have d4' : decide (1000 < u) = false := d4
                  have hwx : IntKind.i64.wrap (x + 1) = x + 1 := by rw [IntKind.wrap_i64]; omega
                  have HV := Lib.hid (show svR (x + 1) n (F.drop (k + 1)) (T.drop (k + 1)) = svR 0 n F T by rw [← HA.out]; simp [g1, g2, g3, g4])
                  have hx1 : 0 ≤ x + 1 := by omega
                  obtain ⟨z, hz⟩ : ∃ z, x + 1 = z := ⟨_, rfl⟩
                  rw [hz] at HV hx1 hwx
                  have hwz : wrap64 z = z := by unfold wrap64; omega
                  have HZ := Lib.hid hz
                  clear g1 g2 g3 g4 HA hz
                  go_wp2
                  go_roundw
                  case rel => exact ⟨k + 1, z, by first | rfl | rw [hwz] | rw [HZ.out, hwz], by go_num, by rw [HN.out]; omega, hx1, HV.out, HB.out⟩
                  case measure => simp [intOf]; omega
                · have d4 : decide (u > 1000) = true := by rw [decide_eq_true_iff]; omega
                  have d4' : decide (1000 < u) = true := d4
                  have HV := Lib.hid (show svR 0 n F T = false by rw [← HA.out]; simp [g4])
                  clear g1 g2 g3 g4 HA
                  go_wp2
                  go_ret
                  exact ⟨va_blS HV.out.symm, below_on HW.out HB.out⟩
              · have d3 : decide (u < 1) = true := by rw [decide_eq_true_iff]; omega
                have HV := Lib.hid (show svR 0 n F T = false by rw [← HA.out]; simp [g3])
                clear g1 g2 g3 HA
                go_wp2
                go_ret
                exact ⟨va_blS HV.out.symm, below_on HW.out HB.out⟩
            · have d2 : decide (x ≥ n) = true := by rw [decide_eq_true_iff]; omega
              have d2' : decide (n ≤ x) = true := d2
              have HV := Lib.hid (show svR 0 n F T = false by rw [← HA.out]; simp [g2])
              clear g1 g2 HA
              go_wp2
              go_ret
              exact ⟨va_blS HV.out.symm, below_on HW.out HB.out⟩
          · have d1 : decide (x < m) = true := by rw [decide_eq_true_iff]; omega
            have HV := Lib.hid (show svR 0 n F T = false by rw [← HA.out]; simp [g1])
            clear g1 HA
            go_wp2
            go_ret
            exact ⟨va_blS HV.out.symm, below_on HW.out HB.out⟩
        · have hk' : ¬ (k : Int) < (N : Int) := by omega
          have HV := Lib.hid (show svR 0 n F T = true by rw [← HSV.out]; exact svR_end (by rw [HN.out]; omega))
          go_wp2
          go_ret
          exact ⟨va_blS HV.out.symm, below_on HW.out hbw⟩
    · have HF := Lib.hid (show svB F T n = false by unfold svB; rw [hN, hM, decide_eq_false hNM]; simp)
      have hq2 : ((N : Int) == (M : Int)) = false := by rw [beq_eq_false_iff_ne]; omega
      have hq3 : ((N : Int) != (M : Int)) = true := by simp; omega
      have hnm : ¬ (N : Int) = (M : Int) := by omega
      rw [hN, hM]
      clear hN hM hsl htl
      go_enter Try.func15, Try.ntmps15
      go_wp2
      go_ret
      exact ⟨va_blS HF.out.symm, by go_grown⟩

end Go.Proofs.Ytaiajdeognnndaa
