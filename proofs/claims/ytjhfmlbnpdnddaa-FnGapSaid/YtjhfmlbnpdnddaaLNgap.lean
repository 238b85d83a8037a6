/- The walk of the law on greatest gaps. -/
import Derived.Test.YtjhfmlbnpdnddaaLNcount
namespace Go.Proofs.Ytjhfmlbnpdnddaa
open Go.RowKit

noncomputable def solB (a b : Int) (k : Nat) : Bool := by classical exact decide (Solves a b (k : Int))
theorem solB_iff {a b : Int} {k : Nat} : solB a b k = true ↔ Solves a b (k : Int) := by unfold solB; simp

/-- Half of the numbers up to the greatest gap are sums. -/
theorem gap_half {a b : Int} (ha : 0 < a) (hb : 0 < b) (hc : Int.gcd a b = 1) (N : Nat) (hN : (N : Int) = a * b - a - b + 1) : 2 * cntP (solB a b) N = N := by
  have h1 := cntP_not (solB a b) N
  have h2 := cntP_rev (solB a b) N
  have h3 : cntP (fun i => !solB a b i) N = cntP (fun i => solB a b (N - 1 - i)) N := by
    apply cntP_congr
    intro i hi
    have hg := gap_other (c := (i : Int)) ha hb hc
    have e : a * b - a - b - (i : Int) = ((N - 1 - i : Nat) : Int) := by omega
    rw [e, ← solB_iff, ← solB_iff] at hg
    rcases h4 : solB a b i with _ | _
    · rcases h5 : solB a b (N - 1 - i) with _ | _
      · have := hg.2 (by rw [h5]; simp)
        rw [h4] at this
        exact absurd this (by simp)
      · rfl
    · have := hg.1 h4
      simpa using (by simpa using this : solB a b (N - 1 - i) = false).symm
  omega

def GpR (a b : Int) (N : Nat) (w : World) (x y : Value) (wr : World) : Prop := ∃ k : Nat, x = .int .i64 (cntP (solB a b) k) ∧ y = .int .i64 k ∧ k ≤ N ∧ Below w.heap.size w wr
def GqR (n a b : Int) (w : World) (y : Value) (wr : World) : Prop := ∃ k : Nat, y = .int .i64 (n + 1 + k) ∧ (k : Int) ≤ a + b ∧ Below w.heap.size w wr

theorem cnt_pos {a b c : Int} (hpa : pcB a = true) (hpb : pcB b = true) (h0 : -10000 ≤ c) (h1 : c ≤ 10000) : ∃ N : Int, cntT a b c = N ∧ 0 ≤ N ∧ N ≤ 10001 ∧ (0 < N ↔ Solves a b c) := by
  have ha := pcB_yes hpa
  have hb := pcB_yes hpb
  refine ⟨_, cntT_yes (by simp only [Bool.and_eq_true]; exact ⟨⟨hpa, hpb⟩, by simp [wlB]; omega⟩), Int.natCast_nonneg _, ?_, ?_⟩
  · by_cases h : 0 ≤ c
    · have hq0 : 0 ≤ c / a := Int.ediv_nonneg h (by omega)
      have hq1 : c / a ≤ c := Int.ediv_le_self _ h
      rw [cntV_eq h]
      have := cntP_le (cP a b c) ((c / a).toNat + 1)
      omega
    · rw [cntV_neg (by omega)]; omega
  · rw [← cntV_pos (by omega) (by omega)]
    omega

set_option maxRecDepth 100000 in
set_option maxHeartbeats 4000000 in
theorem gap_walk (sp : Option Addr) (nn cap : Nat) (w : World) (h : Code w sp nn cap) :
    Calls Try.prog 14 #[.slice sp nn cap] w fun e w' => e = .returned (.bool true) ∧ Below w.heap.size w w' := by
  have hc1 := h.1
  have hc2 := h.2.1
  have H := Lib.hid h
  clear h
  by_cases hn : nn ≤ 1048576
  · have hn' : ¬ (1048576 : Int) < (nn : Int) := by omega
    go_enter Try.func14, Try.ntmps14
    go_wp2_with fail
    refine (DrawGap_t sp nn cap w H.out).mono ?_
    rintro e w1 ⟨a, b, rfl, ha, hb, hb1⟩
    clear ha hb
    have HI := Lib.hid fun W => GreatestGap_any a b W
    have HS := Lib.hid fun W => specGap_any a b W
    by_cases hv : (pcB a && pcB b && decide (Int.gcd a b = 1)) = true
    · have eg : gapT a b = a * b - a - b := by unfold gapT; rw [if_pos hv]
      rw [eg] at HI HS
      simp only [Bool.and_eq_true, decide_eq_true_eq] at hv
      obtain ⟨⟨hpa, hpb⟩, hg⟩ := hv
      obtain ⟨a0, a1⟩ := pcB_yes hpa
      obtain ⟨b0, b1⟩ := pcB_yes hpb
      have hp := mul_bd (a := a) (x := b) (A := 100) (X := 100) (by omega) (by omega) (by omega) (by omega) (by omega)
      have hge : -1 ≤ a * b - a - b := by
        have := Int.mul_nonneg (show 0 ≤ a - 1 by omega) (show 0 ≤ b - 1 by omega)
        have e : (a - 1) * (b - 1) = a * b - a - b + 1 := by grind
        omega
      have hle : a * b - a - b + a + b ≤ 10000 := by omega
      have HO := Lib.hid fun (c : Int) => gap_other (c := c) (show 0 < a by omega) (show 0 < b by omega) hg
      have HB := Lib.hid fun (c : Int) => gap_beyond (c := c) (show 0 < a by omega) (show 0 < b by omega) hg
      have hnone := gap_none (show 0 < a by omega) (show 0 < b by omega) hg
      have HH := Lib.hid fun (N : Nat) => gap_half (show 0 < a by omega) (show 0 < b by omega) hg N
      obtain ⟨n, hn⟩ : ∃ n, a * b - a - b = n := ⟨_, rfl⟩
      rw [hn] at HI HS hge hle hnone
      simp only [hn] at HO HB HH
      have HL := Lib.hid fun W => LeastSolution_any a b n W
      rw [lsT_yes (by simp only [smB, Bool.and_eq_true]; exact ⟨⟨pc_wl hpa, pc_wl hpb⟩, by simp [wlB]; omega⟩), lsV_no hnone] at HL
      have HC := Lib.hid fun (c : Int) W => CountSolutions_any a b c W
      have HPS := Lib.hid fun (c : Int) => cnt_pos (c := c) hpa hpb
      obtain ⟨N, hN⟩ : ∃ N : Nat, (N : Int) = n + 1 := ⟨(n + 1).toNat, by omega⟩
      have hhalf := HH.out N hN
      have hNb : N ≤ 10001 := by omega
      have d1 : decide (n < -1) = false := by simp; omega
      unfold T3 at HL
      dsimp only at HL
      clear eg hn hnone HH hg hpa hpb hp
      go_wp2_with fail
      refine (HI.out _).mono ?_
      rintro e w2 ⟨rfl, hb2⟩
      go_wp2_with fail
      refine (HS.out _).mono ?_
      rintro e w' ⟨rfl, rfl⟩
      go_wp2_with fail
      refine (HL.out _).mono ?_
      rintro e w3 ⟨rfl, hb3⟩
      have HB3 := Lib.hid (below_on hb1 (below_on hb2 hb3))
      go_wp2_with fail
      go_loopw [9, 10] (fun x y wr => GpR a b N w x y wr) (fun _ y _ => N - (intOf y).toNat)
      case atStart => exact ⟨0, rfl, rfl, by omega, HB3.out⟩
      case round =>
        obtain ⟨k, rfl, rfl, hk, hB⟩ := hrel
        have HBk := Lib.hid hB
        have hcp := cntP_le (solB a b) k
        clear hB
        by_cases hkn : k = N
        · have hkd : decide ((k : Int) ≤ n) = false := by simp; omega
          have hhk : 2 * cntP (solB a b) k = N := by rw [hkn]; exact hhalf
          generalize cntP (solB a b) k = S at *
          clear hkn
          go_wp2_with fail
          go_loopw [11] (fun y wr => GqR n a b w y wr) (fun y _ => (n + 1 + a + b - intOf y).toNat)
          case atStart => exact ⟨0, by simp, by omega, HBk.out⟩
          case round =>
            obtain ⟨j, rfl, hj, hB⟩ := hrel
            have HBj := Lib.hid hB
            clear hB
            by_cases hjn : (j : Int) = a + b
            · have hjd : decide (n + 1 + (j : Int) ≤ n + a + b) = false := by simp; omega
              have hfin : (2 * (S : Int) == n + 1) = true := by simp; omega
              go_wp2
              go_returns
              exact ⟨rfl, HBj.out⟩
            · have hjd : decide (n + 1 + (j : Int) ≤ n + a + b) = true := by simp; omega
              obtain ⟨M, hM, M0, M1, hMs⟩ := HPS.out (n + 1 + (j : Int)) (by omega) (by omega)
              have hMp : 0 < M := hMs.2 (HB.out _ (by omega))
              have hMd : decide (M < 1) = false := by simp; omega
              have HCM := Lib.hid fun W => HC.out (n + 1 + (j : Int)) W
              rw [hM] at HCM
              clear hM hMs
              go_wp2_with fail
              refine (HCM.out _).mono ?_
              rintro e w5 ⟨rfl, hb5⟩
              go_wp2
              go_roundw
              case rel => exact ⟨j + 1, by go_num, by omega, below_on HBj.out hb5⟩
              case measure => simp [intOf]; omega
        · have hkd : decide ((k : Int) ≤ n) = true := by simp; omega
          obtain ⟨M, hM, M0, M1, hMs⟩ := HPS.out (k : Int) (by omega) (by omega)
          obtain ⟨M', hM', M0', M1', hMs'⟩ := HPS.out (n - (k : Int)) (by omega) (by omega)
          have hoth := HO.out (k : Int)
          rw [← hMs, ← hMs'] at hoth
          have HC1 := Lib.hid fun W => HC.out (k : Int) W
          have HC2 := Lib.hid fun W => HC.out (n - (k : Int)) W
          rw [hM] at HC1
          rw [hM'] at HC2
          by_cases hpos : 0 < M
          · have hSB : solB a b k = true := solB_iff.2 (hMs.1 hpos)
            have HN := Lib.hid (cntP_yes hSB)
            have e1 : decide (0 < M) = true := by simpa using hpos
            have e2 : decide (0 < M') = false := by simpa using hoth.1 hpos
            clear hM hM' hMs hMs' hoth hSB
            generalize cntP (solB a b) k = S at *
            go_wp2_with fail
            refine (HC1.out _).mono ?_
            rintro e w4 ⟨rfl, hb4⟩
            go_wp2_with fail
            refine (HC1.out _).mono ?_
            rintro e w5 ⟨rfl, hb5⟩
            go_wp2_with fail
            refine (HC2.out _).mono ?_
            rintro e w6 ⟨rfl, hb6⟩
            go_wp2
            go_roundw
            case rel => exact ⟨k + 1, by rw [HN.out]; go_num, by go_num, by omega, below_on HBk.out (below_on hb4 (below_on hb5 hb6))⟩
            case measure => simp [intOf]; omega
          · have hSB : solB a b k = false := by
              rcases h : solB a b k with _ | _
              · rfl
              · exact absurd (hMs.2 (solB_iff.1 h)) hpos
            have HN := Lib.hid (cntP_no hSB)
            have e1 : decide (0 < M) = false := by simpa using hpos
            have e2 : decide (0 < M') = true := by
              have : 0 < M' := Decidable.byContradiction fun h => hpos (hoth.2 h)
              simpa using this
            clear hM hM' hMs hMs' hoth hSB
            generalize cntP (solB a b) k = S at *
            go_wp2_with fail
            refine (HC1.out _).mono ?_
            rintro e w4 ⟨rfl, hb4⟩
            go_wp2_with fail
            refine (HC1.out _).mono ?_
            rintro e w5 ⟨rfl, hb5⟩
            go_wp2_with fail
            refine (HC2.out _).mono ?_
            rintro e w6 ⟨rfl, hb6⟩
            go_wp2
            go_roundw
            case rel => exact ⟨k + 1, by rw [HN.out], by go_num, by omega, below_on HBk.out (below_on hb4 (below_on hb5 hb6))⟩
            case measure => simp [intOf]; omega
    · have eg : gapT a b = -2 := by unfold gapT; rw [if_neg hv]
      rw [eg] at HI HS
      clear hv eg
      go_wp2_with fail
      refine (HI.out _).mono ?_
      rintro e w2 ⟨rfl, hb2⟩
      go_wp2_with (go_at_call 56; refine (HS.out _).mono ?_; rintro e w' ⟨rfl, rfl⟩)
      go_returns
      exact ⟨rfl, below_on hb1 hb2⟩
  · have hn' : (1048576 : Int) < (nn : Int) := by omega
    go_enter Try.func14, Try.ntmps14
    go_wp2
    go_ret
    exact ⟨rfl, Below.refl _ _⟩

end Go.Proofs.Ytjhfmlbnpdnddaa
