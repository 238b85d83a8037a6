/- The walk of the law on two remainders. -/
import Derived.Test.YtjhfmlbnpdnddaaLNcong
import Derived.Test.YtjhfmlbnpdnddaaLcm
namespace Go.Proofs.Ytjhfmlbnpdnddaa
open Go.RowKit

theorem com_swap {r m s n x t : Int} (h : IsCom r m s n x t) : IsCom s n r m x t := by
  obtain ⟨rfl, x0, x1, h1, h2⟩ := h
  exact ⟨by rw [Int.lcm_comm], x0, x1, h2, h1⟩
theorem com_at {r m s n x t i : Int} (h : IsCom r m s n x t) (h0 : 0 ≤ i) (h1 : i < t) : (m ∣ i - r ∧ n ∣ i - s) ↔ i = x := by
  constructor
  · rintro ⟨d1, d2⟩
    exact (isCom_unique ⟨h.1, h0, h1, d1, d2⟩ h).1
  · rintro rfl
    exact ⟨h.2.2.2.1, h.2.2.2.2⟩
theorem emod_zero_dvd {x m : Int} : x % m = 0 ↔ m ∣ x := ⟨Int.dvd_of_emod_eq_zero, Int.emod_eq_zero_of_dvd⟩
theorem lcT_two {m n : Int} (hm : 1 ≤ m ∧ m ≤ 100) (hn : 1 ≤ n ∧ n ≤ 100) : lcT [m, n] = (Int.lcm m n : Nat) := by
  have h1 := lcm_of_gcd (m := m) (n := n) (by omega) (by omega)
  have hg : ((Int.gcd 1 m : Nat) : Int) = 1 := by simp
  have hmB : modB m = true := by simp [modB, inB]; omega
  have hnB : modB n = true := by simp [modB, inB]; omega
  have hle : m * (n / ((Int.gcd m n : Nat) : Int)) ≤ 10000 := by
    have hq : n / ((Int.gcd m n : Nat) : Int) ≤ n := Int.ediv_le_self _ (by omega)
    have hq0 : 0 ≤ n / ((Int.gcd m n : Nat) : Int) := Int.ediv_nonneg (by omega) (Int.natCast_nonneg _)
    have := (mul_bd (a := m) (x := n / ((Int.gcd m n : Nat) : Int)) (A := 100) (X := 100) (by omega) (by omega) hq0 (by omega) (by omega)).2
    omega
  have e1 : lcS 1 m = some m := by
    unfold lcS
    rw [if_pos hmB, hg]
    simp
    omega
  have e2 : lcS m n = some (m * (n / ((Int.gcd m n : Nat) : Int))) := by
    unfold lcS
    rw [if_pos hnB, if_pos hle]
  show lcL 1 [m, n] = _
  simp only [lcL, e1, e2]
  exact h1

theorem four_cases (m n : Int) : (1 ≤ m ∧ m ≤ 100 ∧ 1 ≤ n ∧ n ≤ 100 ∧ decide (m < 1) = false ∧ decide (n < 1) = false ∧ decide (100 < m) = false ∧ decide (100 < n) = false) ∨ decide (m < 1) = true ∨ (decide (m < 1) = false ∧ decide (n < 1) = true) ∨
    (decide (m < 1) = false ∧ decide (n < 1) = false ∧ decide (100 < m) = true) ∨ (decide (m < 1) = false ∧ decide (n < 1) = false ∧ decide (100 < m) = false ∧ decide (100 < n) = true) := by
  simp only [decide_eq_true_eq, decide_eq_false_iff_not]
  omega

def CmR (t : Int) (w : World) (i : Value) (wr : World) : Prop := ∃ k : Nat, i = .int .i64 k ∧ (k : Int) ≤ t ∧ k ≤ 500 ∧ w = wr

set_option maxRecDepth 100000 in
set_option maxHeartbeats 4000000 in
theorem combine_walk (sp : Option Addr) (nn cap : Nat) (w : World) (h : Code w sp nn cap) :
    Calls Try.prog 10 #[.slice sp nn cap] w fun e w' => e = .returned (.bool true) ∧ Below w.heap.size w w' := by
  have hc1 := h.1
  have hc2 := h.2.1
  have H := Lib.hid h
  clear h
  by_cases hn : nn ≤ 1048576
  · have hn' : ¬ (1048576 : Int) < (nn : Int) := by omega
    go_enter Try.func10, Try.ntmps10
    go_wp2_with fail
    refine (DrawCombine_t sp nn cap w H.out).mono ?_
    rintro e w1 ⟨r, m, s, n, rfl, hr, ⟨hm0, hm1⟩, hs, ⟨hn0, hn1⟩, hb1⟩
    clear hr hs
    have HI := Lib.hid fun W => CombineCongruences_any r m s n W
    have HS := Lib.hid fun W => specCombine_any r m s n W
    have HG := Lib.hid fun W => GcdOf_any r s W
    rcases four_cases m n with ⟨m0, m1, n0, n1, d1, d2, d3, d4⟩ | hd
    · by_cases hv : (numB r && numB s) = true
      · rw [gcdT_nonneg hv] at HG
        have hg0 : 0 ≤ ((Int.gcd r s : Nat) : Int) := Int.natCast_nonneg _
        generalize ((Int.gcd r s : Nat) : Int) = g0 at HG hg0
        have d5 : decide (g0 < 0) = false := by simp; omega
        simp only [Bool.and_eq_true] at hv
        obtain ⟨r0, r1⟩ := numB_yes hv.1
        obtain ⟨s0, s1⟩ := numB_yes hv.2
        have hmB : modB m = true := by simp [modB, inB]; omega
        have hnB : modB n = true := by simp [modB, inB]; omega
        have hct : comT r m s n = comV r m s n := by unfold comT; rw [if_pos (by simp [hv.1, hv.2, hmB, hnB])]
        have hct2 : comT s n r m = comV s n r m := by unfold comT; rw [if_pos (by simp [hv.1, hv.2, hmB, hnB])]
        rw [hct] at HI HS
        have HG2 := Lib.hid fun W => GcdOf_any m n W
        have hgmn : gcdT m n = (Int.gcd m n : Nat) := gcdT_nonneg (by simp [numB, wlB]; omega)
        rw [hgmn] at HG2
        obtain ⟨gp, gl⟩ := gcd_le_r (a := m) (m := n) (by omega)
        by_cases hdv : ((Int.gcd m n : Nat) : Int) ∣ s - r
        · obtain ⟨x0, hx0⟩ := isSol_exists (a := m) (b := s - r) (show 0 < n by omega) hdv
          have hcom := com_impl (by omega) (by omega) hx0
          rw [comV_yes hcom] at HI HS
          have HJ := Lib.hid fun W => CombineCongruences_any s n r m W
          rw [hct2, comV_yes (com_swap hcom)] at HJ
          have HL := Lib.hid (lcT_two (m := m) (n := n) ⟨m0, m1⟩ ⟨n0, n1⟩)
          have hlt : m * (n / ((Int.gcd m n : Nat) : Int)) = lcT [m, n] := by rw [HL.out]; exact hcom.1
          have HAT := Lib.hid fun (k : Int) (h0 : 0 ≤ k) (h1 : k < _) => com_at hcom h0 h1
          have x00 := hcom.2.1
          have x01 := hcom.2.2.1
          have hxm := emod_zero_dvd.2 hcom.2.2.2.1
          have hxn := emod_zero_dvd.2 hcom.2.2.2.2
          have htl : m * (n / ((Int.gcd m n : Nat) : Int)) ≤ 10000 := by
            have hq : n / ((Int.gcd m n : Nat) : Int) ≤ n := Int.ediv_le_self _ (by omega)
            have hq0 : 0 ≤ n / ((Int.gcd m n : Nat) : Int) := Int.ediv_nonneg (by omega) (Int.natCast_nonneg _)
            have := (mul_bd (a := m) (x := n / ((Int.gcd m n : Nat) : Int)) (A := 100) (X := 100) (by omega) (by omega) hq0 (by omega) (by omega)).2
            omega
          clear hcom hx0 hdv hct hct2
          generalize (r + m * x0) % (m * (n / ((Int.gcd m n : Nat) : Int))) = x at *
          generalize m * (n / ((Int.gcd m n : Nat) : Int)) = t at *
          generalize ((Int.gcd m n : Nat) : Int) = g at *
          have HM := Lib.hid fun z W => pbMod_any z m W (by omega) (by omega)
          have HNN := Lib.hid fun z W => pbMod_any z n W (by omega) (by omega)
          have HLC := Lib.hid fun v W (h : RdJ W v [m, n]) => LcmOf_is v [m, n] W (by simp) h
          rw [← hlt] at HLC
          unfold T3 at HI HS HJ
          dsimp only at HI HS HJ
          clear hgmn HL hlt
          go_wp2_with fail
          refine (HI.out _).mono ?_
          rintro e w2 ⟨rfl, hb2⟩
          go_wp2_with fail
          refine (HS.out _).mono ?_
          rintro e w' ⟨rfl, rfl⟩
          go_wp2_with fail
          refine (HG.out _).mono ?_
          rintro e w3 ⟨rfl, hb3⟩
          go_wp2_with fail
          refine (HG2.out _).mono ?_
          rintro e w4 ⟨rfl, hb4⟩
          have HB4 := Lib.hid (below_on hb1 (below_on hb2 (below_on hb3 hb4)))
          go_wp2_with fail
          go_loopw [14] (fun i wr => CmR t w4 i wr) (fun i _ => 500 - (intOf i).toNat)
          case atStart => exact ⟨0, rfl, by omega, by omega, rfl⟩
          case round =>
            obtain ⟨k, rfl, hkt, hk5, rfl⟩ := hrel
            by_cases hke : (k : Int) < t ∧ k < 500
            · have hkd : decide ((k : Int) < t) = true := by simpa using hke.1
              have hkd2 : decide ((k : Int) < 500) = true := by simp; omega
              have hat := HAT.out k (by omega) hke.1
              rw [← emod_zero_dvd, ← emod_zero_dvd] at hat
              have HM1 := Lib.hid fun W => HM.out ((k : Int) - r) W
              have HN1 := Lib.hid fun W => HNN.out ((k : Int) - s) W
              have z10 := Int.emod_nonneg ((k : Int) - r) (show m ≠ 0 by omega)
              have z20 := Int.emod_nonneg ((k : Int) - s) (show n ≠ 0 by omega)
              generalize ((k : Int) - r) % m = z1 at *
              generalize ((k : Int) - s) % n = z2 at *
              have hcase : (z1 = 0 ∧ z2 = 0 ∧ ((k : Int) == x) = true) ∨ ((z1 == 0) = false ∧ ((k : Int) == x) = false) ∨ ((z1 == 0) = true ∧ (z2 == 0) = false ∧ ((k : Int) == x) = false) := by
                simp only [beq_eq_false_iff_ne, beq_iff_eq, ne_eq]
                by_cases h1 : z1 = 0
                · by_cases h2 : z2 = 0
                  · exact .inl ⟨h1, h2, hat.1 ⟨h1, h2⟩⟩
                  · exact .inr (.inr ⟨h1, h2, fun h3 => h2 (hat.2 h3).2⟩)
                · exact .inr (.inl ⟨h1, fun h3 => h1 (hat.2 h3).1⟩)
              obtain ⟨hkt1, hk51⟩ := hke
              clear hat HM HNN
              rcases hcase with ⟨rfl, rfl, c1⟩ | ⟨c0, c1⟩ | ⟨c0, c1, c2⟩
              · go_wp2_with fail
                refine (HM1.out _).mono ?_
                rintro e w' ⟨rfl, rfl⟩
                go_wp2_with fail
                refine (HN1.out _).mono ?_
                rintro e w' ⟨rfl, rfl⟩
                go_wp2
                go_roundw
                case rel => exact ⟨k + 1, by go_num, by omega, by omega, rfl⟩
                case measure => simp [intOf]; omega
              · go_wp2_with fail
                refine (HM1.out _).mono ?_
                rintro e w' ⟨rfl, rfl⟩
                go_wp2
                go_roundw
                case rel => exact ⟨k + 1, by go_num, by omega, by omega, rfl⟩
                case measure => simp [intOf]; omega
              · go_wp2_with fail
                refine (HM1.out _).mono ?_
                rintro e w' ⟨rfl, rfl⟩
                go_wp2_with fail
                refine (HN1.out _).mono ?_
                rintro e w' ⟨rfl, rfl⟩
                go_wp2
                go_roundw
                case rel => exact ⟨k + 1, by go_num, by omega, by omega, rfl⟩
                case measure => simp [intOf]; omega
            · have hkd : decide ((k : Int) < t) = false ∨ (decide ((k : Int) < t) = true ∧ decide ((k : Int) < 500) = false) := by
                by_cases h : (k : Int) < t
                · exact .inr ⟨by simpa using h, by simp; omega⟩
                · exact .inl (by simpa using h)
              have HM1 := Lib.hid fun W => HM.out (x - r) W
              have HN1 := Lib.hid fun W => HNN.out (x - s) W
              rw [hxm] at HM1
              rw [hxn] at HN1
              clear hke HM HNN HAT
              rcases hkd with k1 | ⟨k1, k2⟩
              all_goals
                go_wp2_with fail
                refine (HJ.out _).mono ?_
                rintro e w5 ⟨rfl, hb5⟩
                go_wp2_with fail
                refine (HLC.out _ _ ⟨some ⟨w5.heap.size, 0, none⟩, 2, rfl, by simp, by decide, .inr ⟨w5.heap.size, 0, rfl, by simp, fun i y hy => ?_⟩⟩).mono ?_
                · match i, hy with
                  | 0, hy => simp at hy; subst hy; simp [go_sem]
                  | 1, hy => simp at hy; subst hy; simp [go_sem]
                  | j + 2, hy => simp at hy
                rintro e w6 ⟨rfl, hb6⟩
                have hb56 : Below w5.heap.size w5 w6 := below_on (by go_grown) hb6
                go_wp2_with fail
                refine (HM1.out _).mono ?_
                rintro e w' ⟨rfl, rfl⟩
                go_wp2_with fail
                refine (HN1.out _).mono ?_
                rintro e w' ⟨rfl, rfl⟩
                go_wp2
                go_returns
                exact ⟨rfl, below_on HB4.out (below_on hb5 hb56)⟩
        · rw [comV_no hdv] at HI HS
          obtain ⟨g, hg⟩ : ∃ g : Int, ((Int.gcd m n : Nat) : Int) = g := ⟨_, rfl⟩
          rw [hg] at hdv HG2 gp gl
          obtain ⟨t, ht⟩ : ∃ t, (r - s).tmod g = t := ⟨_, rfl⟩
          have htz : (t == 0) = false := by
            simp only [beq_eq_false_iff_ne, ne_eq]
            intro e
            apply hdv
            have := Int.dvd_of_tmod_eq_zero (ht.trans e)
            have := Int.dvd_neg.2 this
            rwa [Int.neg_sub] at this
          have htz' : ¬ t = 0 := by simpa using htz
          have htb := tmod_small (n := r - s) gp
          rw [ht] at htb
          have hwt : IntKind.i64.wrap t = t := by rw [IntKind.wrap_i64]; omega
          have hgz : ¬ g = 0 := by omega
          unfold T3 at HI HS
          dsimp only at HI HS
          clear hdv hgmn hg hct hct2 htb
          go_wp2_with fail
          refine (HI.out _).mono ?_
          rintro e w2 ⟨rfl, hb2⟩
          go_wp2_with fail
          refine (HS.out _).mono ?_
          rintro e w' ⟨rfl, rfl⟩
          go_wp2_with fail
          refine (HG.out _).mono ?_
          rintro e w3 ⟨rfl, hb3⟩
          go_wp2_with fail
          refine (HG2.out _).mono ?_
          rintro e w4 ⟨rfl, hb4⟩
          go_wp2
          go_returns
          exact ⟨by simp [htz'], below_on hb1 (below_on hb2 (below_on hb3 hb4))⟩
      · rw [gcdT_neg hv] at HG
        generalize comT r m s n = t at *
        obtain ⟨x, y, ok⟩ := t
        unfold T3 at HI HS
        dsimp only at HI HS
        clear hv
        go_wp2_with fail
        refine (HI.out _).mono ?_
        rintro e w2 ⟨rfl, hb2⟩
        go_wp2_with fail
        refine (HS.out _).mono ?_
        rintro e w' ⟨rfl, rfl⟩
        go_wp2_with fail
        refine (HG.out _).mono ?_
        rintro e w3 ⟨rfl, hb3⟩
        go_wp2
        go_returns
        exact ⟨rfl, below_on hb1 (below_on hb2 hb3)⟩
    · generalize comT r m s n = t at *
      obtain ⟨x, y, ok⟩ := t
      unfold T3 at HI HS
      dsimp only at HI HS
      rcases hd with d1 | ⟨d1, d2⟩ | ⟨d1, d2, d3⟩ | ⟨d1, d2, d3, d4⟩
      all_goals
        go_wp2_with fail
        refine (HI.out _).mono ?_
        rintro e w2 ⟨rfl, hb2⟩
        go_wp2_with fail
        refine (HS.out _).mono ?_
        rintro e w' ⟨rfl, rfl⟩
        go_wp2
        go_returns
        exact ⟨rfl, below_on hb1 hb2⟩
  · have hn' : (1048576 : Int) < (nn : Int) := by omega
    go_enter Try.func10, Try.ntmps10
    go_wp2
    go_ret
    exact ⟨rfl, Below.refl _ _⟩

end Go.Proofs.Ytjhfmlbnpdnddaa
