/- Sums of multiples of two numbers as a set: the gaps, the greatest one, their count. -/
import Derived.Test.YtpheihejgnlanaaDoorLwM
import Derived.Test.YtpheihejgnlanaaDoorNbH
namespace Go.Proofs.YtpheihejgnlanaaDoor
open Go.RowKit

theorem cntT_yes {a b c : Int} (h : (pcB a && pcB b && wlB c 10000) = true) : cntT a b c = (cntV a b c : Nat) := by unfold cntT; rw [if_pos h]
theorem cnt_pos {a b c : Int} (hpa : pcB a = true) (hpb : pcB b = true) (h0 : -10000 ≤ c) (h1 : c ≤ 10000) : ∃ N : Int, cntT a b c = N ∧ 0 ≤ N ∧ N ≤ 10001 ∧ (0 < N ↔ Solves a b c) := by
  have ha := pcB_yes hpa
  have hb := pcB_yes hpb
  refine ⟨_, cntT_yes (by simp only [Bool.and_eq_true]; exact ⟨⟨hpa, hpb⟩, by simp [wlB]; omega⟩), Int.natCast_nonneg _, ?_, ?_⟩
  · by_cases h : 0 ≤ c
    · have hq0 : 0 ≤ c / a := Int.ediv_nonneg h (by omega)
      have hq1 : c / a ≤ c := Int.ediv_le_self _ h
      rw [cntV_eq h]
      have := cntP_le (cP a b c) ((c / a).toNat + 1)
      omega
    · rw [cntV_neg (by omega)]; omega
  · rw [← cntV_pos (by omega) (by omega)]
    omega

noncomputable def solB (a b : Int) (k : Nat) : Bool := by classical exact decide (Solves a b (k : Int))
theorem solB_iff {a b : Int} {k : Nat} : solB a b k = true ↔ Solves a b (k : Int) := by unfold solB; simp
/-- Half of the numbers up to the greatest gap are sums. -/
theorem gap_half {a b : Int} (ha : 0 < a) (hb : 0 < b) (hc : Int.gcd a b = 1) (N : Nat) (hN : (N : Int) = a * b - a - b + 1) : 2 * cntP (solB a b) N = N := by
  have h1 := cntP_not (solB a b) N
  have h2 := cntP_rev (solB a b) N
  have h3 : cntP (fun i => !solB a b i) N = cntP (fun i => solB a b (N - 1 - i)) N := by
    apply cntP_congr
    intro i hi
    have hg := gap_other (c := (i : Int)) ha hb hc
    have e : a * b - a - b - (i : Int) = ((N - 1 - i : Nat) : Int) := by omega
    rw [e, ← solB_iff, ← solB_iff] at hg
    rcases h4 : solB a b i with _ | _
    · rcases h5 : solB a b (N - 1 - i) with _ | _
      · have := hg.2 (by rw [h5]; simp)
        rw [h4] at this
        exact absurd this (by simp)
      · rfl
    · have := hg.1 h4
      simpa using (by simpa using this : solB a b (N - 1 - i) = false).symm
  omega

/-- A sequence that repeats soon has a short normal form. -/
theorem res_per {a : Nat → UInt8} {N p : Nat} (hp0 : 0 < p) (hp : PerS a N p) (hN : N ≤ 400) (hp1 : p ≤ 240) : ∃ H L, resA a = ((H, L), true) ∧ H.length ≤ N ∧ L.length ≤ p := by
  have e := nfA_raw hp0 hp
  have hl : rawL a N p ≠ [] := fun e => by
    have : (rawL a N p).length = p := by simp [rawL]
    rw [e] at this
    simp at this
    omega
  have hs := nfS_spec (h := rawH a N) hl
  have h1 : (rawH a N).length = N := by simp [rawH]
  have h2 : (rawL a N p).length = p := by simp [rawL]
  rw [h1, h2, ← e] at hs
  refine ⟨(nfA a).1, (nfA a).2, ?_, hs.2.2.1, hs.2.2.2.1⟩
  unfold resA
  rw [if_pos ⟨by omega, by omega⟩]
theorem pr_mult (A : Nat) (hA : 1 ≤ A) : ∃ H L, prR 0 (A : Int) = ((H, L), decide (A ≤ 240)) ∧ (A ≤ 240 → svS H L = true ∧ atS H L = prA 0 A ∧ L.length ≤ A) := by
  unfold prR
  by_cases h : A ≤ 240
  · obtain ⟨H, L, e, _, e2⟩ := res_per (a := prA 0 A) hA (per_pr1 0 hA) (by omega) h
    refine ⟨H, L, ?_, fun _ => ?_⟩
    · rw [decide_eq_true (show (0 : Int) ≤ 0 ∧ (0 : Int) ≤ 400 by decide), decide_eq_true (show (0 : Int) ≤ (A : Int) ∧ (A : Int) ≤ 240 by omega), decide_eq_true h]
      exact e
    · obtain ⟨s1, t1, _⟩ := rp_yes (rp_pr 0 A) e
      exact ⟨s1, t1, e2⟩
  · refine ⟨[], [], ?_, fun h' => absurd h' h⟩
    rw [decide_eq_false (show ¬ ((0 : Int) ≤ (A : Int) ∧ (A : Int) ≤ 240) by omega), decide_eq_false h]
    simp
theorem mult_in {A n : Nat} (hA : 1 ≤ A) : inS (prA 0 A) n = true ↔ ∃ u : Nat, n = A * u := by
  rw [in_pr, decide_eq_true (Nat.zero_le n), if_neg (by omega), Bool.true_and, decide_eq_true_eq, Nat.sub_zero]
  constructor
  · intro h
    exact ⟨n / A, by have := Nat.div_add_mod n A; omega⟩
  · rintro ⟨u, rfl⟩
    exact Nat.mul_mod_right A u
theorem sum_solves {A B : Nat} (hA : 1 ≤ A) (hB : 1 ≤ B) (n : Nat) : sumB (prA 0 A) (prA 0 B) n = solB A B n := by
  rw [Bool.eq_iff_iff, sumB_iff, solB_iff]
  constructor
  · rintro ⟨i, j, hij, hi, hj⟩
    obtain ⟨u, rfl⟩ := (mult_in hA).1 hi
    obtain ⟨v, rfl⟩ := (mult_in hB).1 hj
    refine ⟨u, v, by omega, by omega, ?_⟩
    rw [← hij]
    simp
  · rintro ⟨u, v, hu, hv, e⟩
    obtain ⟨U, rfl⟩ := Int.eq_ofNat_of_zero_le hu
    obtain ⟨V, rfl⟩ := Int.eq_ofNat_of_zero_le hv
    refine ⟨A * U, B * V, ?_, (mult_in hA).2 ⟨U, rfl⟩, (mult_in hB).2 ⟨V, rfl⟩⟩
    have : ((A * U + B * V : Nat) : Int) = (n : Int) := by simpa using e
    exact_mod_cast this
theorem cnt_sol {s : Nat → UInt8} {P : Nat → Bool} (h : ∀ n, inS s n = P n) : ∀ n, cntA s n = cntP P n
  | 0 => rfl
  | n + 1 => by
    unfold cntA cntP
    rw [cnt_sol h n, h n]
    cases P n <;> rfl
theorem fr_law {A B : Nat} (hA : 1 ≤ A) (hB : 1 ≤ B) (hA1 : A ≤ 100) (hB1 : B ≤ 100) (hg : Int.gcd (A : Int) (B : Int) = 1) (hab : A * B ≤ 400) : ∃ S1 S2 T1 T2 X U G H : List UInt8, ∃ N D : Nat,
    prR 0 (A : Int) = ((S1, S2), true) ∧ prR 0 (B : Int) = ((T1, T2), true) ∧ smR S1 S2 T1 T2 = ((X, U), true) ∧ combR (fun x _ => !x) X U X U = ((G, H), true) ∧
    svS S1 S2 = true ∧ svS T1 T2 = true ∧ svS X U = true ∧ svS G H = true ∧ (∀ c : Nat, hnB X U c = solB A B c) ∧ ((N : Int) = (A : Int) * B - A - B + 1) ∧ N ≤ 400 ∧
    IsMostA (atS G H) ((N : Int) - 1) ∧ cbR G H (N : Int) = (D : Nat) ∧ 2 * D = N := by
  obtain ⟨S1, S2, e1, l1⟩ := pr_mult A hA
  obtain ⟨T1, T2, e2, l2⟩ := pr_mult B hB
  rw [decide_eq_true (by omega)] at e1 e2
  obtain ⟨s1, t1, p1⟩ := l1 (by omega)
  obtain ⟨s2, t2, p2⟩ := l2 (by omega)
  have hlen : S2.length * T2.length ≤ 400 := Nat.le_trans (Nat.mul_le_mul p1 p2) hab
  have hApos : (0 : Int) < (A : Int) := by omega
  have hBpos : (0 : Int) < (B : Int) := by omega
  have hAB1 : (A : Int) * B - A - B + 1 = ((A : Int) - 1) * (B - 1) := by rw [Int.sub_mul, Int.mul_sub]; omega
  have hN0 : 0 ≤ (A : Int) * B - A - B + 1 := by rw [hAB1]; exact Int.mul_nonneg (by omega) (by omega)
  obtain ⟨N, hN⟩ : ∃ N : Nat, (N : Int) = (A : Int) * B - A - B + 1 := ⟨((A : Int) * B - A - B + 1).toNat, by omega⟩
  have habI : (A : Int) * B ≤ 400 := by rw [← Int.natCast_mul]; omega
  have hsol : ∀ n : Nat, N ≤ n → solB A B n = true := fun n hn => solB_iff.2 (gap_beyond hApos hBpos hg (by omega))
  have hin : ∀ n, inS (smA (atS S1 S2) (atS T1 T2)) n = solB A B n := fun n => by rw [in_sm, t1, t2, sum_solves hA hB]
  have hper : PerS (smA (atS S1 S2) (atS T1 T2)) N 1 := fun n hn => by
    have hb : Bits (smA (atS S1 S2) (atS T1 T2)) := bits_of fun _ => rfl
    rw [← bits_in hb (n + 1), ← bits_in hb n, hin, hin, hsol n hn, hsol (n + 1) (by omega)]
  obtain ⟨X, U, e3, _, _⟩ := res_per (a := smA (atS S1 S2) (atS T1 T2)) (by decide) hper (by omega) (by decide)
  have hr := rp_sm (rp_sv s1) (rp_sv s2)
  obtain ⟨s3, t3, _⟩ := rp_yes hr e3
  have e4 : (resA (notA (smA (atS S1 S2) (atS T1 T2)))).2 = true := by rw [res_not hr, e3]
  obtain ⟨R, hR⟩ : ∃ R, resA (notA (smA (atS S1 S2) (atS T1 T2))) = R := ⟨_, rfl⟩
  obtain ⟨⟨G, H⟩, b⟩ := R
  rw [hR] at e4
  have e4' : b = true := e4
  subst e4'
  obtain ⟨s4, t4, _⟩ := rp_yes (rp_not hr) hR
  have hnin : ∀ n, inS (atS G H) n = !solB A B n := fun n => by rw [t4, in_not, hin]
  refine ⟨S1, S2, T1, T2, X, U, G, H, N, cntA (atS G H) N, e1, e2, ?_, ?_, s1, s2, s3, s4, fun c => by rw [hn_sv s3, t3, hin], hN, by omega, ?_, cb_sv s4 N (by omega), ?_⟩
  · unfold smR
    rw [s1, s2, decide_eq_true hlen]
    exact e3
  · rw [comb_mk s3 s3]
    show resA (notA (atS X U)) = _
    rw [t3, hR]
  · by_cases hz : N = 0
    · subst hz
      exact .inl ⟨by omega, fun n => by rw [hnin, hsol n (by omega)]; rfl⟩
    · refine .inr (.inr ⟨N - 1, by omega, ?_, fun m hm => by rw [hnin, hsol m (by omega)]; rfl⟩)
      rw [hnin]
      have hno : solB A B (N - 1) = false := by
        cases hq : solB A B (N - 1) with
        | false => rfl
        | true =>
          have := solB_iff.1 hq
          rw [show ((N - 1 : Nat) : Int) = (A : Int) * B - A - B by omega] at this
          exact absurd this (gap_none hApos hBpos hg)
      rw [hno]
      rfl
  · have h1 := cnt_sol (P := fun n => !solB A B n) hnin N
    have h2 := gap_half hApos hBpos hg N hN
    have h3 := cntP_not (solB A B) N
    omega

theorem gap_is {a b : Int} : gapT a b = -2 ∨ ∃ A B : Nat, a = A ∧ b = B ∧ 1 ≤ A ∧ 1 ≤ B ∧ A ≤ 100 ∧ B ≤ 100 ∧ Int.gcd (A : Int) (B : Int) = 1 ∧ pcB a = true ∧ pcB b = true ∧ gapT a b = (A : Int) * B - A - B := by
  by_cases h : (pcB a && pcB b && decide (Int.gcd a b = 1)) = true
  · right
    simp only [Bool.and_eq_true, decide_eq_true_eq] at h
    obtain ⟨⟨h1, h2⟩, h3⟩ := h
    have ha := pcB_yes h1
    have hb := pcB_yes h2
    obtain ⟨A, rfl⟩ := Int.eq_ofNat_of_zero_le (show 0 ≤ a by omega)
    obtain ⟨B, rfl⟩ := Int.eq_ofNat_of_zero_le (show 0 ≤ b by omega)
    refine ⟨A, B, rfl, rfl, by omega, by omega, by omega, by omega, h3, h1, h2, ?_⟩
    unfold gapT
    rw [if_pos (by simp [h1, h2, h3])]
  · left
    unfold gapT
    rw [if_neg h]
end Go.Proofs.YtpheihejgnlanaaDoor
