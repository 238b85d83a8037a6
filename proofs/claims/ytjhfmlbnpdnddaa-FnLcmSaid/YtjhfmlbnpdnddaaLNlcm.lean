/- The walk of the law on least common multiples. -/
import Derived.Test.YtjhfmlbnpdnddaaLNcong
import Derived.Test.YtjhfmlbnpdnddaaDrL
namespace Go.Proofs.Ytjhfmlbnpdnddaa
open Go.RowKit

/-- The least common multiple of n and a list. -/
theorem lcS_some {n x r : Int} (hn : 1 ≤ n) (h : lcS n x = some r) : 1 ≤ x ∧ x ≤ 10000 ∧ n ∣ r ∧ x ∣ r ∧ 1 ≤ r ∧ r ≤ 10000 ∧ r = (Int.lcm n x : Nat) := by
  unfold lcS at h
  split at h
  · next hx =>
    have hx' := modB_yes hx
    have hl := lcm_of_gcd (m := n) (n := x) (by omega) (by omega)
    split at h
    · next hle =>
      have hr := Option.some.inj h
      rw [hl] at hr
      subst hr
      have hd1 : n ∣ ((Int.lcm n x : Nat) : Int) := by rw [Int.lcm_comm]; exact dvd_lcm_r x n
      have hd2 : x ∣ ((Int.lcm n x : Nat) : Int) := dvd_lcm_r n x
      have hpos : 0 < ((Int.lcm n x : Nat) : Int) := by
        rw [← hl]
        have hg := gcd_pos_r (a := n) (m := x) (by omega)
        obtain ⟨_, x', _, ex, _, e⟩ := gcd_parts (a := n) (m := x) (by omega)
        rw [e]
        apply Int.mul_pos (by omega)
        rcases Int.lt_trichotomy x' 0 with h0 | h0 | h0
        · exfalso
          have := Int.mul_neg_of_pos_of_neg (show (0 : Int) < (Int.gcd n x : Nat) by omega) h0
          omega
        · rw [h0] at ex; simp at ex; omega
        · exact h0
      exact ⟨hx'.1, hx'.2, hd1, hd2, by omega, by rw [← hl]; exact hle, rfl⟩
    · exact absurd h (by simp)
  · exact absurd h (by simp)
theorem lcL_facts : ∀ (L : List Int) (n N : Int), 1 ≤ n → n ≤ 10000 → lcL n L = N → 0 ≤ N → 1 ≤ N ∧ N ≤ 10000 ∧ n ∣ N ∧ (∀ x ∈ L, 1 ≤ x ∧ x ≤ 10000 ∧ x ∣ N) ∧ ∀ z : Int, n ∣ z → (∀ x ∈ L, x ∣ z) → N ∣ z
  | [], n, N, h1, h2, h, _ => by
    have : n = N := h
    subst this
    exact ⟨h1, h2, Int.dvd_refl _, fun x hx => absurd hx (by simp), fun z hz _ => hz⟩
  | x :: r, n, N, h1, h2, h, hN => by
    unfold lcL at h
    rcases hs : lcS n x with _ | m
    · rw [hs] at h
      dsimp only at h
      omega
    · rw [hs] at h
      dsimp only at h
      obtain ⟨x1, x2, d1, d2, m1, m2, e⟩ := lcS_some h1 hs
      obtain ⟨k1, k2, k3, k4, k5⟩ := lcL_facts r m N m1 m2 h hN
      refine ⟨k1, k2, Int.dvd_trans d1 k3, fun y hy => ?_, fun z hz hx => ?_⟩
      · rcases List.mem_cons.1 hy with rfl | hy
        · exact ⟨x1, x2, Int.dvd_trans d2 k3⟩
        · exact k4 y hy
      · refine k5 z ?_ fun y hy => hx y (List.mem_cons_of_mem _ hy)
        rw [e]
        exact lcm_dvd' hz (hx x (List.mem_cons_self ..))

theorem lcm_prod {m n : Int} (hm : 0 < m) (hn : 0 < n) : ((Int.lcm m n : Nat) : Int) * ((Int.gcd m n : Nat) : Int) = m * n := by
  have h := Nat.gcd_mul_lcm m.natAbs n.natAbs
  unfold Int.gcd Int.lcm
  rw [Int.mul_comm, ← Int.natCast_mul, h, Int.natCast_mul]
  congr 1 <;> omega

set_option maxHeartbeats 400000 in
theorem commonDivisor_same (a b : Int) (w : World) (a0 : -1000000 ≤ a) (a1 : a ≤ 1000000) (b0 : -1000000 ≤ b) (b1 : b ≤ 1000000) :
    Calls Try.prog 70 #[.int .i64 a, .int .i64 b] w fun e w' => e = .returned (.int .i64 (Int.gcd a b : Nat)) ∧ w = w' := by
  go_enter Try.func70, Try.ntmps70
  go_wp2_with fail
  refine (euclidInt_any a b w a0 a1 b0 b1).mono ?_
  rintro e w' ⟨⟨c, rfl, hc, c0, c1⟩, rfl⟩
  go_wp2_with (go_at_call 102; refine (size_any _ _ (by omega) (by omega)).mono ?_; rintro e w' ⟨rfl, rfl⟩)
  go_ret
  exact ⟨ret_int (by rw [← hc]), rfl⟩
theorem GcdOf_same (a b : Int) (w : World) (ha : numB a = true) (hb : numB b = true) :
    Calls Try.prog 28 #[.int .i64 a, .int .i64 b] w fun e w' => e = .returned (.int .i64 (Int.gcd a b : Nat)) ∧ w = w' := by
  obtain ⟨a0, a1⟩ := numB_yes ha
  obtain ⟨b0, b1⟩ := numB_yes hb
  have HS := Lib.hid fun W => commonDivisor_same a b W (by omega) (by omega) (by omega) (by omega)
  go_enter Try.func28, Try.ntmps28
  go_wp2_with (first | (go_at_call 75; refine (isNumber_any _ _).mono ?_; rintro e w' ⟨rfl, rfl⟩) | (go_at_call 70; refine (HS.out _).mono ?_; rintro e w' ⟨rfl, rfl⟩))
  go_returns
  exact ⟨rfl, rfl⟩

def Lk1 (l : Nat) (w : World) (i : Value) (wr : World) : Prop := ∃ k : Nat, i = .int .i64 k ∧ k ≤ l ∧ Below w.heap.size w wr
def Lk2 (N : Int) (w : World) (i : Value) (wr : World) : Prop := ∃ k : Nat, i = .int .i64 k ∧ 2 ≤ k ∧ ((k : Int) ≤ N + 1 ∨ k = 2) ∧ Below w.heap.size w wr
def Lk3 (L : List Int) (z : Int) (w : World) (b i : Value) (wr : World) : Prop := ∃ (k : Nat) (q : Bool), i = .int .i64 k ∧ b = .bool q ∧ k ≤ L.length ∧ (q = true ↔ ∀ j x, j < k → L[j]? = some x → x ∣ z) ∧ Below w.heap.size w wr

set_option maxRecDepth 100000 in
set_option maxHeartbeats 4000000 in
theorem lcm_walk (sp : Option Addr) (nn cap : Nat) (w : World) (h : Code w sp nn cap) :
    Calls Try.prog 6 #[.slice sp nn cap] w fun e w' => e = .returned (.bool true) ∧ Below w.heap.size w w' := by
  have hc1 := h.1
  have hc2 := h.2.1
  have H := Lib.hid h
  clear h
  by_cases hn : nn ≤ 1048576
  · have hn' : ¬ (1048576 : Int) < (nn : Int) := by omega
    go_enter Try.func6, Try.ntmps6
    go_wp2_with fail
    refine (DrawLcm_t sp nn cap w H.out).mono ?_
    rintro e w1 ⟨s, L, rfl, hs, hL4, hb1⟩
    have HI := Lib.hid fun W (h : RdJ W s L) => LcmOf_is s L W (by omega) h
    have HS := Lib.hid fun W (h : RdJ W s L) => specLcmOf_is s L W (by omega) h
    obtain ⟨N, hN⟩ : ∃ N, lcT L = N := ⟨_, rfl⟩
    rw [hN] at HI HS
    have HNE := Lib.hid hN
    have HR1 := Lib.hid hs
    obtain ⟨sp1, cap1, rfl, hq1, hq2, _⟩ := hs
    unfold maxLen at hq2
    obtain ⟨l, hl⟩ : ∃ l, L.length = l := ⟨_, rfl⟩
    have HLE := Lib.hid hl
    rw [hl] at hL4 hq1 HI HS HR1
    rw [hl]
    clear hN hl
    go_wp2_with fail
    refine (HI.out w1 HR1.out).mono ?_
    rintro e w2 ⟨rfl, hb2⟩
    have HR2 := Lib.hid (rdJ_on HR1.out hb2)
    have HB2 := Lib.hid (below_on hb1 hb2)
    clear hb1 hb2
    go_wp2_with fail
    refine (HS.out w2 HR2.out).mono ?_
    rintro e w3 ⟨rfl, hb3⟩
    have HR3 := Lib.hid (rdJ_on HR2.out hb3)
    have HB3 := Lib.hid (below_on HB2.out hb3)
    clear hb3
    by_cases hN0 : 0 ≤ N
    · have hd : decide (N < 0) = false := by simp; omega
      obtain ⟨N1, N2, _, hall, hmin⟩ := lcL_facts L 1 N (by omega) (by omega) HNE.out hN0
      have HALL := Lib.hid hall
      have HMIN := Lib.hid hmin
      clear hall hmin
      go_wp2_with fail
      go_loopw [5] (fun i wr => Lk1 l w3 i wr) (fun i _ => l - (intOf i).toNat)
      case atStart => exact ⟨0, rfl, by omega, Below.refl _ _⟩
      case round =>
        obtain ⟨k, rfl, hk, hB⟩ := hrel
        rename World => W4
        have HB := Lib.hid hB
        by_cases hlt : k < l
        · have hk' : (k : Int) < (l : Int) := by omega
          obtain ⟨y, hy⟩ : ∃ y, L[k]? = some y := ⟨_, List.getElem?_eq_getElem (by rw [HLE.out]; exact hlt)⟩
          obtain ⟨y0, y1, yd⟩ := HALL.out y (List.mem_of_getElem? hy)
          obtain ⟨sp', cap', hse, _, _, hel⟩ := rdJ_on HR3.out hB
          injection hse with e1 e2 e3
          subst e1 e3
          obtain ⟨b, o, rfl, hbl, hcell⟩ := hel.resolve_left (by rw [HLE.out]; omega)
          have c1 := hcell k y hy
          have ht := Int.tmod_eq_zero_of_dvd yd
          have hyz : ¬ y = 0 := by omega
          clear hcell hel hB e2 hy yd
          go_wp2
          go_roundw
          case rel => exact ⟨k + 1, by go_num, by omega, HB.out⟩
          case measure => simp [intOf]; omega
        · have hk' : ¬ (k : Int) < (l : Int) := by omega
          have HR4 := Lib.hid (rdJ_on HR3.out hB)
          have HB4 := Lib.hid (below_on HB3.out hB)
          clear hB
          go_wp2_with fail
          go_loopw [6] (fun i wr2 => Lk2 N W4 i wr2) (fun i _ => (N + 2 - intOf i).toNat)
          case atStart => exact ⟨2, rfl, by omega, by omega, Below.refl _ _⟩
          case round =>
            obtain ⟨p, rfl, hp2, hpN, hB⟩ := hrel
            rename World => W5
            have HBp := Lib.hid hB
            have HR5 := Lib.hid (rdJ_on HR4.out hB)
            clear hB
            by_cases hpl : (p : Int) ≤ N
            · have hpd : decide ((p : Int) ≤ N) = true := by simpa using hpl
              have hpz : ¬ (p : Int) = 0 := by omega
              obtain ⟨t, ht⟩ : ∃ t, N.tmod p = t := ⟨_, rfl⟩
              have htb := tmod_small (n := N) (d := (p : Int)) (by omega)
              rw [ht] at htb
              have hwt : IntKind.i64.wrap t = t := by rw [IntKind.wrap_i64]; omega
              by_cases htz : t = 0
              · subst htz
                have hpz2 : (p : Int) * N.tdiv p = N := Int.mul_tdiv_cancel' (Int.dvd_of_tmod_eq_zero ht)
                obtain ⟨z, hz⟩ : ∃ z, N.tdiv p = z := ⟨_, rfl⟩
                have hzb := tdiv_le N p
                rw [hz] at hzb hpz2
                have hwz : IntKind.i64.wrap z = z := by rw [IntKind.wrap_i64]; omega
                have hz0 : 0 < z := by
                  apply Decidable.byContradiction
                  intro h
                  have := Int.mul_le_mul_of_nonneg_left (show z ≤ 0 by omega) (show 0 ≤ (p : Int) by omega)
                  omega
                have hzN : z < N := by
                  have := Int.mul_le_mul_of_nonneg_right (show 2 ≤ (p : Int) by omega) (show 0 ≤ z by omega)
                  omega
                have HNOT := Lib.hid (show ¬ ∀ x ∈ L, x ∣ z from fun hx => by
                  have hd := HMIN.out z (Int.one_dvd z) hx
                  have := Int.le_of_dvd hz0 hd
                  omega)
                clear hpz2 htb hzb
                go_wp2_with fail
                go_loopw [7, 8] (fun q i wr3 => Lk3 L z W4 q i wr3) (fun _ i _ => l - (intOf i).toNat)
                case atStart => exact ⟨0, true, rfl, rfl, by omega, ⟨fun _ j x hj => absurd hj (by omega), fun _ => rfl⟩, HBp.out⟩
                case round =>
                  obtain ⟨i, q, rfl, rfl, hi, hq, hB⟩ := hrel
                  rw [HLE.out] at hi
                  have HQ := Lib.hid hq
                  have HBi := Lib.hid hB
                  clear hq
                  by_cases hlt : i < l
                  · have hk' : (i : Int) < (l : Int) := by omega
                    obtain ⟨y, hy⟩ : ∃ y, L[i]? = some y := ⟨_, List.getElem?_eq_getElem (by rw [HLE.out]; exact hlt)⟩
                    have HY := Lib.hid hy
                    obtain ⟨y0, y1, _⟩ := HALL.out y (List.mem_of_getElem? hy)
                    obtain ⟨sp', cap', hse, _, _, hel⟩ := rdJ_on HR4.out hB
                    injection hse with e1 e2 e3
                    subst e1 e3
                    obtain ⟨b, o, rfl, hbl, hcell⟩ := hel.resolve_left (by rw [HLE.out]; omega)
                    have c1 := hcell i y hy
                    have hyz : ¬ y = 0 := by omega
                    obtain ⟨u, hu⟩ : ∃ u, z.tmod y = u := ⟨_, rfl⟩
                    have hub := tmod_small (n := z) (d := y) (by omega)
                    rw [hu] at hub
                    have hwu : IntKind.i64.wrap u = u := by rw [IntKind.wrap_i64]; omega
                    have HU := Lib.hid (show u = 0 ↔ y ∣ z from by rw [← hu]; exact tmod_zero')
                    obtain ⟨v, hv⟩ : ∃ v : Bool, (u == 0) = v := ⟨_, rfl⟩
                    have HV := Lib.hid (show v = true ↔ y ∣ z from by rw [← HU.out, ← hv]; simp)
                    have HREL := Lib.hid (show (q && v) = true ↔ ∀ j x, j < i + 1 → L[j]? = some x → x ∣ z from by
                      rw [Bool.and_eq_true, HQ.out, HV.out]
                      constructor
                      · rintro ⟨k1, k2⟩ j x hj hx
                        by_cases hji : j < i
                        · exact k1 j x hji hx
                        · obtain rfl : j = i := by omega
                          have e := HY.out
                          rw [hx] at e
                          obtain rfl := Option.some.inj e
                          exact k2
                      · intro k
                        exact ⟨fun j x hj hx => k j x (by omega) hx, k i y (by omega) HY.out⟩)
                    clear hcell hel hB e2 hy hub
                    rcases q with _ | _
                    · go_wp2_with fail
                      go_quiet (fail)
                      go_wp2
                      go_roundw
                      case rel => exact ⟨i + 1, _, by go_num, rfl, by rw [HLE.out]; omega, by simpa using HREL.out, below_on HBi.out (below_dq _ _)⟩
                      case measure => simp [intOf]; omega
                    · rcases v with _ | _
                      all_goals
                        go_wp2_with fail
                        go_quiet (fail)
                        go_wp2
                        go_roundw
                        case rel => exact ⟨i + 1, _, by go_num, rfl, by rw [HLE.out]; omega, by simpa using HREL.out, below_on HBi.out (below_dq _ _)⟩
                        case measure => simp [intOf]; omega
                  · have hk' : ¬ (i : Int) < (l : Int) := by omega
                    obtain rfl : q = false := by
                      rcases q with _ | _
                      · rfl
                      · exfalso
                        refine HNOT.out fun x hx => ?_
                        obtain ⟨j, hj⟩ := List.getElem?_of_mem hx
                        exact HQ.out.1 rfl j x (by have := (List.getElem?_eq_some_iff.1 hj).1; rw [HLE.out] at this; omega) hj
                    go_wp2
                    go_roundw
                    case rel => exact ⟨p + 1, by go_num, by omega, by omega, HBi.out⟩
                    case measure => simp [intOf]; omega
              · go_wp2
                go_roundw
                case rel => exact ⟨p + 1, by go_num, by omega, by omega, HBp.out⟩
                case measure => simp [intOf]; omega
            · have hpd : decide ((p : Int) ≤ N) = false := by simpa using hpl
              have hd1 : decide (1 ≤ N) = true := by simpa using N1
              by_cases hl2 : l = 2
              · subst hl2
                obtain ⟨x, y, hxy⟩ : ∃ x y, L = [x, y] := by
                  have := HLE.out
                  match L, this with
                  | [x, y], _ => exact ⟨x, y, rfl⟩
                obtain ⟨x0, x1, _⟩ := HALL.out x (by rw [hxy]; simp)
                obtain ⟨y0, y1, _⟩ := HALL.out y (by rw [hxy]; simp)
                obtain ⟨sp', cap', hse, _, _, hel⟩ := HR5.out
                injection hse with e1 e2 e3
                subst e1 e3
                obtain ⟨b, o, rfl, hbl, hcell⟩ := hel.resolve_left (by rw [HLE.out]; omega)
                have c0 : W5.cell? ⟨b, o, none⟩ = some (.int .i64 x) := hcell 0 x (by rw [hxy]; rfl)
                have c1 : W5.cell? ⟨b, o + 1, none⟩ = some (.int .i64 y) := hcell 1 y (by rw [hxy]; rfl)
                have HG := Lib.hid fun W => GcdOf_same x y W (by simp [numB, wlB]; omega) (by simp [numB, wlB]; omega)
                have hNl : N = (Int.lcm x y : Nat) := by
                  have hne := HNE.out
                  rw [hxy] at hne
                  have hN9 : 0 ≤ N := hN0
                  rw [← hne] at hN9 ⊢
                  unfold lcT lcL at hN9 ⊢
                  rcases h1 : lcS 1 x with _ | m1
                  · rw [h1] at hN9; simp at hN9
                  · rw [h1] at hN9
                    have k1 := (lcS_some (by omega) h1)
                    have hm1 : m1 = x := by
                      rw [k1.2.2.2.2.2.2]
                      simp [Int.lcm]
                      omega
                    subst hm1
                    dsimp only at hN9 ⊢
                    unfold lcL at hN9 ⊢
                    rcases h2 : lcS m1 y with _ | m2
                    · rw [h2] at hN9; simp at hN9
                    · rw [h2] at hN9
                      have k2 := (lcS_some (by omega) h2)
                      exact k2.2.2.2.2.2.2
                have hprod := lcm_prod (m := x) (n := y) (by omega) (by omega)
                rw [← hNl] at hprod
                obtain ⟨gp, gl⟩ := gcd_le_r (a := x) (m := y) (by omega)
                obtain ⟨g, hg⟩ : ∃ g : Int, ((Int.gcd x y : Nat) : Int) = g := ⟨_, rfl⟩
                rw [hg] at HG hprod gp gl
                obtain ⟨u, hu, u0, u1⟩ := mul_bd3 (a := x) (k := y) (A := 10000) (K := 10000) (by omega) (by omega) (by omega)
                rw [hu] at hprod
                have hwu : IntKind.i64.wrap u = u := by rw [IntKind.wrap_i64]; omega
                clear hcell hel e2 hxy hNl hg hbl
                go_wp2_with fail
                go_quiet ((go_at_call 28; exact Calls.quiet_of_same ((HG.out _).mono fun _ _ h => ⟨h.1, h.2.symm⟩)))
                go_wp2
                go_returns
                exact ⟨rfl, below_on HB4.out (below_on HBp.out (below_dq _ _))⟩
              · have hl2' : ((l : Int) == 2) = false := by simp; omega
                have hl2n : ¬ (l : Int) = 2 := by omega
                go_wp2_with fail
                go_quiet (fail)
                go_wp2
                go_returns
                exact ⟨rfl, below_on HB4.out (below_on HBp.out (below_dq _ _))⟩
    · have hd : decide (N < 0) = true := by simp; omega
      go_wp2_with fail
      refine (HS.out w3 HR3.out).mono ?_
      rintro e w4 ⟨rfl, hb4⟩
      go_wp2
      go_returns
      exact ⟨rfl, below_on HB3.out hb4⟩
  · have hn' : (1048576 : Int) < (nn : Int) := by omega
    go_enter Try.func6, Try.ntmps6
    go_wp2
    go_ret
    exact ⟨rfl, Below.refl _ _⟩

end Go.Proofs.Ytjhfmlbnpdnddaa
