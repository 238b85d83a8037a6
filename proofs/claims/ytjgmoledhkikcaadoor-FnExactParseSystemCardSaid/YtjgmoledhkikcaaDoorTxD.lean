/- The model's text of a term. -/
import Derived.Test.YtjgmoledhkikcaaDoorTxC
import Derived.Test.YtjgmoledhkikcaaDoorSpecA
namespace Go.Proofs.YtjgmoledhkikcaaDoor
open Go.RowKit

theorem l1List_c (a b c d n : Int) (w : World) :
    Calls Tryd.prog 71 #[.agg #[.int .i64 a, .int .i64 b, .int .i64 c, .int .i64 d, .int .i64 n]] w fun e w' => ∃ x, e = .returned (.slice (some ⟨x, 0, none⟩) 5 5) ∧ C5 w' x a b c d n ∧ Below w.heap.size w w' :=
  (l1List_any a b c d n w).mono fun _ _ ⟨he, hw⟩ => ⟨_, he, by subst hw; exact c5_fresh (by simp [World.size_alloc]), by subst hw; go_grown⟩

set_option maxHeartbeats 4000000 in
theorem specFormatTerm_any (a b c d n : Int) (w : World) :
    Calls Tryd.prog 49 #[.agg #[.int .i64 a, .int .i64 b, .int .i64 c, .int .i64 d, .int .i64 n]] w fun e w' => e = .returned (.string (bs (tfL a b c d n))) ∧ Below w.heap.size w w' := by
  have hb0 : ({ data := #[] } : ByteArray) = bs [] := rfl
  have hp : ({ data := #[43] } : ByteArray) = bs [43] := rfl
  have hm : ({ data := #[45] } : ByteArray) = bs [45] := rfl
  have hl0 := bs_list
  have happ := bs_app
  have hsz := bs_size
  obtain ⟨t, hv⟩ : ∃ t, tvB a b c d n = t := ⟨_, rfl⟩
  have HV := Lib.hid hv
  clear hv
  go_enter Tryd.func49, Tryd.ntmps49
  go_wp2_with fail
  refine (l1List_any a b c d n _).mono ?_
  rintro e w1 ⟨rfl, rfl⟩
  go_wp2_with fail
  refine (specTermValid_is _ _ _ _ _ t _ HV.out).mono ?_
  rintro e w2 ⟨rfl, hw2⟩
  obtain ⟨x, hx⟩ : ∃ x, (w.alloc (.cells #[.int .i64 a, .int .i64 b, .int .i64 c, .int .i64 d, .int .i64 n] 36)).heap.size + 1 = x := ⟨_, rfl⟩
  have HC2 := Lib.hid (show C5 w2 x a b c d n by
    subst hw2
    exact c5_keep (c5_fresh (t := 3) (w := (w.alloc (.cells #[.int .i64 a, .int .i64 b, .int .i64 c, .int .i64 d, .int .i64 n] 36)).alloc (.cells #[.int .i64 a, .int .i64 b, .int .i64 c, .int .i64 d, .int .i64 n] 36)) (by rw [← hx]; simp [World.size_alloc])) (by go_grown))
  have HB3 := Lib.hid (show Below w.heap.size w w2 by subst hw2; go_grown)
  simp only [World.size_alloc] at hx
  rw [hx]
  clear hx
  clear hw2
  cases t with
  | false =>
    have HF := Lib.hid (show tfL a b c d n = [] by unfold tfL; rw [if_neg (by rw [HV.out]; decide)])
    go_wp2
    go_ret
    exact ⟨by rw [HF.out]; rfl, HB3.out⟩
  | true =>
    have HB := Lib.hid (ft_bd HV.out)
    have HL := Lib.hid (ft_len HB.out)
    go_wp2
    go_loopw [3, 5] (fun s i wr => ∃ k : Nat, s = .string (bs (ftL [a, b, c, d, n] k)) ∧ i = .int .i64 k ∧ k ≤ 5 ∧ C5 wr x a b c d n ∧ Below w.heap.size w wr) (fun _ i _ => 5 - (intOf i).toNat)
    case atStart => exact ⟨0, rfl, rfl, by omega, HC2.out, HB3.out⟩
    case round =>
      obtain ⟨k, rfl, rfl, hk, hC', hB⟩ := hrel
      have HC := Lib.hid hC'
      have HB' := Lib.hid hB
      clear hC' hB
      by_cases hlt : k < 5
      · have hk' : (k : Int) < 5 := by omega
        have hk4 : (k : Int) ≤ 4 := by omega
        have hcell := c5_cell HC.out hlt
        obtain ⟨y, hy⟩ : ∃ y, [a, b, c, d, n].getD k 0 = y := ⟨_, rfl⟩
        have HY := Lib.hid hy
        rw [hy] at hcell
        obtain ⟨T, hT⟩ : ∃ T, ftL [a, b, c, d, n] k = T := ⟨_, rfl⟩
        have HTk := Lib.hid hT
        rw [hT]
        clear hy hT
        have HYB := Lib.hid (show -10000 ≤ y ∧ y ≤ 10000 by rw [← HY.out]; exact HB.out k)
        have hTl : T.length ≤ 115 := by have := HL.out k; rw [HTk.out] at this; omega
        have HI := Lib.hid fun W => l17Dec_any y W (by have := HYB.out.1; omega) (by have := HYB.out.2; omega)
        obtain ⟨D, hD⟩ : ∃ D, Lib.itoa y = D := ⟨_, rfl⟩
        have hDl : D.length ≤ 21 := by rw [← hD]; exact Lib.itoa_length_le y (by have := HYB.out.1; omega) (by have := HYB.out.2; omega)
        rw [hD] at HI
        have HD := Lib.hid hD
        clear hD
        have HLt := Lib.hid fun (W : World) (h : k ≤ 3) => l1Letter_any k W h
        obtain ⟨u, hu⟩ : ∃ u, UInt8.ofNat (97 + k) = u := ⟨_, rfl⟩
        rw [hu] at HLt
        have HU := Lib.hid hu
        clear hu
        rcases Int.lt_trichotomy y 0 with hneg | rfl | hpos
        · have hq0 : (y == 0) = false := by rw [beq_eq_false_iff_ne]; omega
          have hqp : decide (0 < y) = false := by simp; omega
          have hpn := hneg
          have HN0 := Lib.hid (show ftL [a, b, c, d, n] (k + 1) = T ++ mulL y k by rw [ft_minus (by rw [HY.out]; exact hneg), HTk.out, HY.out])
          clear hneg
          have hq1 : (y == 1) = false := by rw [beq_eq_false_iff_ne]; omega
          by_cases h4 : k = 4
          · have hk4q : ((k : Int) == 4) = true := by rw [beq_iff_eq]; omega
            have HN := Lib.hid (show ftL [a, b, c, d, n] (k + 1) = T ++ D by rw [HN0.out]; unfold mulL; rw [if_pos h4, HD.out])
            clear h4 hpn
            go_wp2_with fail
            refine (HI.out _).mono ?_
            rintro e w3 ⟨rfl, hb⟩
            go_wp2
            go_roundw
            case rel => exact ⟨k + 1, by simp [HN.out], by go_num, by omega, c5_keep HC.out hb, below_on HB'.out hb⟩
            case measure => simp [intOf] <;> omega
          · have hk4q : ((k : Int) == 4) = false := by rw [beq_eq_false_iff_ne]; omega
            by_cases h1 : y = -1
            · have hq2 : (y == -1) = true := by rw [beq_iff_eq]; exact h1
              have HN := Lib.hid (show ftL [a, b, c, d, n] (k + 1) = T ++ [45, u] by rw [HN0.out]; unfold mulL; rw [if_neg h4, if_neg (by omega), if_pos h1, HU.out]; rfl)
              have h3 : k ≤ 3 := by omega
              clear h1 h4 hpn
              go_wp2_with fail
              refine (HLt.out _ h3).mono ?_
              rintro e w3 ⟨rfl, rfl⟩
              go_wp2
              go_roundw
              case rel => exact ⟨k + 1, by simp [HN.out], by go_num, by omega, HC.out, HB'.out⟩
              case measure => simp [intOf] <;> omega
            · have hq2 : (y == -1) = false := by rw [beq_eq_false_iff_ne]; omega
              have HN := Lib.hid (show ftL [a, b, c, d, n] (k + 1) = T ++ (D ++ [u]) by rw [HN0.out]; unfold mulL; rw [if_neg h4, if_neg (by omega), if_neg (by omega), HD.out, HU.out])
              have h3 : k ≤ 3 := by omega
              clear h1 h4 hpn
              go_wp2_with fail
              refine (HI.out _).mono ?_
              rintro e w3 ⟨rfl, hb⟩
              go_wp2_with fail
              refine (HLt.out _ h3).mono ?_
              rintro e w4 ⟨rfl, rfl⟩
              go_wp2
              go_roundw
              case rel => exact ⟨k + 1, by simp [HN.out], by go_num, by omega, c5_keep HC.out hb, below_on HB'.out hb⟩
              case measure => simp [intOf] <;> omega
        · have HN := Lib.hid (show ftL [a, b, c, d, n] (k + 1) = T by rw [ft_zero HY.out, HTk.out])
          go_wp2
          go_roundw
          case rel => exact ⟨k + 1, by rw [HN.out], by go_num, by omega, HC.out, HB'.out⟩
          case measure => simp [intOf] <;> omega
        · have hq0 : (y == 0) = false := by rw [beq_eq_false_iff_ne]; omega
          have hqp : decide (0 < y) = true := by simp; omega
          have hpn := hpos
          cases T with
          | nil =>
            have HN0 := Lib.hid (show ftL [a, b, c, d, n] (k + 1) = ([] : List UInt8) ++ mulL y k by rw [ft_first (by rw [HY.out]; omega) HTk.out, HTk.out, HY.out])
            clear hpos
            have hq2 : (y == -1) = false := by rw [beq_eq_false_iff_ne]; omega
            by_cases h4 : k = 4
            · have hk4q : ((k : Int) == 4) = true := by rw [beq_iff_eq]; omega
              have HN := Lib.hid (show ftL [a, b, c, d, n] (k + 1) = ([] : List UInt8) ++ D by rw [HN0.out]; unfold mulL; rw [if_pos h4, HD.out])
              clear h4 hpn
              go_wp2_with fail
              refine (HI.out _).mono ?_
              rintro e w3 ⟨rfl, hb⟩
              go_wp2
              go_roundw
              case rel => exact ⟨k + 1, by simp [HN.out], by go_num, by omega, c5_keep HC.out hb, below_on HB'.out hb⟩
              case measure => simp [intOf] <;> omega
            · have hk4q : ((k : Int) == 4) = false := by rw [beq_eq_false_iff_ne]; omega
              by_cases h1 : y = 1
              · have hq1 : (y == 1) = true := by rw [beq_iff_eq]; exact h1
                have HN := Lib.hid (show ftL [a, b, c, d, n] (k + 1) = ([] : List UInt8) ++ [u] by rw [HN0.out]; unfold mulL; rw [if_neg h4, if_pos h1, HU.out]; rfl)
                have h3 : k ≤ 3 := by omega
                clear h1 h4 hpn
                go_wp2_with fail
                refine (HLt.out _ h3).mono ?_
                rintro e w3 ⟨rfl, rfl⟩
                go_wp2
                go_roundw
                case rel => exact ⟨k + 1, by simp [HN.out], by go_num, by omega, HC.out, HB'.out⟩
                case measure => simp [intOf] <;> omega
              · have hq1 : (y == 1) = false := by rw [beq_eq_false_iff_ne]; omega
                have HN := Lib.hid (show ftL [a, b, c, d, n] (k + 1) = ([] : List UInt8) ++ (D ++ [u]) by rw [HN0.out]; unfold mulL; rw [if_neg h4, if_neg (by omega), if_neg (by omega), HD.out, HU.out])
                have h3 : k ≤ 3 := by omega
                clear h1 h4 hpn
                go_wp2_with fail
                refine (HI.out _).mono ?_
                rintro e w3 ⟨rfl, hb⟩
                go_wp2_with fail
                refine (HLt.out _ h3).mono ?_
                rintro e w4 ⟨rfl, rfl⟩
                go_wp2
                go_roundw
                case rel => exact ⟨k + 1, by simp [HN.out], by go_num, by omega, c5_keep HC.out hb, below_on HB'.out hb⟩
                case measure => simp [intOf] <;> omega
          | cons t T' =>
            obtain ⟨U, hU⟩ : ∃ U, t :: T' = U := ⟨_, rfl⟩
            have hUn : U.isEmpty = false := by rw [← hU]; rfl
            rw [hU] at HTk hTl ⊢
            clear hU
            have HN0 := Lib.hid (show ftL [a, b, c, d, n] (k + 1) = (U ++ [43]) ++ mulL y k by rw [ft_plus (by rw [HY.out]; exact hpos) (by rw [HTk.out]; intro h; rw [h] at hUn; exact Bool.noConfusion hUn), HTk.out, HY.out])
            clear hpos
            have hq2 : (y == -1) = false := by rw [beq_eq_false_iff_ne]; omega
            by_cases h4 : k = 4
            · have hk4q : ((k : Int) == 4) = true := by rw [beq_iff_eq]; omega
              have HN := Lib.hid (show ftL [a, b, c, d, n] (k + 1) = (U ++ [43]) ++ D by rw [HN0.out]; unfold mulL; rw [if_pos h4, HD.out])
              clear h4 hpn
              go_wp2_with fail
              refine (HI.out _).mono ?_
              rintro e w3 ⟨rfl, hb⟩
              go_wp2
              go_roundw
              case rel => exact ⟨k + 1, by simp [HN.out], by go_num, by omega, c5_keep HC.out hb, below_on HB'.out hb⟩
              case measure => simp [intOf] <;> omega
            · have hk4q : ((k : Int) == 4) = false := by rw [beq_eq_false_iff_ne]; omega
              by_cases h1 : y = 1
              · have hq1 : (y == 1) = true := by rw [beq_iff_eq]; exact h1
                have HN := Lib.hid (show ftL [a, b, c, d, n] (k + 1) = (U ++ [43]) ++ [u] by rw [HN0.out]; unfold mulL; rw [if_neg h4, if_pos h1, HU.out]; rfl)
                have h3 : k ≤ 3 := by omega
                clear h1 h4 hpn
                go_wp2_with fail
                refine (HLt.out _ h3).mono ?_
                rintro e w3 ⟨rfl, rfl⟩
                go_wp2
                go_roundw
                case rel => exact ⟨k + 1, by simp [HN.out], by go_num, by omega, HC.out, HB'.out⟩
                case measure => simp [intOf] <;> omega
              · have hq1 : (y == 1) = false := by rw [beq_eq_false_iff_ne]; omega
                have HN := Lib.hid (show ftL [a, b, c, d, n] (k + 1) = (U ++ [43]) ++ (D ++ [u]) by rw [HN0.out]; unfold mulL; rw [if_neg h4, if_neg (by omega), if_neg (by omega), HD.out, HU.out])
                have h3 : k ≤ 3 := by omega
                clear h1 h4 hpn
                go_wp2_with fail
                refine (HI.out _).mono ?_
                rintro e w3 ⟨rfl, hb⟩
                go_wp2_with fail
                refine (HLt.out _ h3).mono ?_
                rintro e w4 ⟨rfl, rfl⟩
                go_wp2
                go_roundw
                case rel => exact ⟨k + 1, by simp [HN.out], by go_num, by omega, c5_keep HC.out hb, below_on HB'.out hb⟩
                case measure => simp [intOf] <;> omega
      · have hk' : ¬ (k : Int) ≤ 4 := by omega
        obtain rfl : k = 5 := by omega
        obtain ⟨T, hT⟩ : ∃ T, ftL [a, b, c, d, n] 5 = T := ⟨_, rfl⟩
        have HTk := Lib.hid hT
        rw [hT]
        clear hT
        cases T with
        | nil =>
          have HF := Lib.hid (show tfL a b c d n = [48] by unfold tfL; rw [if_pos HV.out, if_pos HTk.out])
          go_wp2
          go_ret
          exact ⟨by rw [HF.out]; rfl, HB'.out⟩
        | cons t T' =>
          obtain ⟨U, hU⟩ : ∃ U, t :: T' = U := ⟨_, rfl⟩
          have hUn : U.isEmpty = false := by rw [← hU]; rfl
          rw [hU] at HTk ⊢
          have HF := Lib.hid (show tfL a b c d n = U by unfold tfL; rw [if_pos HV.out, if_neg (by rw [HTk.out, ← hU]; exact List.cons_ne_nil _ _), HTk.out])
          clear hU
          go_wp2
          go_ret
          exact ⟨by rw [HF.out]; rfl, HB'.out⟩

end Go.Proofs.YtjgmoledhkikcaaDoor
