/- The program's text of a term. -/
import Derived.Test.YtjgmoledhkikcaaDoorTxA
namespace Go.Proofs.YtjgmoledhkikcaaDoor
open Go.RowKit

theorem c5_keep {W w' : World} {x : Nat} {a b c d n : Int} (h : C5 W x a b c d n) (hb : Below W.heap.size W w') : C5 w' x a b c d n := by
  have hc := (bcell hb).1
  exact ⟨by have := hb.size; have := h.1; omega, by rw [hc _ _ h.1]; exact h.2.1, by rw [hc _ _ h.1]; exact h.2.2.1, by rw [hc _ _ h.1]; exact h.2.2.2.1, by rw [hc _ _ h.1]; exact h.2.2.2.2.1, by rw [hc _ _ h.1]; exact h.2.2.2.2.2⟩
theorem c5_cell {W : World} {x : Nat} {a b c d n : Int} (h : C5 W x a b c d n) {k : Nat} (hk : k < 5) : W.cell? ⟨x, k, none⟩ = some (.int .i64 ([a, b, c, d, n].getD k 0)) := by
  have hk' : k = 0 ∨ k = 1 ∨ k = 2 ∨ k = 3 ∨ k = 4 := by omega
  rcases hk' with rfl | rfl | rfl | rfl | rfl
  · exact h.2.1
  · exact h.2.2.1
  · exact h.2.2.2.1
  · exact h.2.2.2.2.1
  · exact h.2.2.2.2.2
theorem ft_bd {a b c d n : Int} (h : tvB a b c d n = true) (k : Nat) : -10000 ≤ [a, b, c, d, n].getD k 0 ∧ [a, b, c, d, n].getD k 0 ≤ 10000 := by
  obtain ⟨⟨_, _⟩, ⟨_, _⟩, ⟨_, _⟩, ⟨_, _⟩, _, _⟩ := tv_bd h
  rcases k with _ | _ | _ | _ | _ | k <;> simp [List.getD] <;> omega
theorem ft_len {L : List Int} (h : ∀ k, -10000 ≤ L.getD k 0 ∧ L.getD k 0 ≤ 10000) : ∀ k, (ftL L k).length ≤ 23 * k
  | 0 => by simp [ftL]
  | k + 1 => by
    have ih := ft_len h k
    have hm := mul_len (L.getD k 0) k (by have := (h k).1; omega) (by have := (h k).2; omega)
    unfold ftL
    split
    · omega
    · rw [List.length_append]
      split
      · simp only [List.length_append, List.length_singleton]; omega
      · omega
theorem ft_zero {L : List Int} {k : Nat} (h : L.getD k 0 = 0) : ftL L (k + 1) = ftL L k := by
  rw [ftL, if_pos h]
theorem ft_plus {L : List Int} {k : Nat} (h : 0 < L.getD k 0) (hn : ftL L k ≠ []) : ftL L (k + 1) = (ftL L k ++ [43]) ++ mulL (L.getD k 0) k := by
  rw [ftL, if_neg (by omega), if_pos ⟨h, hn⟩]
theorem ft_first {L : List Int} {k : Nat} (h : L.getD k 0 ≠ 0) (hn : ftL L k = []) : ftL L (k + 1) = ftL L k ++ mulL (L.getD k 0) k := by
  rw [ftL, if_neg h, if_neg (by simp [hn])]
theorem ft_minus {L : List Int} {k : Nat} (h : L.getD k 0 < 0) : ftL L (k + 1) = ftL L k ++ mulL (L.getD k 0) k := by
  rw [ftL, if_neg (by omega), if_neg (by omega)]

theorem c5_fresh {w : World} {r0 r1 r2 r3 r4 : Int} {t : TypeId} {z : Nat} (hz : z = w.heap.size) : C5 (w.alloc (.cells #[.int .i64 r0, .int .i64 r1, .int .i64 r2, .int .i64 r3, .int .i64 r4] t)) z r0 r1 r2 r3 r4 := by
  subst hz
  refine ⟨?_, ?_, ?_, ?_, ?_, ?_⟩ <;> simp [go_sem]
theorem multiples_c (a b c d n : Int) (w : World) :
    Calls Tryd.prog 80 #[.agg #[.int .i64 a, .int .i64 b, .int .i64 c, .int .i64 d, .int .i64 n]] w fun e w' => ∃ x, e = .returned (.slice (some ⟨x, 0, none⟩) 5 5) ∧ C5 w' x a b c d n ∧ Below w.heap.size w w' :=
  (multiples_any a b c d n w).mono fun _ _ ⟨he, hw⟩ => ⟨_, he, by subst hw; exact c5_fresh (by simp [World.size_alloc]), by subst hw; go_grown⟩

set_option maxHeartbeats 2000000 in
theorem pFormatTerm_any (a b c d n : Int) (w : World) (ht : Tab w) :
    Calls Tryd.prog 56 #[.agg #[.int .i64 a, .int .i64 b, .int .i64 c, .int .i64 d, .int .i64 n]] w fun e w' => e = .returned (.string (bs (tfL a b c d n))) ∧ Below w.heap.size w w' := by
  have hb0 : ({ data := #[] } : ByteArray) = bs [] := rfl
  have hp : ({ data := #[43] } : ByteArray) = bs [43] := rfl
  have hl0 := bs_list
  have happ := bs_app
  have hsz := bs_size
  obtain ⟨t, hv⟩ : ∃ t, tvB a b c d n = t := ⟨_, rfl⟩
  have HV := Lib.hid hv
  have HT := Lib.hid ht
  clear hv ht
  cases t with
  | false =>
    have HF := Lib.hid (show tfL a b c d n = [] by unfold tfL; rw [if_neg (by rw [HV.out]; decide)])
    go_enter Tryd.func56, Tryd.ntmps56
    go_wp2_with fail
    refine (TermValid_is _ _ _ _ _ false _ HV.out).mono ?_
    rintro e w1 ⟨rfl, rfl⟩
    go_wp2
    go_ret
    exact ⟨by rw [HF.out]; rfl, by go_grown⟩
  | true =>
    have HB := Lib.hid (ft_bd HV.out)
    have HL := Lib.hid (ft_len HB.out)
    go_enter Tryd.func56, Tryd.ntmps56
    go_wp2_with fail
    refine (TermValid_is _ _ _ _ _ true _ HV.out).mono ?_
    rintro e w1 ⟨rfl, rfl⟩
    go_wp2_with fail
    refine (multiples_c a b c d n _).mono ?_
    rintro e w1 ⟨x, rfl, hC, hb1⟩
    have HB1 := Lib.hid (show Below w.heap.size w w1 from (show Below w.heap.size w _ by go_grown).trans (hb1.mono (by go_size)))
    have HT1 := Lib.hid (tab_on HT.out HB1.out)
    clear hb1 HT
    go_wp2
    go_loopw [3, 12] (fun s i wr => ∃ k : Nat, s = .string (bs (ftL [a, b, c, d, n] k)) ∧ i = .int .i64 k ∧ k ≤ 5 ∧ C5 wr x a b c d n ∧ Below w.heap.size w wr ∧ Tab wr) (fun _ i _ => 5 - (intOf i).toNat)
    case atStart => exact ⟨0, rfl, rfl, by omega, hC, HB1.out, HT1.out⟩
    case round =>
      obtain ⟨k, rfl, rfl, hk, hC', hB, hT⟩ := hrel
      have HC := Lib.hid hC'
      have HB' := Lib.hid hB
      have HT' := Lib.hid hT
      clear hC' hB hT
      by_cases hlt : k < 5
      · have hk' : (k : Int) < 5 := by omega
        have hcell := c5_cell HC.out hlt
        obtain ⟨y, hy⟩ : ∃ y, [a, b, c, d, n].getD k 0 = y := ⟨_, rfl⟩
        have HY := Lib.hid hy
        rw [hy] at hcell
        obtain ⟨T, hT⟩ : ∃ T, ftL [a, b, c, d, n] k = T := ⟨_, rfl⟩
        have HTk := Lib.hid hT
        rw [hT]
        clear hy hT
        have HYB := Lib.hid (show -10000 ≤ y ∧ y ≤ 10000 by rw [← HY.out]; exact HB.out k)
        have hTl : T.length ≤ 115 := by have := HL.out k; rw [HTk.out] at this; omega
        rcases Int.lt_trichotomy y 0 with hneg | rfl | hpos
        · have hq0 : (y == 0) = false := by rw [beq_eq_false_iff_ne]; omega
          have hqp : decide (0 < y) = false := by simp; omega
          have HM := Lib.hid fun W => fun (h : Tab W) => multipleText_any y k W h (by omega) (by have := HYB.out.1; omega) (by have := HYB.out.2; omega)
          obtain ⟨M, hM⟩ : ∃ M, mulL y k = M := ⟨_, rfl⟩
          have hMl : M.length ≤ 22 := by rw [← hM]; exact mul_len y k (by have := HYB.out.1; omega) (by have := HYB.out.2; omega)
          have HN := Lib.hid (show ftL [a, b, c, d, n] (k + 1) = T ++ M by rw [ft_minus (by rw [HY.out]; exact hneg), HTk.out, HY.out, hM])
          clear hneg
          rw [hM] at HM
          clear hM
          go_wp2_with fail
          refine (HM.out wr HT'.out).mono ?_
          rintro e w3 ⟨rfl, hb⟩
          go_wp2
          go_roundw
          case rel => exact ⟨k + 1, by rw [HN.out], by go_num, by omega, c5_keep HC.out hb, below_on HB'.out hb, tab_on HT'.out hb⟩
          case measure => simp [intOf] <;> omega
        · have HN := Lib.hid (show ftL [a, b, c, d, n] (k + 1) = T by rw [ft_zero HY.out, HTk.out])
          go_wp2
          go_roundw
          case rel => exact ⟨k + 1, by rw [HN.out], by go_num, by omega, HC.out, HB'.out, HT'.out⟩
          case measure => simp [intOf] <;> omega
        · have hq0 : (y == 0) = false := by rw [beq_eq_false_iff_ne]; omega
          have hqp : decide (0 < y) = true := by simp; omega
          cases T with
          | nil =>
            skip
            have HM := Lib.hid fun W => fun (h : Tab W) => multipleText_any y k W h (by omega) (by have := HYB.out.1; omega) (by have := HYB.out.2; omega)
            obtain ⟨M, hM⟩ : ∃ M, mulL y k = M := ⟨_, rfl⟩
            have hMl : M.length ≤ 22 := by rw [← hM]; exact mul_len y k (by have := HYB.out.1; omega) (by have := HYB.out.2; omega)
            have HN := Lib.hid (show ftL [a, b, c, d, n] (k + 1) = M by rw [ft_first (by rw [HY.out]; omega) HTk.out, HTk.out, HY.out, hM]; rfl)
            clear hpos
            rw [hM] at HM
            clear hM
            go_wp2_with fail
            refine (HM.out wr HT'.out).mono ?_
            rintro e w3 ⟨rfl, hb⟩
            go_wp2
            go_roundw
            case rel => exact ⟨k + 1, by rw [HN.out], by go_num, by omega, c5_keep HC.out hb, below_on HB'.out hb, tab_on HT'.out hb⟩
            case measure => simp [intOf] <;> omega
          | cons t T' =>
            obtain ⟨U, hU⟩ : ∃ U, t :: T' = U := ⟨_, rfl⟩
            have hUn : U.isEmpty = false := by rw [← hU]; rfl
            rw [hU] at HTk hTl ⊢
            clear hU
            have HM := Lib.hid fun W => fun (h : Tab W) => multipleText_any y k W h (by omega) (by have := HYB.out.1; omega) (by have := HYB.out.2; omega)
            obtain ⟨M, hM⟩ : ∃ M, mulL y k = M := ⟨_, rfl⟩
            have hMl : M.length ≤ 22 := by rw [← hM]; exact mul_len y k (by have := HYB.out.1; omega) (by have := HYB.out.2; omega)
            have HN := Lib.hid (show ftL [a, b, c, d, n] (k + 1) = U ++ 43 :: M by rw [ft_plus (by rw [HY.out]; exact hpos) (by rw [HTk.out]; intro h; rw [h] at hUn; exact Bool.noConfusion hUn), HTk.out, HY.out, hM, List.append_assoc]; rfl)
            clear hpos
            rw [hM] at HM
            clear hM
            go_wp2_with fail
            refine (HM.out wr HT'.out).mono ?_
            rintro e w3 ⟨rfl, hb⟩
            go_wp2
            go_roundw
            case rel => exact ⟨k + 1, by rw [HN.out], by go_num, by omega, c5_keep HC.out hb, below_on HB'.out hb, tab_on HT'.out hb⟩
            case measure => simp [intOf] <;> omega
      · have hk' : ¬ (k : Int) < 5 := by omega
        obtain rfl : k = 5 := by omega
        obtain ⟨T, hT⟩ : ∃ T, ftL [a, b, c, d, n] 5 = T := ⟨_, rfl⟩
        have HTk := Lib.hid hT
        rw [hT]
        clear hT
        cases T with
        | nil =>
          have HF := Lib.hid (show tfL a b c d n = [48] by unfold tfL; rw [if_pos HV.out, if_pos HTk.out])
          go_wp2
          go_ret
          exact ⟨by rw [HF.out]; rfl, HB'.out⟩
        | cons t T' =>
          obtain ⟨U, hU⟩ : ∃ U, t :: T' = U := ⟨_, rfl⟩
          have hUn : U.isEmpty = false := by rw [← hU]; rfl
          rw [hU] at HTk ⊢
          have HF := Lib.hid (show tfL a b c d n = U by unfold tfL; rw [if_pos HV.out, if_neg (by rw [HTk.out, ← hU]; exact List.cons_ne_nil _ _), HTk.out])
          clear hU
          go_wp2
          go_ret
          exact ⟨by rw [HF.out]; rfl, HB'.out⟩

end Go.Proofs.YtjgmoledhkikcaaDoor
