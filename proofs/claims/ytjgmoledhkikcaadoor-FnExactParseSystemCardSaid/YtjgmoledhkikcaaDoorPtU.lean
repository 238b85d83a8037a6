/- Reading a term's text, the model: l1Part and l1Parts. -/
import Derived.Test.YtjgmoledhkikcaaDoorPtT
import Derived.Test.YtjgmoledhkikcaaDoorOwT
namespace Go.Proofs.YtjgmoledhkikcaaDoor
open Go.RowKit

def P1V (r : Nat × Int) : Value := .tuple #[.int .i64 (r.1 : Int), .int .i64 r.2]
theorem p1_ret {a b : Nat × Int} (h : a = b) : Ending.returned (P1V b) = .returned (P1V a) := by rw [h]
theorem p1v_ret {v y : Int} {a : Nat × Int} (h : a = (v.toNat, y)) (hv : 0 ≤ v) : Ending.returned (.tuple #[.int .i64 v, .int .i64 y]) = .returned (P1V a) := by
  subst h
  unfold P1V
  rw [show ((v.toNat, y) : Nat × Int).1 = v.toNat from rfl, show ((v.toNat : Nat) : Int) = v by omega]
theorem isL_var (x : UInt8) : varB ((x.toNat : Int) - 97) = isL x := by
  unfold varB isL
  by_cases h : 97 ≤ x.toNat
  · by_cases h2 : x.toNat ≤ 100
    · rw [decide_eq_true h, decide_eq_true h2, decide_eq_true (by omega)]; rfl
    · rw [decide_eq_true h, decide_eq_false h2, decide_eq_false (by omega)]; rfl
  · rw [decide_eq_false h, decide_eq_false (by omega)]; rfl

-- l1Part
set_option maxRecDepth 10000 in
set_option maxHeartbeats 4000000 in
theorem l1Part_any (s0 : List UInt8) (w : World) (hl : s0.length ≤ 1048576) :
    Calls Tryd.prog 67 #[.string (bs s0)] w fun e w' => e = .returned (P1V (p1 s0)) ∧ w = w' := by
  have hsz := bs_size
  have hl0 := bs_list
  have hb0 : ({ data := #[] } : ByteArray) = bs [] := rfl
  have hb45 : ({ data := #[45] } : ByteArray) = bs [45] := rfl
  cases s0 with
  | nil =>
    have HV := Lib.hid (show p1 [] = (4, 0) from rfl)
    have hlen : (([] : List UInt8).length : Int) = 0 := rfl
    go_enter Tryd.func67, Tryd.ntmps67
    go_wp2
    go_returns
    exact ⟨p1_ret HV.out, rfl⟩
  | cons c r =>
    obtain ⟨s0, hle⟩ : ∃ l, c :: r = l := ⟨_, rfl⟩
    have h0 : s0[0]? = some c := by rw [← hle]; rfl
    have hixc : ∀ W, (Instr.index 9 (.string (bs s0)) (.int .i64 0)).run Tryd.prog W = .ok (.int .u8 (c.toNat : Int)) W := fun W => run_at (P := Tryd.prog) Tryd.underlying9 h0 .i64 W
    have hS : p1S s0 = if 1 < s0.length ∧ c = 43 then r else s0 := by
      unfold p1S
      rw [← hle]
      by_cases h : 1 < (c :: r).length ∧ c = 43
      · rw [if_pos ⟨h.1, by rw [h.2]; rfl⟩, if_pos h]; rfl
      · rw [if_neg (fun g => h ⟨g.1, by simpa using g.2⟩), if_neg h]
    have hne0 : s0 ≠ [] := by rw [← hle]; simp
    have hrl : r.length ≤ 1048576 := by simp at hl; omega
    have hrn : 1 < s0.length → r ≠ [] := by rw [← hle]; intro h e; rw [e] at h; simp at h
    obtain ⟨zc, hzc⟩ : ∃ z : Int, (c.toNat : Int) = z := ⟨_, rfl⟩
    have h43 : (zc == 43) = (c == 43) := by rw [← hzc]; exact u8_eq c 43
    rw [hzc] at hixc
    obtain ⟨m, hm⟩ : ∃ m : Int, (s0.length : Int) = m := ⟨_, rfl⟩
    have hfr : ∀ W, (Instr.slice 9 (.string (bs s0)) (some (.int .i64 1)) none none).run Tryd.prog W = .ok (.string (bs r)) W := fun W => rn_from (P := Tryd.prog) Tryd.underlying9 (l := s0) (k := 1) (x := r) (by rw [← hle]; simp) (by rw [← hle]; rfl) .i64 W
    rw [hle] at hl ⊢
    have HM := Lib.hid hm
    clear hle hzc h0
    by_cases h1 : 1 < m ∧ c = 43
    · have HP := Lib.hid (show p1 s0 = p1L r from by unfold p1; rw [hS, if_pos ⟨by have := HM.out; omega, h1.2⟩])
      have HNE := Lib.hid (hrn (by have := HM.out; omega))
      have hm1 : 1 < m := h1.1
      have hc43 : (zc == 43) = true := by rw [h43, h1.2]; rfl
      clear h1 h43 hS hne0 hrn
      go_enter Tryd.func67, Tryd.ntmps67
      go_upto_region 3 with fail
      clear hm hfr hixc hm1 hc43
      have hne : r ≠ [] := HNE.out
      obtain ⟨x, B, hD⟩ : ∃ x B, r = B ++ [x] := by
        rcases List.eq_nil_or_concat r with h | ⟨B, x, h⟩
        · exact absurd h hne
        · exact ⟨x, B, by rw [h, List.concat_eq_append]⟩
      have hDe : r.isEmpty = false := by rw [hD]; simp
      obtain ⟨L, hL⟩ : ∃ L : Int, (r.length : Int) = L := ⟨_, rfl⟩
      have hBl : (B.length : Int) = L - 1 := by rw [← hL, hD]; simp
      have hL0 : 1 ≤ L := by omega
      have hL1 : L ≤ 1048577 := by rw [← hL]; omega
      have hix : ∀ W, (Instr.index 9 (.string (bs r)) (.int .i64 (L - 1))).run Tryd.prog W = .ok (.int .u8 (x.toNat : Int)) W := fun W => by
        rw [← hBl]
        exact run_at (P := Tryd.prog) Tryd.underlying9 (l := r) (i := B.length) (x := x) (by rw [hD]; simp) .i64 W
      have hup : ∀ W, (Instr.slice 9 (.string (bs r)) none (some (.int .i64 (L - 1))) none).run Tryd.prog W = .ok (.string (bs B)) W := fun W => by
        rw [← hBl]
        exact rn_upto (P := Tryd.prog) Tryd.underlying9 (l := r) (k := B.length) (x := B) (by rw [hD]; simp) (by rw [hD, List.take_left]) .i64 W
      obtain ⟨z, hz⟩ : ∃ z : Int, (x.toNat : Int) = z := ⟨_, rfl⟩
      have hz0 : 0 ≤ z := by omega
      have hz1 : z ≤ 255 := by have := x.toNat_lt; omega
      have HVR := Lib.hid (fun W => l1Var_is (z - 97) (isL x) W (by rw [← hz]; exact isL_var x))
      have HNU := Lib.hid (fun W => l17Num_any r W (by omega))
      have hBb : B.length ≤ 1048576 := by omega
      have HNB := Lib.hid (fun W => l17Num_any B W hBb)
      have HPL := Lib.hid (show p1 s0 = if isL x = true then (x.toNat - 97, (if B = [] then 1 else if B = [45] then -1 else (num17 B).1)) else (4, (num17 r).1) from by
        rw [HP.out]
        cases hq : isL x with
        | true => rw [hD, p1_last _ _ hq, if_pos rfl]
        | false =>
          unfold p1L
          rw [hD, List.getLast?_concat]
          simp only [hq]
          rfl)
      have HXZ := Lib.hid hz
      rw [hz] at hix
      clear hD hz hBl hne
      cases hq : isL x with
      | false =>
        rw [hq] at HVR
        have HV := Lib.hid (show p1 s0 = (4, (num17 r).1) from by rw [HPL.out, hq]; rfl)
        obtain ⟨⟨y, ok⟩, hy⟩ : ∃ y, num17 r = y := ⟨_, rfl⟩
        rw [hy] at HNU HV
        simp only [NmV] at HNU
        clear hq hy
        go_wp2_with fail
        refine (HVR.out _).mono ?_
        rintro e w1 ⟨rfl, rfl⟩
        go_wp2_with fail
        refine (HNU.out _).mono ?_
        rintro e w1 ⟨rfl, rfl⟩
        go_wp2
        go_returns
        exact ⟨p1_ret HV.out, rfl⟩
      | true =>
        rw [hq] at HVR
        have hzL : 97 ≤ z := by unfold isL at hq; rw [Bool.and_eq_true, decide_eq_true_eq, decide_eq_true_eq] at hq; have := HXZ.out; omega
        have HTN := Lib.hid (show (z - 97).toNat = x.toNat - 97 from by have := HXZ.out; omega)
        by_cases hB1 : B = []
        · have HV := Lib.hid (show p1 s0 = ((z - 97).toNat, 1) from by rw [HPL.out, hq, if_pos rfl, if_pos hB1, HTN.out])
          subst hB1
          clear hq
          go_wp2_with fail
          refine (HVR.out _).mono ?_
          rintro e w1 ⟨rfl, rfl⟩
          go_wp2
          go_returns
          exact ⟨p1v_ret HV.out (by omega), rfl⟩
        · have hBe : B.isEmpty = false := by
            cases B with
            | nil => exact absurd rfl hB1
            | cons _ _ => rfl
          by_cases hB2 : B = [45]
          · have HV := Lib.hid (show p1 s0 = ((z - 97).toNat, -1) from by rw [HPL.out, hq, if_pos rfl, if_neg hB1, if_pos hB2, HTN.out])
            subst hB2
            clear hq hB1
            go_wp2_with fail
            refine (HVR.out _).mono ?_
            rintro e w1 ⟨rfl, rfl⟩
            go_wp2
            go_returns
            exact ⟨p1v_ret HV.out (by omega), rfl⟩
          · have HV := Lib.hid (show p1 s0 = ((z - 97).toNat, (num17 B).1) from by rw [HPL.out, hq, if_pos rfl, if_neg hB1, if_neg hB2, HTN.out])
            have hB45 : (B == [45]) = false := beq_false_of_ne hB2
            obtain ⟨⟨y, ok⟩, hy⟩ : ∃ y, num17 B = y := ⟨_, rfl⟩
            rw [hy] at HNB HV
            simp only [NmV] at HNB
            clear hq hy hB1 hB2
            go_wp2_with fail
            refine (HVR.out _).mono ?_
            rintro e w1 ⟨rfl, rfl⟩
            go_wp2_with fail
            refine (HNB.out _).mono ?_
            rintro e w1 ⟨rfl, rfl⟩
            go_wp2
            go_returns
            exact ⟨p1v_ret HV.out (by omega), rfl⟩
    · have HP := Lib.hid (show p1 s0 = p1L s0 from by unfold p1; rw [hS, if_neg (fun g => h1 ⟨by have := HM.out; omega, g.2⟩)])
      have HNE := Lib.hid hne0
      have hcs : (decide (1 < m) = false ∧ True) ∨ (decide (1 < m) = true ∧ (zc == 43) = false) := by
        by_cases g : 1 < m
        · refine .inr ⟨decide_eq_true g, ?_⟩
          rw [h43]
          exact beq_false_of_ne (fun e => h1 ⟨g, e⟩)
        · exact .inl ⟨decide_eq_false g, trivial⟩
      clear h1 h43 hS hne0 hrn hfr
      rcases hcs with ⟨g1, g2⟩ | ⟨g1, g2⟩
      all_goals
        go_enter Tryd.func67, Tryd.ntmps67
        go_upto_region 3 with fail
        clear hm hixc g1 g2
        have hne : s0 ≠ [] := HNE.out
        obtain ⟨x, B, hD⟩ : ∃ x B, s0 = B ++ [x] := by
          rcases List.eq_nil_or_concat s0 with h | ⟨B, x, h⟩
          · exact absurd h hne
          · exact ⟨x, B, by rw [h, List.concat_eq_append]⟩
        have hDe : s0.isEmpty = false := by rw [hD]; simp
        obtain ⟨L, hL⟩ : ∃ L : Int, (s0.length : Int) = L := ⟨_, rfl⟩
        have hBl : (B.length : Int) = L - 1 := by rw [← hL, hD]; simp
        have hL0 : 1 ≤ L := by omega
        have hL1 : L ≤ 1048577 := by rw [← hL]; omega
        have hix : ∀ W, (Instr.index 9 (.string (bs s0)) (.int .i64 (L - 1))).run Tryd.prog W = .ok (.int .u8 (x.toNat : Int)) W := fun W => by
          rw [← hBl]
          exact run_at (P := Tryd.prog) Tryd.underlying9 (l := s0) (i := B.length) (x := x) (by rw [hD]; simp) .i64 W
        have hup : ∀ W, (Instr.slice 9 (.string (bs s0)) none (some (.int .i64 (L - 1))) none).run Tryd.prog W = .ok (.string (bs B)) W := fun W => by
          rw [← hBl]
          exact rn_upto (P := Tryd.prog) Tryd.underlying9 (l := s0) (k := B.length) (x := B) (by rw [hD]; simp) (by rw [hD, List.take_left]) .i64 W
        obtain ⟨z, hz⟩ : ∃ z : Int, (x.toNat : Int) = z := ⟨_, rfl⟩
        have hz0 : 0 ≤ z := by omega
        have hz1 : z ≤ 255 := by have := x.toNat_lt; omega
        have HVR := Lib.hid (fun W => l1Var_is (z - 97) (isL x) W (by rw [← hz]; exact isL_var x))
        have HNU := Lib.hid (fun W => l17Num_any s0 W (by omega))
        have hBb : B.length ≤ 1048576 := by omega
        have HNB := Lib.hid (fun W => l17Num_any B W hBb)
        have HPL := Lib.hid (show p1 s0 = if isL x = true then (x.toNat - 97, (if B = [] then 1 else if B = [45] then -1 else (num17 B).1)) else (4, (num17 s0).1) from by
          rw [HP.out]
          cases hq : isL x with
          | true => rw [hD, p1_last _ _ hq, if_pos rfl]
          | false =>
            unfold p1L
            rw [hD, List.getLast?_concat]
            simp only [hq]
            rfl)
        have HXZ := Lib.hid hz
        rw [hz] at hix
        clear hD hz hBl hne
        cases hq : isL x with
        | false =>
          rw [hq] at HVR
          have HV := Lib.hid (show p1 s0 = (4, (num17 s0).1) from by rw [HPL.out, hq]; rfl)
          obtain ⟨⟨y, ok⟩, hy⟩ : ∃ y, num17 s0 = y := ⟨_, rfl⟩
          rw [hy] at HNU HV
          simp only [NmV] at HNU
          clear hq hy
          go_wp2_with fail
          refine (HVR.out _).mono ?_
          rintro e w1 ⟨rfl, rfl⟩
          go_wp2_with fail
          refine (HNU.out _).mono ?_
          rintro e w1 ⟨rfl, rfl⟩
          go_wp2
          go_returns
          exact ⟨p1_ret HV.out, rfl⟩
        | true =>
          rw [hq] at HVR
          have hzL : 97 ≤ z := by unfold isL at hq; rw [Bool.and_eq_true, decide_eq_true_eq, decide_eq_true_eq] at hq; have := HXZ.out; omega
          have HTN := Lib.hid (show (z - 97).toNat = x.toNat - 97 from by have := HXZ.out; omega)
          by_cases hB1 : B = []
          · have HV := Lib.hid (show p1 s0 = ((z - 97).toNat, 1) from by rw [HPL.out, hq, if_pos rfl, if_pos hB1, HTN.out])
            subst hB1
            clear hq
            go_wp2_with fail
            refine (HVR.out _).mono ?_
            rintro e w1 ⟨rfl, rfl⟩
            go_wp2
            go_returns
            exact ⟨p1v_ret HV.out (by omega), rfl⟩
          · have hBe : B.isEmpty = false := by
              cases B with
              | nil => exact absurd rfl hB1
              | cons _ _ => rfl
            by_cases hB2 : B = [45]
            · have HV := Lib.hid (show p1 s0 = ((z - 97).toNat, -1) from by rw [HPL.out, hq, if_pos rfl, if_neg hB1, if_pos hB2, HTN.out])
              subst hB2
              clear hq hB1
              go_wp2_with fail
              refine (HVR.out _).mono ?_
              rintro e w1 ⟨rfl, rfl⟩
              go_wp2
              go_returns
              exact ⟨p1v_ret HV.out (by omega), rfl⟩
            · have HV := Lib.hid (show p1 s0 = ((z - 97).toNat, (num17 B).1) from by rw [HPL.out, hq, if_pos rfl, if_neg hB1, if_neg hB2, HTN.out])
              have hB45 : (B == [45]) = false := beq_false_of_ne hB2
              obtain ⟨⟨y, ok⟩, hy⟩ : ∃ y, num17 B = y := ⟨_, rfl⟩
              rw [hy] at HNB HV
              simp only [NmV] at HNB
              clear hq hy hB1 hB2
              go_wp2_with fail
              refine (HVR.out _).mono ?_
              rintro e w1 ⟨rfl, rfl⟩
              go_wp2_with fail
              refine (HNB.out _).mono ?_
              rintro e w1 ⟨rfl, rfl⟩
              go_wp2
              go_returns
              exact ⟨p1v_ret HV.out (by omega), rfl⟩
-- end l1Part
end Go.Proofs.YtjgmoledhkikcaaDoor
