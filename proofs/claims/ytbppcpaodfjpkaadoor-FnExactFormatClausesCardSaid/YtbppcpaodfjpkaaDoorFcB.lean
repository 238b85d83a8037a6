/- FormatClauses of the model. -/
import Derived.Test.YtbppcpaodfjpkaaDoorFcA
namespace Go.Proofs.YtbppcpaodfjpkaaDoor
open Go.RowKit

def FcS (LL : List (List AtD)) (n : Nat) (w : World) (v i : Value) (wr : World) : Prop :=
  ∃ k : Nat, i = .int .i64 k ∧ k ≤ n ∧ v = .string (bs (jcT (LL.take k))) ∧ Below w.heap.size w wr
def FcI (L : List AtD) (Q : List UInt8) (m : Nat) (w : World) (v i : Value) (wr : World) : Prop :=
  ∃ k : Nat, i = .int .i64 k ∧ k ≤ m ∧ v = .string (bs (Q ++ jnT (L.take k))) ∧ Below w.heap.size w wr

set_option maxHeartbeats 4000000 in
theorem specFormatClauses_any (u : Value) (LL : List (List AtD)) (w : World) (h : RdAA w u LL) (hz : ssL LL ≤ 1048576) :
    Calls Tryd.prog 12 #[u] w fun e w' => e = .returned (.string (bs (fcT LL))) ∧ Below w.heap.size w w' := by
  have HS := Lib.hid (l4ClausesValid_is u LL w h hz)
  have hb0 : ({ data := #[] } : ByteArray) = bs [] := rfl
  have h32 : ({ data := #[32] } : ByteArray) = bs [32] := rfl
  have hsep : ({ data := #[32, 47, 32] } : ByteArray) = bs [32, 47, 32] := rfl
  have htr : ({ data := #[116, 114, 117, 101] } : ByteArray) = bs [116, 114, 117, 101] := rfl
  have hfa : ({ data := #[102, 97, 108, 115, 101] } : ByteArray) = bs [102, 97, 108, 115, 101] := rfl
  have hl0 := bs_list
  have happ := bs_app
  have hsz := bs_size
  obtain ⟨sp, cap, rfl, hc⟩ := h
  obtain ⟨n, hn⟩ : ∃ n, LL.length = n := ⟨_, rfl⟩
  have HN := Lib.hid hn
  have HC := Lib.hid hc
  have hL : n ≤ 1048576 := by rw [← hn]; unfold ssL at hz; omega
  rw [hn] at HS ⊢
  clear hn hc hz
  cases hs : ccB LL with
  | false =>
    have HF := Lib.hid (fc_off hs)
    rw [hs] at HS
    clear hs
    go_enter Tryd.func12, Tryd.ntmps12
    go_wp2_with fail
    refine HS.out.mono ?_
    rintro e w1 ⟨rfl, hb1⟩
    go_wp2
    go_ret
    exact ⟨rt_strC HF.out.symm, hb1⟩
  | true =>
    have HP := Lib.hid (cc_parts hs)
    have HSY := Lib.hid hs
    rw [hs] at HS
    clear hs
    go_enter Tryd.func12, Tryd.ntmps12
    go_wp2_with fail
    refine HS.out.mono ?_
    rintro e w1 ⟨rfl, hb1⟩
    have HST := Lib.hid (show FcS LL n w (.string (bs [])) (.int .i64 0) w1 from ⟨0, rfl, Nat.zero_le _, rfl, hb1⟩)
    clear hb1
    go_wp2_with fail
    go_loopw [3, 4] (fun v i wr => FcS LL n w v i wr) (fun _ i _ => n - (intOf i).toNat)
    case atStart => exact HST.out
    case round =>
      obtain ⟨i, rfl, hk, rfl, hbw⟩ := hrel
      rename World => W3
      clear HST
      have HB := Lib.hid hbw
      by_cases hlt : i < n
      · have hk' : (i : Int) < (n : Int) := by omega
        have hk0 : (0 : Int) ≤ i := by omega
        obtain ⟨L, hy⟩ : ∃ L, LL[i]? = some L := ⟨_, List.getElem?_eq_getElem (by rw [HN.out]; exact hlt)⟩
        obtain ⟨b, rfl, hbl, hcell⟩ := HC.out.resolve_left (by rw [HN.out]; omega)
        obtain ⟨s, e1, e2⟩ := hcell i L hy
        have hbl3 : b < W3.heap.size := Nat.lt_of_lt_of_le hbl hbw.size
        have c0 : W3.cell? ⟨b, i, none⟩ = some s := (hbw.cell (p := ⟨b, i, none⟩) hbl).trans e1
        have e3 := (rdAb_on e2 hbw).rd
        obtain ⟨sp', c', rfl, hcl⟩ := e3
        have HCL := Lib.hid hcl
        obtain ⟨m, hm⟩ : ∃ m, L.length = m := ⟨_, rfl⟩
        have HM := Lib.hid hm
        have hPL := HP.out.2 L (List.mem_of_getElem? hy)
        have hm6 : m ≤ 600 := by have := hPL.1; omega
        have hPle : (jcT (LL.take i)).length ≤ 6000000 := by
          have h1 := jc_len (LL := LL.take i) (fun L hL => (HP.out.2 L (List.mem_of_mem_take hL)).1)
          rw [List.length_take] at h1
          have := HP.out.1
          rw [HN.out] at this
          omega
        obtain ⟨P, hP⟩ : ∃ P, jcT (LL.take i) = P := ⟨_, rfl⟩
        have HX1 := Lib.hid (fun hi : 0 < i => jc_snoc hy hi)
        have HX0 := Lib.hid (fun hi : LL[0]? = some L => jc_one hi)
        have HY := Lib.hid hy
        have hPP := Lib.hid hP
        rw [hP] at hPle HX1 ⊢
        rw [hm] at c0
        clear hcell e1 e2 hy hbw hcl hm hPL hP hbl
        by_cases hi0 : i = 0
        · have hPn : P = [] := by rw [← hPP.out, hi0]; rfl
          have HI0 := Lib.hid hi0
          subst hPn
          have hi1 : ¬ (0 : Int) < (i : Int) := by omega
          have hi2 : decide ((i : Int) > 0) = false := by simpa using hi0
          clear hi0
          by_cases hLn : L = []
          · have hm0 : m = 0 := by rw [← HM.out, hLn]; rfl
            have hq : ((m : Int) == 0) = true := by rw [hm0]; rfl
            go_wp2_with fail
            go_loopw [3, 5] (fun v i wr => FcI L (([116, 114, 117, 101] : List UInt8)) m W3 v i wr) (fun _ i _ => m - (intOf i).toNat)
            case atStart => exact ⟨0, rfl, Nat.zero_le _, by simp [jnT, Lib.join_nil], Below.refl _ _⟩
            case round =>
              obtain ⟨k, rfl, hkm, rfl, hbi⟩ := hrel
              rename World => W4
              have HBI := Lib.hid hbi
              have c1 : W4.cell? ⟨b, i, none⟩ = _ := (hbi.cell (p := ⟨b, i, none⟩) hbl3).trans c0
              by_cases hkl : k < m
              · exact absurd hkl (by omega)
              · have hk2 : ¬ (k : Int) < (m : Int) := by omega
                have hT : ([116, 114, 117, 101] : List UInt8) ++ jnT (L.take k) = jcT (LL.take (i + 1)) := by
                  rw [List.take_of_length_le (by rw [HM.out]; omega)]
                  have e := HX0.out (by have h0 := HY.out; rwa [HI0.out] at h0)
                  rw [HI0.out]
                  have hj : jnT L = [] := by rw [hLn]; rfl
                  rw [hj, List.append_nil, e, show clT L = wdT 0 from by unfold clT; rw [if_pos hLn]]; simp [wdT]
                rw [hT]
                obtain ⟨Z, hZ⟩ : ∃ Z, jcT (LL.take (i + 1)) = Z := ⟨_, rfl⟩
                have HZ := Lib.hid hZ
                rw [hZ]
                have HB4 := Lib.hid (below_on HB.out hbi)
                clear hT hZ hbi
                go_wp2
                go_roundw
                case rel => exact ⟨i + 1, by go_num, by omega, by rw [HZ.out], HB4.out⟩
                case measure => simp [intOf]; omega
          · have hm0 : ¬ m = 0 := fun e => hLn (List.length_eq_zero_iff.1 (HM.out.trans e))
            have hq : ((m : Int) == 0) = false := by rw [beq_eq_false_iff_ne]; omega
            go_wp2_with fail
            go_loopw [3, 5] (fun v i wr => FcI L (([] : List UInt8)) m W3 v i wr) (fun _ i _ => m - (intOf i).toNat)
            case atStart => exact ⟨0, rfl, Nat.zero_le _, by simp [jnT, Lib.join_nil], Below.refl _ _⟩
            case round =>
              obtain ⟨k, rfl, hkm, rfl, hbi⟩ := hrel
              rename World => W4
              have HBI := Lib.hid hbi
              have c1 : W4.cell? ⟨b, i, none⟩ = _ := (hbi.cell (p := ⟨b, i, none⟩) hbl3).trans c0
              by_cases hkl : k < m
              · have hk2 : (k : Int) < (m : Int) := by omega
                have hkz : (0 : Int) ≤ k := by omega
                obtain ⟨y, hy⟩ : ∃ y, L[k]? = some y := ⟨_, List.getElem?_eq_getElem (by rw [HM.out]; exact hkl)⟩
                obtain ⟨b', rfl, hbl', hcell⟩ := HCL.out.resolve_left (by rw [HM.out]; omega)
                have f : ∀ o, W4.cell? ⟨b', o, none⟩ = W3.cell? ⟨b', o, none⟩ := fun o => hbi.cell (p := ⟨b', o, none⟩) hbl'
                have r1 : ARow W4 b' (k * 7) y := by have := hcell k y hy; simpa only [ARow, f] using this
                obtain ⟨d0, d1, d2, d3, d4, d5, d6⟩ := r1
                by_cases hk0' : k = 0
                · have HF := Lib.hid (fun W => specFormatAtom_any y.k y.m y.a y.b y.c y.d y.n W)
                  obtain ⟨T, hT⟩ : ∃ T, taX y = T := ⟨_, rfl⟩
                  rw [show taL y.k y.m y.a y.b y.c y.d y.n = T from hT] at HF
                  have hTl : T.length ≤ 140 := by rw [← hT]; exact ta_len y
                  subst hk0'
                  have hJ0 : jnT (L.take 0) = [] := rfl
                  rw [hJ0, List.append_nil]
                  have HX := Lib.hid (show jnT (L.take (0 + 1)) = T by rw [← hT]; exact jnT_one hy)
                  clear hcell f hy hbi hT
                  go_wp2_with fail
                  refine (HF.out _).mono ?_
                  rintro e w5 ⟨rfl, hb5⟩
                  have HB5 := Lib.hid (below_on HBI.out hb5)
                  clear d0 d1 d2 d3 d4 d5 d6 hb5
                  go_wp2
                  go_roundw
                  case rel => exact ⟨0 + 1, by go_num, by omega, by rw [HX.out]; simp, HB5.out⟩
                  case measure => simp [intOf]; omega
                · have HF := Lib.hid (fun W => specFormatAtom_any y.k y.m y.a y.b y.c y.d y.n W)
                  obtain ⟨T, hT⟩ : ∃ T, taX y = T := ⟨_, rfl⟩
                  rw [show taL y.k y.m y.a y.b y.c y.d y.n = T from hT] at HF
                  have hTl : T.length ≤ 140 := by rw [← hT]; exact ta_len y
                  obtain ⟨J, hJ⟩ : ∃ J, jnT (L.take k) = J := ⟨_, rfl⟩
                  have hJl : J.length ≤ 90000 := by have := jnT_len (L.take k); rw [hJ, List.length_take, HM.out] at this; omega
                  have HX := Lib.hid (show jnT (L.take (k + 1)) = J ++ 32 :: T by rw [jnT_snoc hy (by omega), hJ, hT])
                  rw [hJ]
                  have hk1 : (0 : Int) < (k : Int) := by omega
                  clear hJ
                  clear hcell f hy hbi hT
                  go_wp2_with fail
                  refine (HF.out _).mono ?_
                  rintro e w5 ⟨rfl, hb5⟩
                  have HB5 := Lib.hid (below_on HBI.out hb5)
                  clear d0 d1 d2 d3 d4 d5 d6 hb5
                  go_wp2
                  go_roundw
                  case rel => exact ⟨k + 1, by go_num, by omega, by rw [HX.out]; simp, HB5.out⟩
                  case measure => simp [intOf]; omega
              · have hk2 : ¬ (k : Int) < (m : Int) := by omega
                have hT : ([] : List UInt8) ++ jnT (L.take k) = jcT (LL.take (i + 1)) := by
                  rw [List.take_of_length_le (by rw [HM.out]; omega)]
                  have e := HX0.out (by have h0 := HY.out; rwa [HI0.out] at h0)
                  rw [HI0.out]
                  rw [e, show clT L = jnT L from by unfold clT; rw [if_neg hLn]]; simp
                rw [hT]
                obtain ⟨Z, hZ⟩ : ∃ Z, jcT (LL.take (i + 1)) = Z := ⟨_, rfl⟩
                have HZ := Lib.hid hZ
                rw [hZ]
                have HB4 := Lib.hid (below_on HB.out hbi)
                clear hT hZ hbi
                go_wp2
                go_roundw
                case rel => exact ⟨i + 1, by go_num, by omega, by rw [HZ.out], HB4.out⟩
                case measure => simp [intOf]; omega
        · have hi1 : (0 : Int) < (i : Int) := by omega
          have hi2 : decide (0 < i) = true := by simp; omega
          by_cases hLn : L = []
          · have hm0 : m = 0 := by rw [← HM.out, hLn]; rfl
            have hq : ((m : Int) == 0) = true := by rw [hm0]; rfl
            go_wp2_with fail
            go_loopw [3, 5] (fun v i wr => FcI L (((P ++ [32, 47, 32]) ++ [116, 114, 117, 101])) m W3 v i wr) (fun _ i _ => m - (intOf i).toNat)
            case atStart => exact ⟨0, rfl, Nat.zero_le _, by simp [jnT, Lib.join_nil], Below.refl _ _⟩
            case round =>
              obtain ⟨k, rfl, hkm, rfl, hbi⟩ := hrel
              rename World => W4
              have HBI := Lib.hid hbi
              have c1 : W4.cell? ⟨b, i, none⟩ = _ := (hbi.cell (p := ⟨b, i, none⟩) hbl3).trans c0
              by_cases hkl : k < m
              · exact absurd hkl (by omega)
              · have hk2 : ¬ (k : Int) < (m : Int) := by omega
                have hT : ((P ++ [32, 47, 32]) ++ [116, 114, 117, 101]) ++ jnT (L.take k) = jcT (LL.take (i + 1)) := by
                  rw [List.take_of_length_le (by rw [HM.out]; omega)]
                  have e := HX1.out (by omega)
                  have hj : jnT L = [] := by rw [hLn]; rfl
                  rw [hj, List.append_nil, e, show clT L = wdT 0 from by unfold clT; rw [if_pos hLn]]; simp [wdT]
                rw [hT]
                obtain ⟨Z, hZ⟩ : ∃ Z, jcT (LL.take (i + 1)) = Z := ⟨_, rfl⟩
                have HZ := Lib.hid hZ
                rw [hZ]
                have HB4 := Lib.hid (below_on HB.out hbi)
                clear hT hZ hbi
                go_wp2
                go_roundw
                case rel => exact ⟨i + 1, by go_num, by omega, by rw [HZ.out], HB4.out⟩
                case measure => simp [intOf]; omega
          · have hm0 : ¬ m = 0 := fun e => hLn (List.length_eq_zero_iff.1 (HM.out.trans e))
            have hq : ((m : Int) == 0) = false := by rw [beq_eq_false_iff_ne]; omega
            go_wp2_with fail
            go_loopw [3, 5] (fun v i wr => FcI L ((P ++ [32, 47, 32])) m W3 v i wr) (fun _ i _ => m - (intOf i).toNat)
            case atStart => exact ⟨0, rfl, Nat.zero_le _, by simp [jnT, Lib.join_nil], Below.refl _ _⟩
            case round =>
              obtain ⟨k, rfl, hkm, rfl, hbi⟩ := hrel
              rename World => W4
              have HBI := Lib.hid hbi
              have c1 : W4.cell? ⟨b, i, none⟩ = _ := (hbi.cell (p := ⟨b, i, none⟩) hbl3).trans c0
              by_cases hkl : k < m
              · have hk2 : (k : Int) < (m : Int) := by omega
                have hkz : (0 : Int) ≤ k := by omega
                obtain ⟨y, hy⟩ : ∃ y, L[k]? = some y := ⟨_, List.getElem?_eq_getElem (by rw [HM.out]; exact hkl)⟩
                obtain ⟨b', rfl, hbl', hcell⟩ := HCL.out.resolve_left (by rw [HM.out]; omega)
                have f : ∀ o, W4.cell? ⟨b', o, none⟩ = W3.cell? ⟨b', o, none⟩ := fun o => hbi.cell (p := ⟨b', o, none⟩) hbl'
                have r1 : ARow W4 b' (k * 7) y := by have := hcell k y hy; simpa only [ARow, f] using this
                obtain ⟨d0, d1, d2, d3, d4, d5, d6⟩ := r1
                by_cases hk0' : k = 0
                · have HF := Lib.hid (fun W => specFormatAtom_any y.k y.m y.a y.b y.c y.d y.n W)
                  obtain ⟨T, hT⟩ : ∃ T, taX y = T := ⟨_, rfl⟩
                  rw [show taL y.k y.m y.a y.b y.c y.d y.n = T from hT] at HF
                  have hTl : T.length ≤ 140 := by rw [← hT]; exact ta_len y
                  subst hk0'
                  have hJ0 : jnT (L.take 0) = [] := rfl
                  rw [hJ0, List.append_nil]
                  have HX := Lib.hid (show jnT (L.take (0 + 1)) = T by rw [← hT]; exact jnT_one hy)
                  clear hcell f hy hbi hT
                  go_wp2_with fail
                  refine (HF.out _).mono ?_
                  rintro e w5 ⟨rfl, hb5⟩
                  have HB5 := Lib.hid (below_on HBI.out hb5)
                  clear d0 d1 d2 d3 d4 d5 d6 hb5
                  go_wp2
                  go_roundw
                  case rel => exact ⟨0 + 1, by go_num, by omega, by rw [HX.out]; simp, HB5.out⟩
                  case measure => simp [intOf]; omega
                · have HF := Lib.hid (fun W => specFormatAtom_any y.k y.m y.a y.b y.c y.d y.n W)
                  obtain ⟨T, hT⟩ : ∃ T, taX y = T := ⟨_, rfl⟩
                  rw [show taL y.k y.m y.a y.b y.c y.d y.n = T from hT] at HF
                  have hTl : T.length ≤ 140 := by rw [← hT]; exact ta_len y
                  obtain ⟨J, hJ⟩ : ∃ J, jnT (L.take k) = J := ⟨_, rfl⟩
                  have hJl : J.length ≤ 90000 := by have := jnT_len (L.take k); rw [hJ, List.length_take, HM.out] at this; omega
                  have HX := Lib.hid (show jnT (L.take (k + 1)) = J ++ 32 :: T by rw [jnT_snoc hy (by omega), hJ, hT])
                  rw [hJ]
                  have hk1 : (0 : Int) < (k : Int) := by omega
                  clear hJ
                  clear hcell f hy hbi hT
                  go_wp2_with fail
                  refine (HF.out _).mono ?_
                  rintro e w5 ⟨rfl, hb5⟩
                  have HB5 := Lib.hid (below_on HBI.out hb5)
                  clear d0 d1 d2 d3 d4 d5 d6 hb5
                  go_wp2
                  go_roundw
                  case rel => exact ⟨k + 1, by go_num, by omega, by rw [HX.out]; simp, HB5.out⟩
                  case measure => simp [intOf]; omega
              · have hk2 : ¬ (k : Int) < (m : Int) := by omega
                have hT : (P ++ [32, 47, 32]) ++ jnT (L.take k) = jcT (LL.take (i + 1)) := by
                  rw [List.take_of_length_le (by rw [HM.out]; omega)]
                  have e := HX1.out (by omega)
                  rw [e, show clT L = jnT L from by unfold clT; rw [if_neg hLn]]; simp
                rw [hT]
                obtain ⟨Z, hZ⟩ : ∃ Z, jcT (LL.take (i + 1)) = Z := ⟨_, rfl⟩
                have HZ := Lib.hid hZ
                rw [hZ]
                have HB4 := Lib.hid (below_on HB.out hbi)
                clear hT hZ hbi
                go_wp2
                go_roundw
                case rel => exact ⟨i + 1, by go_num, by omega, by rw [HZ.out], HB4.out⟩
                case measure => simp [intOf]; omega
      · have hk' : ¬ (i : Int) < (n : Int) := by omega
        obtain rfl : i = n := by omega
        rw [show LL.take i = LL from List.take_of_length_le (by rw [HN.out]; exact Nat.le_refl _)]
        by_cases h0 : LL = []
        · have HF := Lib.hid (fc_nil HSY.out h0)
          have hj : jcT LL = [] := by rw [h0]; rfl
          rw [hj]
          clear h0
          go_wp2
          go_ret
          exact ⟨rt_strC HF.out.symm, hbw⟩
        · have HF := Lib.hid (fc_on HSY.out h0)
          have hjn := jc_ne h0 (fun L hL => (HP.out.2 L hL).2)
          obtain ⟨P, hP⟩ : ∃ P, jcT LL = P := ⟨_, rfl⟩
          rw [hP] at HF hjn ⊢
          have hPe : P.isEmpty = false := by cases P with
            | nil => exact absurd rfl hjn
            | cons _ _ => rfl
          clear hjn hP
          go_wp2
          go_ret
          exact ⟨rt_strC HF.out.symm, hbw⟩

end Go.Proofs.YtbppcpaodfjpkaaDoor
