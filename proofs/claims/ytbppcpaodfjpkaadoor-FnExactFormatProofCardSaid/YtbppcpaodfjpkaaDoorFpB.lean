/- FormatProof of the model. -/
import Derived.Test.YtbppcpaodfjpkaaDoorFpM
import Derived.Test.YtbppcpaodfjpkaaDoorSvB
import Derived.Test.YtbppcpaodfjpkaaDoorTxC
import Derived.Deep.RegionHeld3
namespace Go.Proofs.YtbppcpaodfjpkaaDoor
open Go.RowKit

theorem rt_strQ {a b : List UInt8} (h : a = b) : Ending.returned (.string (bs a)) = .returned (.string (bs b)) := by rw [h]
set_option maxHeartbeats 2000000 in
theorem l10Steps_any (u : Value) (LL : List SpD) (w : World) (h : RdSS w u LL) (hz : spS LL ≤ 1048576) :
    Calls Tryd.prog 38 #[u] w fun e w' => e = .returned (.bool (pfB LL)) ∧ Below w.heap.size w w' := by
  obtain ⟨sp, cap, rfl, hc⟩ := h
  obtain ⟨n, hn⟩ : ∃ n, LL.length = n := ⟨_, rfl⟩
  have HN := Lib.hid hn
  have HC := Lib.hid hc
  have hL : n ≤ 1048576 := by rw [← hn]; unfold spS at hz; omega
  have HZ := Lib.hid (show smS LL ≤ 1048576 by unfold spS at hz; omega)
  rw [hn]
  clear hc hz hn
  go_enter Tryd.func38, Tryd.ntmps38
  go_wp2
  go_loopw [3] (fun i wr => ∃ k : Nat, i = .int .i64 k ∧ k ≤ n ∧ Below w.heap.size w wr ∧ pvL (44 + (k : Int)) (LL.drop k) = pvL 44 LL) (fun i _ => n - (intOf i).toNat)
  case atStart => exact ⟨0, rfl, Nat.zero_le _, Below.refl _ _, rfl⟩
  case round =>
    obtain ⟨k, rfl, hk, hbw, hpv⟩ := hrel
    have HB := Lib.hid hbw
    have HV := Lib.hid hpv
    clear hpv
    by_cases hlt : k < n
    · have hk' : (k : Int) < (n : Int) := by omega
      obtain ⟨x, hx⟩ : ∃ x, LL[k]? = some x := ⟨_, List.getElem?_eq_getElem (by rw [HN.out]; exact hlt)⟩
      obtain ⟨b, rfl, hbl, hcell⟩ := HC.out.resolve_left (by rw [HN.out]; omega)
      obtain ⟨s, t, c0, c1, r0, r1⟩ := srowb_on (hcell k x hx) hbl hbw
      have HR := Lib.hid r0.rd
      have HR' := Lib.hid r1.rd
      have HXL := Lib.hid (Nat.le_trans (smS_at hx) HZ.out)
      have HVA := Lib.hid ((pvL_at (k := 44 + (k : Int)) hx).symm.trans HV.out)
      obtain ⟨a1, n1, q1, rfl⟩ := r0.slice
      obtain ⟨a2, n2, q2, rfl⟩ := r1.slice
      have hw44 : IntKind.i64.wrap (44 + (k : Int)) = 44 + (k : Int) := by rw [IntKind.wrap_i64]; omega
      clear hcell hbw r0 r1 hx
      go_wp2_with fail
      refine (specStepValid_any _ _ x.f x.t (44 + (k : Int)) _ HR.out HR'.out (by omega) (by omega) (by have := HXL.out; omega)).mono ?_
      rintro e w2 ⟨rfl, hb2⟩
      have HB2 := Lib.hid (below_on HB.out hb2)
      clear hb2 c0 c1
      cases hsv : svB x.f x.t (44 + (k : Int)) with
      | false =>
        have HF := Lib.hid (show pfB LL = false by unfold pfB; rw [← HVA.out, hsv]; simp)
        clear hsv
        go_wp2
        go_ret
        exact ⟨va_blS HF.out.symm, HB2.out⟩
      | true =>
        have HVN := Lib.hid (show pvL (44 + ((k + 1 : Nat) : Int)) (LL.drop (k + 1)) = pvL 44 LL by rw [← HVA.out, hsv, Bool.true_and]; rw [show 44 + ((k + 1 : Nat) : Int) = 44 + (k : Int) + 1 by omega])
        clear hsv
        go_wp2
        go_roundw
        case rel => exact ⟨k + 1, by go_num, by omega, HB2.out, HVN.out⟩
        case measure => simp [intOf]; omega
    · have hk' : ¬ (k : Int) < (n : Int) := by omega
      obtain rfl : k = n := by omega
      have HF := Lib.hid (show pfB LL = decide ((k : Int) ≤ 200) by
        unfold pfB
        rw [← HV.out, pvL_end (by rw [HN.out]; exact Nat.le_refl _), HN.out, Bool.and_true]
        by_cases g : k ≤ 200
        · rw [decide_eq_true g, decide_eq_true (by omega)]
        · rw [decide_eq_false g, decide_eq_false (by omega)])
      go_wp2
      go_ret
      exact ⟨va_blS HF.out.symm, hbw⟩

def FpO (LL : List SpD) (n : Nat) (w : World) (v i : Value) (wr : World) : Prop :=
  ∃ k : Nat, i = .int .i64 k ∧ k ≤ n ∧ v = .string (bs (jpT (LL.take k))) ∧ Below w.heap.size w wr
def FpI (x : SpD) (Q : List UInt8) (m : Nat) (w : World) (v i : Value) (wr : World) : Prop :=
  ∃ k : Nat, i = .int .i64 k ∧ k ≤ m ∧ v = .string (bs (Q ++ skT x k)) ∧ Below w.heap.size w wr
theorem keepFp {w W' : World} {b b1 b2 i j k l : Nat} {s t : Value} {x u : Int} (hb : b < w.heap.size) (h0 : w.cell? ⟨b, i, none⟩ = some s) (h1 : w.cell? ⟨b, j, none⟩ = some t)
    (hb1 : b1 < w.heap.size) (h2 : w.cell? ⟨b1, k, none⟩ = some (.int .i64 x)) (hb2 : b2 < w.heap.size) (h3 : w.cell? ⟨b2, l, none⟩ = some (.int .i64 u)) (hB : Below w.heap.size w W') :
    Below w.heap.size w W' ∧ W'.cell? ⟨b, i, none⟩ = some s ∧ W'.cell? ⟨b, j, none⟩ = some t ∧ W'.cell? ⟨b1, k, none⟩ = some (.int .i64 x) ∧ W'.cell? ⟨b2, l, none⟩ = some (.int .i64 u) :=
  ⟨hB, (hB.cell (p := ⟨b, i, none⟩) hb).trans h0, (hB.cell (p := ⟨b, j, none⟩) hb).trans h1, (hB.cell (p := ⟨b1, k, none⟩) hb1).trans h2, (hB.cell (p := ⟨b2, l, none⟩) hb2).trans h3⟩

set_option maxRecDepth 10000 in
set_option maxHeartbeats 8000000 in
theorem specFormatProof_any (u : Value) (LL : List SpD) (w : World) (h : RdSS w u LL) (hz : spS LL ≤ 1048576) :
    Calls Tryd.prog 17 #[u] w fun e w' => e = .returned (.string (bs (fpT LL))) ∧ Below w.heap.size w w' := by
  have HS := Lib.hid (l10Steps_any u LL w h hz)
  have hb0 : ({ data := #[] } : ByteArray) = bs [] := rfl
  have h32 : ({ data := #[32] } : ByteArray) = bs [32] := rfl
  have h43 : ({ data := #[43] } : ByteArray) = bs [43] := rfl
  have h45 : ({ data := #[45] } : ByteArray) = bs [45] := rfl
  have h120 : ({ data := #[120] } : ByteArray) = bs [120] := rfl
  have hl0 := bs_list
  have happ := bs_app
  have hsz := bs_size
  obtain ⟨sp, cap, rfl, hc⟩ := h
  obtain ⟨n, hn⟩ : ∃ n, LL.length = n := ⟨_, rfl⟩
  have HN := Lib.hid hn
  have HC := Lib.hid hc
  have hL : n ≤ 1048576 := by rw [← hn]; unfold spS at hz; omega
  rw [hn] at HS ⊢
  clear hn hc hz
  cases hs : pfB LL with
  | false =>
    have HF := Lib.hid (fp_off hs)
    rw [hs] at HS
    clear hs
    go_enter Tryd.func17, Tryd.ntmps17
    go_wp2_with fail
    refine HS.out.mono ?_
    rintro e w1 ⟨rfl, hb1⟩
    go_wp2
    go_ret
    exact ⟨rt_strQ HF.out.symm, hb1⟩
  | true =>
    have HP := Lib.hid (pv_parts hs)
    have HSY := Lib.hid hs
    rw [hs] at HS
    clear hs
    go_enter Tryd.func17, Tryd.ntmps17
    go_wp2_with fail
    refine HS.out.mono ?_
    rintro e w1 ⟨rfl, hb1⟩
    have HST := Lib.hid (show FpO LL n w (.string (bs [])) (.int .i64 0) w1 from ⟨0, rfl, Nat.zero_le _, rfl, hb1⟩)
    clear hb1
    go_wp2_with fail
    go_loopw [3, 4] (fun v i wr => FpO LL n w v i wr) (fun _ i _ => n - (intOf i).toNat)
    case atStart => exact HST.out
    case round =>
      obtain ⟨i, rfl, hk, rfl, hbw⟩ := hrel
      rename World => W3
      clear HST
      have HB := Lib.hid hbw
      by_cases hlt : i < n
      · have hk' : (i : Int) < (n : Int) := by omega
        have hk0 : (0 : Int) ≤ i := by omega
        obtain ⟨x, hy⟩ : ∃ x, LL[i]? = some x := ⟨_, List.getElem?_eq_getElem (by rw [HN.out]; exact hlt)⟩
        obtain ⟨b, rfl, hbl, hcell⟩ := HC.out.resolve_left (by rw [HN.out]; omega)
        obtain ⟨s, t, c0, c1, r0, r1⟩ := srowb_on (hcell i x hy) hbl hbw
        have hbl3 : b < W3.heap.size := Nat.lt_of_lt_of_le hbl hbw.size
        have hok := HP.out.2 x (List.mem_of_getElem? hy)
        have HOK := Lib.hid hok
        obtain ⟨m, hm⟩ : ∃ m, x.f.length = m := ⟨_, rfl⟩
        have HM := Lib.hid hm
        have HM2 := Lib.hid (show x.t.length = m by rw [← hok.2.1, hm])
        have hm3 : m ≤ 300 := by have := hok.2.2.1; omega
        have hm0 : m ≠ 0 := fun e => hok.1 (List.length_eq_zero_iff.1 (hm.trans e))
        obtain ⟨sp1, q1, rfl, _, _, hs1⟩ := r0
        obtain ⟨sp2, q2, rfl, _, _, hs2⟩ := r1
        obtain ⟨bf, of, rfl, _, hbf, hcf⟩ := hs1.resolve_left (by rw [HM.out]; exact hm0)
        obtain ⟨bt, ot, rfl, _, hbt, hct⟩ := hs2.resolve_left (by rw [HM2.out]; exact hm0)
        have HCF := Lib.hid hcf
        have HCT := Lib.hid hct
        rw [hm] at c0
        rw [HM2.out] at c1
        have hPle : (jpT (LL.take i)).length ≤ 6000000 := by
          have h1 := jpT_len (LL := LL.take i) (fun L hL => HP.out.2 L (List.mem_of_mem_take hL))
          rw [List.length_take] at h1
          have := HP.out.1
          rw [HN.out] at this
          omega
        obtain ⟨P, hP⟩ : ∃ P, jpT (LL.take i) = P := ⟨_, rfl⟩
        have HX1 := Lib.hid (fun hi : 0 < i => jpT_snoc hy hi)
        have HX0 := Lib.hid (fun hi : LL[0]? = some x => jpT_one hi)
        have HY := Lib.hid hy
        have HPP := Lib.hid hP
        rw [hP] at hPle HX1 ⊢
        clear hcell hy hbw hm hP hbl hs1 hs2 hcf hct hok
        by_cases hi0 : i = 0
        · have hPn : P = [] := by rw [← HPP.out, hi0]; rfl
          have HI0 := Lib.hid hi0
          subst hPn
          have hi1 : ¬ (0 : Int) < (i : Int) := by omega
          have hi2 : decide ((i : Int) > 0) = false := by simpa using hi0
          have hi3 : decide (0 < i) = false := by simpa using hi0
          clear hi0
          go_wp2_with fail
          go_loopw [3, 5] (fun v i wr => FpI x ([] : List UInt8) m W3 v i wr) (fun _ i _ => m - (intOf i).toNat)
          case atStart => exact ⟨0, rfl, Nat.zero_le _, by rw [skT_zero]; simp, Below.refl _ _⟩
          case round =>
            obtain ⟨k, rfl, hkm, rfl, hbi⟩ := hrel
            rename World => W4
            have HBI := Lib.hid hbi
            have d0 : W4.cell? ⟨b, i * 2, none⟩ = _ := (hbi.cell (p := ⟨b, i * 2, none⟩) hbl3).trans c0
            have d1 : W4.cell? ⟨b, i * 2 + 1, none⟩ = _ := (hbi.cell (p := ⟨b, i * 2 + 1, none⟩) hbl3).trans c1
            by_cases hkl : k < m
            · have hk2 : (k : Int) < (m : Int) := by omega
              have hkz : (0 : Int) ≤ k := by omega
              obtain ⟨n1, hn1⟩ : ∃ n1, x.f[k]? = some n1 := ⟨_, List.getElem?_eq_getElem (by rw [HM.out]; exact hkl)⟩
              obtain ⟨u1, hu1⟩ : ∃ u1, x.t[k]? = some u1 := ⟨_, List.getElem?_eq_getElem (by rw [HM2.out]; exact hkl)⟩
              have e0 : W4.cell? ⟨bf, of + k, none⟩ = some (.int .i64 n1) := (hbi.cell (p := ⟨bf, of + k, none⟩) hbf).trans (HCF.out k n1 hn1)
              have e1 : W4.cell? ⟨bt, ot + k, none⟩ = some (.int .i64 u1) := (hbi.cell (p := ⟨bt, ot + k, none⟩) hbt).trans (HCT.out k u1 hu1)
              have hb4 : b < W4.heap.size := Nat.lt_of_lt_of_le hbl3 hbi.size
              have hbf4 : bf < W4.heap.size := Nat.lt_of_lt_of_le hbf hbi.size
              have hbt4 : bt < W4.heap.size := Nat.lt_of_lt_of_le hbt hbi.size
              obtain ⟨g0, g1, g2, g3⟩ := HOK.out.2.2.2 k n1 u1 hn1 hu1
              have hl1 := Lib.itoa_length_le n1 (by omega) (by omega)
              have hl2 := Lib.itoa_length_le u1 (by omega) (by omega)
              have HI1 := Lib.hid fun W => l17Dec_any u1 W (by omega) (by omega)
              have HI2 := Lib.hid fun W => l17Dec_any n1 W (by omega) (by omega)
              have HPR := Lib.hid (show Lib.itoa u1 ++ 120 :: Lib.itoa n1 = prT n1 u1 by simp [prT])
              obtain ⟨A, hA⟩ : ∃ A, Lib.itoa u1 = A := ⟨_, rfl⟩
              obtain ⟨C, hC⟩ : ∃ C, Lib.itoa n1 = C := ⟨_, rfl⟩
              rw [hA] at hl2 HI1 HPR
              rw [hC] at hl1 HI2 HPR
              clear hA hC g0 g1 g2 g3
              by_cases hk0' : k = 0
              · have hJ0 : skT x k = [] := by rw [hk0']; exact skT_zero x
                have HX := Lib.hid (show skT x (k + 1) = prT n1 u1 by rw [hk0']; exact skT_one (by rwa [hk0'] at hn1) (by rwa [hk0'] at hu1))
                have hkd : decide ((k : Int) > 0) = false := by rw [decide_eq_false_iff_not]; omega
                have hkd2 : decide (0 < k) = false := by rw [decide_eq_false_iff_not]; omega
                have hk1 : ¬ (0 : Int) < (k : Int) := by omega
                rw [hJ0, List.append_nil]
                clear hJ0
                clear hn1 hu1 hk0' hbi c0 c1
                go_wp2_with fail
                refine wp_region_held_drew (S := (fun w' => Below W4.heap.size W4 w' ∧ w'.cell? ⟨b, i * 2, none⟩ = some (.slice (some ⟨bf, of, none⟩) m q1) ∧ w'.cell? ⟨b, i * 2 + 1, none⟩ = some (.slice (some ⟨bt, ot, none⟩) m q2) ∧ w'.cell? ⟨bf, of + k, none⟩ = some (.int .i64 n1) ∧ w'.cell? ⟨bt, ot + k, none⟩ = some (.int .i64 u1))) (by kernel_rfl) ?_ (fun hHeld => ?_)
                · try dsimp only
                  exact keepFp hb4 d0 d1 hbf4 e0 hbt4 e1 (by go_grown)
                refine wpAnyH_take (i := 0) (oi := { dst := some 33, op := Go.Op.move (Go.Operand.tmp 3), type := 9, pos := "l10_proofs.go:111", after := #[], guard := none }) (v := ?_) rfl (by kernel_rfl) (by kernel_rfl) (by kernel_rfl) (fun _ _ _ h => h) (Or.inl ⟨by rfl, ?_⟩) (by assumption) ?_
                rotate_left
                · (intro w hSw; (try dsimp only at hSw); first | (go_simp; done) | (go_simp; with_reducible rfl) | (go_simp; rw [if_neg (by omega)]))
                try simp only [Act.put, List.setIfInBounds_toArray, List.set_cons_zero, List.set_cons_succ]
                refine wpAnyH_take (i := 1) (oi := { dst := some 34, op := Go.Op.move (Go.Operand.tmp 0), type := 49, pos := "l10_proofs.go:111", after := #[], guard := none }) (v := ?_) rfl (by kernel_rfl) (by kernel_rfl) (by kernel_rfl) (fun _ _ _ h => h) (Or.inl ⟨by rfl, ?_⟩) (by assumption) ?_
                rotate_left
                · (intro w hSw; (try dsimp only at hSw); first | (go_simp; done) | (go_simp; with_reducible rfl) | (go_simp; rw [if_neg (by omega)]))
                try simp only [Act.put, List.setIfInBounds_toArray, List.set_cons_zero, List.set_cons_succ]
                refine wpAnyH_take (i := 2) (oi := { dst := some 35, op := Go.Op.move (Go.Operand.tmp 4), type := 3, pos := "l10_proofs.go:111", after := #[], guard := none }) (v := ?_) rfl (by kernel_rfl) (by kernel_rfl) (by kernel_rfl) (fun _ _ _ h => h) (Or.inl ⟨by rfl, ?_⟩) (by assumption) ?_
                rotate_left
                · (intro w hSw; (try dsimp only at hSw); first | (go_simp; done) | (go_simp; with_reducible rfl) | (go_simp; rw [if_neg (by omega)]))
                try simp only [Act.put, List.setIfInBounds_toArray, List.set_cons_zero, List.set_cons_succ]
                refine wpAnyH_take (i := 3) (oi := { dst := some 36, op := Go.Op.indexAddr 49 (Go.Operand.tmp 34) (Go.Operand.tmp 35), type := 0, pos := "l10_proofs.go:111", after := #[{ on := 1, ground := Go.Ground.data }, { on := 2, ground := Go.Ground.data }], guard := none }) (v := ?_) rfl (by kernel_rfl) (by kernel_rfl) (by kernel_rfl) (fun _ _ _ h => h) (Or.inl ⟨by rfl, ?_⟩) (by assumption) ?_
                rotate_left
                · (intro w hSw; (try dsimp only at hSw); first | (go_simp; done) | (go_simp; with_reducible rfl) | (go_simp; rw [if_neg (by omega)]))
                try simp only [Act.put, List.setIfInBounds_toArray, List.set_cons_zero, List.set_cons_succ]
                refine wpAnyH_take (i := 4) (oi := { dst := some 37, op := Go.Op.fieldAddr 75 (Go.Operand.tmp 36) 1, type := 0, pos := "l10_proofs.go:111", after := #[{ on := 3, ground := Go.Ground.data }], guard := none }) (v := ?_) rfl (by kernel_rfl) (by kernel_rfl) (by kernel_rfl) (fun _ _ _ h => h) (Or.inl ⟨by rfl, ?_⟩) (by assumption) ?_
                rotate_left
                · (intro w hSw; (try dsimp only at hSw); first | (go_simp; done) | (go_simp; with_reducible rfl) | (go_simp; rw [if_neg (by omega)]))
                try simp only [Act.put, List.setIfInBounds_toArray, List.set_cons_zero, List.set_cons_succ]
                refine wpAnyH_take (i := 5) (oi := { dst := some 38, op := Go.Op.load 71 (Go.Operand.tmp 37), type := 71, pos := "l10_proofs.go:111", after := #[{ on := 4, ground := Go.Ground.data }], guard := none }) (v := ?_) rfl (by kernel_rfl) (by kernel_rfl) (by kernel_rfl) (fun _ _ _ h => h) (Or.inl ⟨by rfl, ?_⟩) (by assumption) ?_
                rotate_left
                · (intro w hSw; (try dsimp only at hSw); first | (go_simp; done) | (go_simp; with_reducible rfl) | (go_simp; rw [if_neg (by omega)]))
                try simp only [Act.put, List.setIfInBounds_toArray, List.set_cons_zero, List.set_cons_succ]
                refine wpAnyH_take (i := 6) (oi := { dst := some 39, op := Go.Op.move (Go.Operand.tmp 5), type := 3, pos := "l10_proofs.go:111", after := #[], guard := none }) (v := ?_) rfl (by kernel_rfl) (by kernel_rfl) (by kernel_rfl) (fun _ _ _ h => h) (Or.inl ⟨by rfl, ?_⟩) (by assumption) ?_
                rotate_left
                · (intro w hSw; (try dsimp only at hSw); first | (go_simp; done) | (go_simp; with_reducible rfl) | (go_simp; rw [if_neg (by omega)]))
                try simp only [Act.put, List.setIfInBounds_toArray, List.set_cons_zero, List.set_cons_succ]
                refine wpAnyH_take (i := 7) (oi := { dst := some 40, op := Go.Op.indexAddr 71 (Go.Operand.tmp 38) (Go.Operand.tmp 39), type := 0, pos := "l10_proofs.go:111", after := #[{ on := 5, ground := Go.Ground.data }, { on := 6, ground := Go.Ground.data }], guard := none }) (v := ?_) rfl (by kernel_rfl) (by kernel_rfl) (by kernel_rfl) (fun _ _ _ h => h) (Or.inl ⟨by rfl, ?_⟩) (by assumption) ?_
                rotate_left
                · (intro w hSw; (try dsimp only at hSw); first | (go_simp; done) | (go_simp; with_reducible rfl) | (go_simp; rw [if_neg (by omega)]))
                try simp only [Act.put, List.setIfInBounds_toArray, List.set_cons_zero, List.set_cons_succ]
                refine wpAnyH_take (i := 8) (oi := { dst := some 41, op := Go.Op.load 3 (Go.Operand.tmp 40), type := 3, pos := "l10_proofs.go:111", after := #[{ on := 7, ground := Go.Ground.data }], guard := none }) (v := ?_) rfl (by kernel_rfl) (by kernel_rfl) (by kernel_rfl) (fun _ _ _ h => h) (Or.inl ⟨by rfl, ?_⟩) (by assumption) ?_
                rotate_left
                · (intro w hSw; (try dsimp only at hSw); first | (go_simp; done) | (go_simp; with_reducible rfl) | (go_simp; rw [if_neg (by omega)]))
                try simp only [Act.put, List.setIfInBounds_toArray, List.set_cons_zero, List.set_cons_succ]
                refine wpAnyH_take (i := 12) (oi := { dst := some 45, op := Go.Op.move (Go.Operand.tmp 0), type := 49, pos := "l10_proofs.go:111", after := #[], guard := none }) (v := ?_) rfl (by kernel_rfl) (by kernel_rfl) (by kernel_rfl) (fun _ _ _ h => h) (Or.inl ⟨by rfl, ?_⟩) (by assumption) ?_
                rotate_left
                · (intro w hSw; (try dsimp only at hSw); first | (go_simp; done) | (go_simp; with_reducible rfl) | (go_simp; rw [if_neg (by omega)]))
                try simp only [Act.put, List.setIfInBounds_toArray, List.set_cons_zero, List.set_cons_succ]
                refine wpAnyH_take (i := 13) (oi := { dst := some 46, op := Go.Op.move (Go.Operand.tmp 4), type := 3, pos := "l10_proofs.go:111", after := #[], guard := none }) (v := ?_) rfl (by kernel_rfl) (by kernel_rfl) (by kernel_rfl) (fun _ _ _ h => h) (Or.inl ⟨by rfl, ?_⟩) (by assumption) ?_
                rotate_left
                · (intro w hSw; (try dsimp only at hSw); first | (go_simp; done) | (go_simp; with_reducible rfl) | (go_simp; rw [if_neg (by omega)]))
                try simp only [Act.put, List.setIfInBounds_toArray, List.set_cons_zero, List.set_cons_succ]
                refine wpAnyH_take (i := 14) (oi := { dst := some 47, op := Go.Op.indexAddr 49 (Go.Operand.tmp 45) (Go.Operand.tmp 46), type := 0, pos := "l10_proofs.go:111", after := #[{ on := 12, ground := Go.Ground.data }, { on := 13, ground := Go.Ground.data }], guard := none }) (v := ?_) rfl (by kernel_rfl) (by kernel_rfl) (by kernel_rfl) (fun _ _ _ h => h) (Or.inl ⟨by rfl, ?_⟩) (by assumption) ?_
                rotate_left
                · (intro w hSw; (try dsimp only at hSw); first | (go_simp; done) | (go_simp; with_reducible rfl) | (go_simp; rw [if_neg (by omega)]))
                try simp only [Act.put, List.setIfInBounds_toArray, List.set_cons_zero, List.set_cons_succ]
                refine wpAnyH_take (i := 15) (oi := { dst := some 48, op := Go.Op.fieldAddr 75 (Go.Operand.tmp 47) 0, type := 0, pos := "l10_proofs.go:111", after := #[{ on := 14, ground := Go.Ground.data }], guard := none }) (v := ?_) rfl (by kernel_rfl) (by kernel_rfl) (by kernel_rfl) (fun _ _ _ h => h) (Or.inl ⟨by rfl, ?_⟩) (by assumption) ?_
                rotate_left
                · (intro w hSw; (try dsimp only at hSw); first | (go_simp; done) | (go_simp; with_reducible rfl) | (go_simp; rw [if_neg (by omega)]))
                try simp only [Act.put, List.setIfInBounds_toArray, List.set_cons_zero, List.set_cons_succ]
                refine wpAnyH_take (i := 16) (oi := { dst := some 49, op := Go.Op.load 71 (Go.Operand.tmp 48), type := 71, pos := "l10_proofs.go:111", after := #[{ on := 15, ground := Go.Ground.data }], guard := none }) (v := ?_) rfl (by kernel_rfl) (by kernel_rfl) (by kernel_rfl) (fun _ _ _ h => h) (Or.inl ⟨by rfl, ?_⟩) (by assumption) ?_
                rotate_left
                · (intro w hSw; (try dsimp only at hSw); first | (go_simp; done) | (go_simp; with_reducible rfl) | (go_simp; rw [if_neg (by omega)]))
                try simp only [Act.put, List.setIfInBounds_toArray, List.set_cons_zero, List.set_cons_succ]
                refine wpAnyH_take (i := 17) (oi := { dst := some 50, op := Go.Op.move (Go.Operand.tmp 5), type := 3, pos := "l10_proofs.go:111", after := #[], guard := none }) (v := ?_) rfl (by kernel_rfl) (by kernel_rfl) (by kernel_rfl) (fun _ _ _ h => h) (Or.inl ⟨by rfl, ?_⟩) (by assumption) ?_
                rotate_left
                · (intro w hSw; (try dsimp only at hSw); first | (go_simp; done) | (go_simp; with_reducible rfl) | (go_simp; rw [if_neg (by omega)]))
                try simp only [Act.put, List.setIfInBounds_toArray, List.set_cons_zero, List.set_cons_succ]
                refine wpAnyH_take (i := 18) (oi := { dst := some 51, op := Go.Op.indexAddr 71 (Go.Operand.tmp 49) (Go.Operand.tmp 50), type := 0, pos := "l10_proofs.go:111", after := #[{ on := 16, ground := Go.Ground.data }, { on := 17, ground := Go.Ground.data }], guard := none }) (v := ?_) rfl (by kernel_rfl) (by kernel_rfl) (by kernel_rfl) (fun _ _ _ h => h) (Or.inl ⟨by rfl, ?_⟩) (by assumption) ?_
                rotate_left
                · (intro w hSw; (try dsimp only at hSw); first | (go_simp; done) | (go_simp; with_reducible rfl) | (go_simp; rw [if_neg (by omega)]))
                try simp only [Act.put, List.setIfInBounds_toArray, List.set_cons_zero, List.set_cons_succ]
                refine wpAnyH_take (i := 19) (oi := { dst := some 52, op := Go.Op.load 3 (Go.Operand.tmp 51), type := 3, pos := "l10_proofs.go:111", after := #[{ on := 18, ground := Go.Ground.data }], guard := none }) (v := ?_) rfl (by kernel_rfl) (by kernel_rfl) (by kernel_rfl) (fun _ _ _ h => h) (Or.inl ⟨by rfl, ?_⟩) (by assumption) ?_
                rotate_left
                · (intro w hSw; (try dsimp only at hSw); first | (go_simp; done) | (go_simp; with_reducible rfl) | (go_simp; rw [if_neg (by omega)]))
                try simp only [Act.put, List.setIfInBounds_toArray, List.set_cons_zero, List.set_cons_succ]
                refine wpAnyH_ready (rs := [9]) (by kernel_rfl) (by simp) ?_
                refine AllReadyH.cons (o := { dst := some 42, op := Go.Op.call { callee := Go.Callee.value (Go.Operand.func 39), args := #[Go.Operand.tmp 41], argTypes := #[3] }, type := 9, pos := "l10_proofs.go:111", after := #[{ on := 8, ground := Go.Ground.data }], guard := none }) rfl (fun K hK => ?_) AllReadyH.nil
                go_simp
                (go_at_call 39; refine (HI1.out _).mono ?_; rintro e w5 ⟨rfl, hb5⟩; have hbb5 := below_on (w := W4) (by go_grown) hb5; have hsb5 : W4.heap.size ≤ w5.heap.size := hbb5.size)
                (try go_wp2_with fail)
                refine hK.out _ _ ?_ (fun hHeld => ?_)
                · try dsimp only
                  exact keepFp hb4 d0 d1 hbf4 e0 hbt4 e1 (by go_grown)
                clear hK K
                try simp only [Act.put, List.setIfInBounds_toArray, List.set_cons_zero, List.set_cons_succ]
                refine wpAnyH_take (i := 10) (oi := { dst := some 43, op := Go.Op.binOp Go.BinOp.add 9 (Go.Operand.tmp 33) (Go.Operand.tmp 42) 9, type := 9, pos := "l10_proofs.go:111", after := #[{ on := 0, ground := Go.Ground.data }, { on := 9, ground := Go.Ground.data }], guard := none }) (v := ?_) rfl (by kernel_rfl) (by kernel_rfl) (by kernel_rfl) (fun _ _ _ h => h) (Or.inl ⟨by rfl, ?_⟩) (by assumption) ?_
                rotate_left
                · (intro w hSw; (try dsimp only at hSw); first | (go_simp; done) | (go_simp; with_reducible rfl) | (go_simp; rw [if_neg (by omega)]))
                try simp only [Act.put, List.setIfInBounds_toArray, List.set_cons_zero, List.set_cons_succ]
                refine wpAnyH_take (i := 11) (oi := { dst := some 44, op := Go.Op.binOp Go.BinOp.add 9 (Go.Operand.tmp 43) (Go.Operand.const (Go.Value.string { data := #[120] })) 9, type := 9, pos := "l10_proofs.go:111", after := #[{ on := 10, ground := Go.Ground.data }], guard := none }) (v := ?_) rfl (by kernel_rfl) (by kernel_rfl) (by kernel_rfl) (fun _ _ _ h => h) (Or.inl ⟨by rfl, ?_⟩) (by assumption) ?_
                rotate_left
                · (intro w hSw; (try dsimp only at hSw); first | (go_simp; done) | (go_simp; with_reducible rfl) | (go_simp; rw [if_neg (by omega)]))
                try simp only [Act.put, List.setIfInBounds_toArray, List.set_cons_zero, List.set_cons_succ]
                refine wpAnyH_ready (rs := [20]) (by kernel_rfl) (by simp) ?_
                refine AllReadyH.cons (o := { dst := some 53, op := Go.Op.call { callee := Go.Callee.value (Go.Operand.func 39), args := #[Go.Operand.tmp 52], argTypes := #[3] }, type := 9, pos := "l10_proofs.go:111", after := #[{ on := 19, ground := Go.Ground.data }, { on := 9, ground := Go.Ground.chain }], guard := none }) rfl (fun K hK => ?_) AllReadyH.nil
                go_simp
                (go_at_call 39; refine (HI2.out _).mono ?_; rintro e w6 ⟨rfl, hb6⟩; have hbb6 := below_on (w := W4) (by go_grown) hb6; have hsb6 : W4.heap.size ≤ w6.heap.size := hbb6.size)
                (try go_wp2_with fail)
                refine hK.out _ _ ?_ (fun hHeld => ?_)
                · try dsimp only
                  exact keepFp hb4 d0 d1 hbf4 e0 hbt4 e1 (by go_grown)
                clear hK K
                try simp only [Act.put, List.setIfInBounds_toArray, List.set_cons_zero, List.set_cons_succ]
                refine wpAnyH_take (i := 21) (oi := { dst := some 54, op := Go.Op.binOp Go.BinOp.add 9 (Go.Operand.tmp 44) (Go.Operand.tmp 53) 9, type := 9, pos := "l10_proofs.go:111", after := #[{ on := 11, ground := Go.Ground.data }, { on := 20, ground := Go.Ground.data }], guard := none }) (v := ?_) rfl (by kernel_rfl) (by kernel_rfl) (by kernel_rfl) (fun _ _ _ h => h) (Or.inl ⟨by rfl, ?_⟩) (by assumption) ?_
                rotate_left
                · (intro w hSw; (try dsimp only at hSw); first | (go_simp; done) | (go_simp; with_reducible rfl) | (go_simp; rw [if_neg (by omega)]))
                try simp only [Act.put, List.setIfInBounds_toArray, List.set_cons_zero, List.set_cons_succ]
                refine wpAnyH_take (i := 22) (oi := { dst := some 3, op := Go.Op.assign (Go.Operand.tmp 54), type := 9, pos := "l10_proofs.go:111", after := #[{ on := 21, ground := Go.Ground.data }, { on := 20, ground := Go.Ground.chain }, { on := 0, ground := Go.Ground.phase }, { on := 1, ground := Go.Ground.phase }, { on := 2, ground := Go.Ground.phase }, { on := 3, ground := Go.Ground.phase }, { on := 4, ground := Go.Ground.phase }, { on := 5, ground := Go.Ground.phase }, { on := 6, ground := Go.Ground.phase }, { on := 7, ground := Go.Ground.phase }, { on := 8, ground := Go.Ground.phase }, { on := 9, ground := Go.Ground.phase }, { on := 10, ground := Go.Ground.phase }, { on := 11, ground := Go.Ground.phase }, { on := 12, ground := Go.Ground.phase }, { on := 13, ground := Go.Ground.phase }, { on := 14, ground := Go.Ground.phase }, { on := 15, ground := Go.Ground.phase }, { on := 16, ground := Go.Ground.phase }, { on := 17, ground := Go.Ground.phase }, { on := 18, ground := Go.Ground.phase }, { on := 19, ground := Go.Ground.phase }, { on := 20, ground := Go.Ground.phase }, { on := 21, ground := Go.Ground.phase }], guard := none }) (v := ?_) rfl (by kernel_rfl) (by kernel_rfl) (by kernel_rfl) (fun _ _ _ h => h) (Or.inl ⟨by rfl, ?_⟩) (by assumption) ?_
                rotate_left
                · (intro w hSw; (try dsimp only at hSw); first | (go_simp; done) | (go_simp; with_reducible rfl) | (go_simp; rw [if_neg (by omega)]))
                try simp only [Act.put, List.setIfInBounds_toArray, List.set_cons_zero, List.set_cons_succ]
                refine wpAnyH_done (by kernel_rfl) ?_ _
                have HB5 := Lib.hid (below_on HBI.out (show Below W4.heap.size W4 _ from by first | exact hbb6 | go_grown))
                clear d0 d1 e0 e1 hHeld
                go_wp2
                go_roundw
                case rel => exact ⟨k + 1, by go_num, by omega, by rw [HX.out, ← HPR.out]; simp, HB5.out⟩
                case measure => simp [intOf]; omega
              · obtain ⟨J, hJ⟩ : ∃ J, skT x k = J := ⟨_, rfl⟩
                have hJl : J.length ≤ 15300 := by rw [← hJ]; exact skT_len HOK.out k
                have HX := Lib.hid (show skT x (k + 1) = J ++ ([43] ++ prT n1 u1) by rw [skT_snoc hn1 hu1 (by omega), hJ])
                have hkd : decide ((k : Int) > 0) = true := by rw [decide_eq_true_iff]; omega
                have hkd2 : decide (0 < k) = true := by rw [decide_eq_true_iff]; omega
                have hk1 : (0 : Int) < (k : Int) := by omega
                rw [hJ]
                clear hJ
                clear hn1 hu1 hk0' hbi c0 c1
                go_wp2_with fail
                refine wp_region_held_drew (S := (fun w' => Below W4.heap.size W4 w' ∧ w'.cell? ⟨b, i * 2, none⟩ = some (.slice (some ⟨bf, of, none⟩) m q1) ∧ w'.cell? ⟨b, i * 2 + 1, none⟩ = some (.slice (some ⟨bt, ot, none⟩) m q2) ∧ w'.cell? ⟨bf, of + k, none⟩ = some (.int .i64 n1) ∧ w'.cell? ⟨bt, ot + k, none⟩ = some (.int .i64 u1))) (by kernel_rfl) ?_ (fun hHeld => ?_)
                · try dsimp only
                  exact keepFp hb4 d0 d1 hbf4 e0 hbt4 e1 (by go_grown)
                refine wpAnyH_take (i := 0) (oi := { dst := some 33, op := Go.Op.move (Go.Operand.tmp 3), type := 9, pos := "l10_proofs.go:111", after := #[], guard := none }) (v := ?_) rfl (by kernel_rfl) (by kernel_rfl) (by kernel_rfl) (fun _ _ _ h => h) (Or.inl ⟨by rfl, ?_⟩) (by assumption) ?_
                rotate_left
                · (intro w hSw; (try dsimp only at hSw); first | (go_simp; done) | (go_simp; with_reducible rfl) | (go_simp; rw [if_neg (by omega)]))
                try simp only [Act.put, List.setIfInBounds_toArray, List.set_cons_zero, List.set_cons_succ]
                refine wpAnyH_take (i := 1) (oi := { dst := some 34, op := Go.Op.move (Go.Operand.tmp 0), type := 49, pos := "l10_proofs.go:111", after := #[], guard := none }) (v := ?_) rfl (by kernel_rfl) (by kernel_rfl) (by kernel_rfl) (fun _ _ _ h => h) (Or.inl ⟨by rfl, ?_⟩) (by assumption) ?_
                rotate_left
                · (intro w hSw; (try dsimp only at hSw); first | (go_simp; done) | (go_simp; with_reducible rfl) | (go_simp; rw [if_neg (by omega)]))
                try simp only [Act.put, List.setIfInBounds_toArray, List.set_cons_zero, List.set_cons_succ]
                refine wpAnyH_take (i := 2) (oi := { dst := some 35, op := Go.Op.move (Go.Operand.tmp 4), type := 3, pos := "l10_proofs.go:111", after := #[], guard := none }) (v := ?_) rfl (by kernel_rfl) (by kernel_rfl) (by kernel_rfl) (fun _ _ _ h => h) (Or.inl ⟨by rfl, ?_⟩) (by assumption) ?_
                rotate_left
                · (intro w hSw; (try dsimp only at hSw); first | (go_simp; done) | (go_simp; with_reducible rfl) | (go_simp; rw [if_neg (by omega)]))
                try simp only [Act.put, List.setIfInBounds_toArray, List.set_cons_zero, List.set_cons_succ]
                refine wpAnyH_take (i := 3) (oi := { dst := some 36, op := Go.Op.indexAddr 49 (Go.Operand.tmp 34) (Go.Operand.tmp 35), type := 0, pos := "l10_proofs.go:111", after := #[{ on := 1, ground := Go.Ground.data }, { on := 2, ground := Go.Ground.data }], guard := none }) (v := ?_) rfl (by kernel_rfl) (by kernel_rfl) (by kernel_rfl) (fun _ _ _ h => h) (Or.inl ⟨by rfl, ?_⟩) (by assumption) ?_
                rotate_left
                · (intro w hSw; (try dsimp only at hSw); first | (go_simp; done) | (go_simp; with_reducible rfl) | (go_simp; rw [if_neg (by omega)]))
                try simp only [Act.put, List.setIfInBounds_toArray, List.set_cons_zero, List.set_cons_succ]
                refine wpAnyH_take (i := 4) (oi := { dst := some 37, op := Go.Op.fieldAddr 75 (Go.Operand.tmp 36) 1, type := 0, pos := "l10_proofs.go:111", after := #[{ on := 3, ground := Go.Ground.data }], guard := none }) (v := ?_) rfl (by kernel_rfl) (by kernel_rfl) (by kernel_rfl) (fun _ _ _ h => h) (Or.inl ⟨by rfl, ?_⟩) (by assumption) ?_
                rotate_left
                · (intro w hSw; (try dsimp only at hSw); first | (go_simp; done) | (go_simp; with_reducible rfl) | (go_simp; rw [if_neg (by omega)]))
                try simp only [Act.put, List.setIfInBounds_toArray, List.set_cons_zero, List.set_cons_succ]
                refine wpAnyH_take (i := 5) (oi := { dst := some 38, op := Go.Op.load 71 (Go.Operand.tmp 37), type := 71, pos := "l10_proofs.go:111", after := #[{ on := 4, ground := Go.Ground.data }], guard := none }) (v := ?_) rfl (by kernel_rfl) (by kernel_rfl) (by kernel_rfl) (fun _ _ _ h => h) (Or.inl ⟨by rfl, ?_⟩) (by assumption) ?_
                rotate_left
                · (intro w hSw; (try dsimp only at hSw); first | (go_simp; done) | (go_simp; with_reducible rfl) | (go_simp; rw [if_neg (by omega)]))
                try simp only [Act.put, List.setIfInBounds_toArray, List.set_cons_zero, List.set_cons_succ]
                refine wpAnyH_take (i := 6) (oi := { dst := some 39, op := Go.Op.move (Go.Operand.tmp 5), type := 3, pos := "l10_proofs.go:111", after := #[], guard := none }) (v := ?_) rfl (by kernel_rfl) (by kernel_rfl) (by kernel_rfl) (fun _ _ _ h => h) (Or.inl ⟨by rfl, ?_⟩) (by assumption) ?_
                rotate_left
                · (intro w hSw; (try dsimp only at hSw); first | (go_simp; done) | (go_simp; with_reducible rfl) | (go_simp; rw [if_neg (by omega)]))
                try simp only [Act.put, List.setIfInBounds_toArray, List.set_cons_zero, List.set_cons_succ]
                refine wpAnyH_take (i := 7) (oi := { dst := some 40, op := Go.Op.indexAddr 71 (Go.Operand.tmp 38) (Go.Operand.tmp 39), type := 0, pos := "l10_proofs.go:111", after := #[{ on := 5, ground := Go.Ground.data }, { on := 6, ground := Go.Ground.data }], guard := none }) (v := ?_) rfl (by kernel_rfl) (by kernel_rfl) (by kernel_rfl) (fun _ _ _ h => h) (Or.inl ⟨by rfl, ?_⟩) (by assumption) ?_
                rotate_left
                · (intro w hSw; (try dsimp only at hSw); first | (go_simp; done) | (go_simp; with_reducible rfl) | (go_simp; rw [if_neg (by omega)]))
                try simp only [Act.put, List.setIfInBounds_toArray, List.set_cons_zero, List.set_cons_succ]
                refine wpAnyH_take (i := 8) (oi := { dst := some 41, op := Go.Op.load 3 (Go.Operand.tmp 40), type := 3, pos := "l10_proofs.go:111", after := #[{ on := 7, ground := Go.Ground.data }], guard := none }) (v := ?_) rfl (by kernel_rfl) (by kernel_rfl) (by kernel_rfl) (fun _ _ _ h => h) (Or.inl ⟨by rfl, ?_⟩) (by assumption) ?_
                rotate_left
                · (intro w hSw; (try dsimp only at hSw); first | (go_simp; done) | (go_simp; with_reducible rfl) | (go_simp; rw [if_neg (by omega)]))
                try simp only [Act.put, List.setIfInBounds_toArray, List.set_cons_zero, List.set_cons_succ]
                refine wpAnyH_take (i := 12) (oi := { dst := some 45, op := Go.Op.move (Go.Operand.tmp 0), type := 49, pos := "l10_proofs.go:111", after := #[], guard := none }) (v := ?_) rfl (by kernel_rfl) (by kernel_rfl) (by kernel_rfl) (fun _ _ _ h => h) (Or.inl ⟨by rfl, ?_⟩) (by assumption) ?_
                rotate_left
                · (intro w hSw; (try dsimp only at hSw); first | (go_simp; done) | (go_simp; with_reducible rfl) | (go_simp; rw [if_neg (by omega)]))
                try simp only [Act.put, List.setIfInBounds_toArray, List.set_cons_zero, List.set_cons_succ]
                refine wpAnyH_take (i := 13) (oi := { dst := some 46, op := Go.Op.move (Go.Operand.tmp 4), type := 3, pos := "l10_proofs.go:111", after := #[], guard := none }) (v := ?_) rfl (by kernel_rfl) (by kernel_rfl) (by kernel_rfl) (fun _ _ _ h => h) (Or.inl ⟨by rfl, ?_⟩) (by assumption) ?_
                rotate_left
                · (intro w hSw; (try dsimp only at hSw); first | (go_simp; done) | (go_simp; with_reducible rfl) | (go_simp; rw [if_neg (by omega)]))
                try simp only [Act.put, List.setIfInBounds_toArray, List.set_cons_zero, List.set_cons_succ]
                refine wpAnyH_take (i := 14) (oi := { dst := some 47, op := Go.Op.indexAddr 49 (Go.Operand.tmp 45) (Go.Operand.tmp 46), type := 0, pos := "l10_proofs.go:111", after := #[{ on := 12, ground := Go.Ground.data }, { on := 13, ground := Go.Ground.data }], guard := none }) (v := ?_) rfl (by kernel_rfl) (by kernel_rfl) (by kernel_rfl) (fun _ _ _ h => h) (Or.inl ⟨by rfl, ?_⟩) (by assumption) ?_
                rotate_left
                · (intro w hSw; (try dsimp only at hSw); first | (go_simp; done) | (go_simp; with_reducible rfl) | (go_simp; rw [if_neg (by omega)]))
                try simp only [Act.put, List.setIfInBounds_toArray, List.set_cons_zero, List.set_cons_succ]
                refine wpAnyH_take (i := 15) (oi := { dst := some 48, op := Go.Op.fieldAddr 75 (Go.Operand.tmp 47) 0, type := 0, pos := "l10_proofs.go:111", after := #[{ on := 14, ground := Go.Ground.data }], guard := none }) (v := ?_) rfl (by kernel_rfl) (by kernel_rfl) (by kernel_rfl) (fun _ _ _ h => h) (Or.inl ⟨by rfl, ?_⟩) (by assumption) ?_
                rotate_left
                · (intro w hSw; (try dsimp only at hSw); first | (go_simp; done) | (go_simp; with_reducible rfl) | (go_simp; rw [if_neg (by omega)]))
                try simp only [Act.put, List.setIfInBounds_toArray, List.set_cons_zero, List.set_cons_succ]
                refine wpAnyH_take (i := 16) (oi := { dst := some 49, op := Go.Op.load 71 (Go.Operand.tmp 48), type := 71, pos := "l10_proofs.go:111", after := #[{ on := 15, ground := Go.Ground.data }], guard := none }) (v := ?_) rfl (by kernel_rfl) (by kernel_rfl) (by kernel_rfl) (fun _ _ _ h => h) (Or.inl ⟨by rfl, ?_⟩) (by assumption) ?_
                rotate_left
                · (intro w hSw; (try dsimp only at hSw); first | (go_simp; done) | (go_simp; with_reducible rfl) | (go_simp; rw [if_neg (by omega)]))
                try simp only [Act.put, List.setIfInBounds_toArray, List.set_cons_zero, List.set_cons_succ]
                refine wpAnyH_take (i := 17) (oi := { dst := some 50, op := Go.Op.move (Go.Operand.tmp 5), type := 3, pos := "l10_proofs.go:111", after := #[], guard := none }) (v := ?_) rfl (by kernel_rfl) (by kernel_rfl) (by kernel_rfl) (fun _ _ _ h => h) (Or.inl ⟨by rfl, ?_⟩) (by assumption) ?_
                rotate_left
                · (intro w hSw; (try dsimp only at hSw); first | (go_simp; done) | (go_simp; with_reducible rfl) | (go_simp; rw [if_neg (by omega)]))
                try simp only [Act.put, List.setIfInBounds_toArray, List.set_cons_zero, List.set_cons_succ]
                refine wpAnyH_take (i := 18) (oi := { dst := some 51, op := Go.Op.indexAddr 71 (Go.Operand.tmp 49) (Go.Operand.tmp 50), type := 0, pos := "l10_proofs.go:111", after := #[{ on := 16, ground := Go.Ground.data }, { on := 17, ground := Go.Ground.data }], guard := none }) (v := ?_) rfl (by kernel_rfl) (by kernel_rfl) (by kernel_rfl) (fun _ _ _ h => h) (Or.inl ⟨by rfl, ?_⟩) (by assumption) ?_
                rotate_left
                · (intro w hSw; (try dsimp only at hSw); first | (go_simp; done) | (go_simp; with_reducible rfl) | (go_simp; rw [if_neg (by omega)]))
                try simp only [Act.put, List.setIfInBounds_toArray, List.set_cons_zero, List.set_cons_succ]
                refine wpAnyH_take (i := 19) (oi := { dst := some 52, op := Go.Op.load 3 (Go.Operand.tmp 51), type := 3, pos := "l10_proofs.go:111", after := #[{ on := 18, ground := Go.Ground.data }], guard := none }) (v := ?_) rfl (by kernel_rfl) (by kernel_rfl) (by kernel_rfl) (fun _ _ _ h => h) (Or.inl ⟨by rfl, ?_⟩) (by assumption) ?_
                rotate_left
                · (intro w hSw; (try dsimp only at hSw); first | (go_simp; done) | (go_simp; with_reducible rfl) | (go_simp; rw [if_neg (by omega)]))
                try simp only [Act.put, List.setIfInBounds_toArray, List.set_cons_zero, List.set_cons_succ]
                refine wpAnyH_ready (rs := [9]) (by kernel_rfl) (by simp) ?_
                refine AllReadyH.cons (o := { dst := some 42, op := Go.Op.call { callee := Go.Callee.value (Go.Operand.func 39), args := #[Go.Operand.tmp 41], argTypes := #[3] }, type := 9, pos := "l10_proofs.go:111", after := #[{ on := 8, ground := Go.Ground.data }], guard := none }) rfl (fun K hK => ?_) AllReadyH.nil
                go_simp
                (go_at_call 39; refine (HI1.out _).mono ?_; rintro e w5 ⟨rfl, hb5⟩; have hbb5 := below_on (w := W4) (by go_grown) hb5; have hsb5 : W4.heap.size ≤ w5.heap.size := hbb5.size)
                (try go_wp2_with fail)
                refine hK.out _ _ ?_ (fun hHeld => ?_)
                · try dsimp only
                  exact keepFp hb4 d0 d1 hbf4 e0 hbt4 e1 (by go_grown)
                clear hK K
                try simp only [Act.put, List.setIfInBounds_toArray, List.set_cons_zero, List.set_cons_succ]
                refine wpAnyH_take (i := 10) (oi := { dst := some 43, op := Go.Op.binOp Go.BinOp.add 9 (Go.Operand.tmp 33) (Go.Operand.tmp 42) 9, type := 9, pos := "l10_proofs.go:111", after := #[{ on := 0, ground := Go.Ground.data }, { on := 9, ground := Go.Ground.data }], guard := none }) (v := ?_) rfl (by kernel_rfl) (by kernel_rfl) (by kernel_rfl) (fun _ _ _ h => h) (Or.inl ⟨by rfl, ?_⟩) (by assumption) ?_
                rotate_left
                · (intro w hSw; (try dsimp only at hSw); first | (go_simp; done) | (go_simp; with_reducible rfl) | (go_simp; rw [if_neg (by omega)]))
                try simp only [Act.put, List.setIfInBounds_toArray, List.set_cons_zero, List.set_cons_succ]
                refine wpAnyH_take (i := 11) (oi := { dst := some 44, op := Go.Op.binOp Go.BinOp.add 9 (Go.Operand.tmp 43) (Go.Operand.const (Go.Value.string { data := #[120] })) 9, type := 9, pos := "l10_proofs.go:111", after := #[{ on := 10, ground := Go.Ground.data }], guard := none }) (v := ?_) rfl (by kernel_rfl) (by kernel_rfl) (by kernel_rfl) (fun _ _ _ h => h) (Or.inl ⟨by rfl, ?_⟩) (by assumption) ?_
                rotate_left
                · (intro w hSw; (try dsimp only at hSw); first | (go_simp; done) | (go_simp; with_reducible rfl) | (go_simp; rw [if_neg (by omega)]))
                try simp only [Act.put, List.setIfInBounds_toArray, List.set_cons_zero, List.set_cons_succ]
                refine wpAnyH_ready (rs := [20]) (by kernel_rfl) (by simp) ?_
                refine AllReadyH.cons (o := { dst := some 53, op := Go.Op.call { callee := Go.Callee.value (Go.Operand.func 39), args := #[Go.Operand.tmp 52], argTypes := #[3] }, type := 9, pos := "l10_proofs.go:111", after := #[{ on := 19, ground := Go.Ground.data }, { on := 9, ground := Go.Ground.chain }], guard := none }) rfl (fun K hK => ?_) AllReadyH.nil
                go_simp
                (go_at_call 39; refine (HI2.out _).mono ?_; rintro e w6 ⟨rfl, hb6⟩; have hbb6 := below_on (w := W4) (by go_grown) hb6; have hsb6 : W4.heap.size ≤ w6.heap.size := hbb6.size)
                (try go_wp2_with fail)
                refine hK.out _ _ ?_ (fun hHeld => ?_)
                · try dsimp only
                  exact keepFp hb4 d0 d1 hbf4 e0 hbt4 e1 (by go_grown)
                clear hK K
                try simp only [Act.put, List.setIfInBounds_toArray, List.set_cons_zero, List.set_cons_succ]
                refine wpAnyH_take (i := 21) (oi := { dst := some 54, op := Go.Op.binOp Go.BinOp.add 9 (Go.Operand.tmp 44) (Go.Operand.tmp 53) 9, type := 9, pos := "l10_proofs.go:111", after := #[{ on := 11, ground := Go.Ground.data }, { on := 20, ground := Go.Ground.data }], guard := none }) (v := ?_) rfl (by kernel_rfl) (by kernel_rfl) (by kernel_rfl) (fun _ _ _ h => h) (Or.inl ⟨by rfl, ?_⟩) (by assumption) ?_
                rotate_left
                · (intro w hSw; (try dsimp only at hSw); first | (go_simp; done) | (go_simp; with_reducible rfl) | (go_simp; rw [if_neg (by omega)]))
                try simp only [Act.put, List.setIfInBounds_toArray, List.set_cons_zero, List.set_cons_succ]
                refine wpAnyH_take (i := 22) (oi := { dst := some 3, op := Go.Op.assign (Go.Operand.tmp 54), type := 9, pos := "l10_proofs.go:111", after := #[{ on := 21, ground := Go.Ground.data }, { on := 20, ground := Go.Ground.chain }, { on := 0, ground := Go.Ground.phase }, { on := 1, ground := Go.Ground.phase }, { on := 2, ground := Go.Ground.phase }, { on := 3, ground := Go.Ground.phase }, { on := 4, ground := Go.Ground.phase }, { on := 5, ground := Go.Ground.phase }, { on := 6, ground := Go.Ground.phase }, { on := 7, ground := Go.Ground.phase }, { on := 8, ground := Go.Ground.phase }, { on := 9, ground := Go.Ground.phase }, { on := 10, ground := Go.Ground.phase }, { on := 11, ground := Go.Ground.phase }, { on := 12, ground := Go.Ground.phase }, { on := 13, ground := Go.Ground.phase }, { on := 14, ground := Go.Ground.phase }, { on := 15, ground := Go.Ground.phase }, { on := 16, ground := Go.Ground.phase }, { on := 17, ground := Go.Ground.phase }, { on := 18, ground := Go.Ground.phase }, { on := 19, ground := Go.Ground.phase }, { on := 20, ground := Go.Ground.phase }, { on := 21, ground := Go.Ground.phase }], guard := none }) (v := ?_) rfl (by kernel_rfl) (by kernel_rfl) (by kernel_rfl) (fun _ _ _ h => h) (Or.inl ⟨by rfl, ?_⟩) (by assumption) ?_
                rotate_left
                · (intro w hSw; (try dsimp only at hSw); first | (go_simp; done) | (go_simp; with_reducible rfl) | (go_simp; rw [if_neg (by omega)]))
                try simp only [Act.put, List.setIfInBounds_toArray, List.set_cons_zero, List.set_cons_succ]
                refine wpAnyH_done (by kernel_rfl) ?_ _
                have HB5 := Lib.hid (below_on HBI.out (show Below W4.heap.size W4 _ from by first | exact hbb6 | go_grown))
                clear d0 d1 e0 e1 hHeld
                go_wp2
                go_roundw
                case rel => exact ⟨k + 1, by go_num, by omega, by rw [HX.out, ← HPR.out]; simp, HB5.out⟩
                case measure => simp [intOf]; omega
            · have hk2 : ¬ (k : Int) < (m : Int) := by omega
              have hT : ([] : List UInt8) ++ skT x k = jpT (LL.take (i + 1)) := by
                obtain rfl : k = m := by omega
                rw [← HM.out, skT_all HOK.out.2.1]
                have e := HX0.out (by have h0 := HY.out; rwa [HI0.out] at h0)
                rw [HI0.out]
                rw [e]; simp
              rw [hT]
              obtain ⟨Z, hZ⟩ : ∃ Z, jpT (LL.take (i + 1)) = Z := ⟨_, rfl⟩
              have HZ := Lib.hid hZ
              rw [hZ]
              have HB4 := Lib.hid (below_on HB.out hbi)
              clear hT hZ hbi
              go_wp2
              go_roundw
              case rel => exact ⟨i + 1, by go_num, by omega, by rw [HZ.out], HB4.out⟩
              case measure => simp [intOf]; omega
        · have hi1 : (0 : Int) < (i : Int) := by omega
          have hi2 : decide (0 < i) = true := by simp; omega
          go_wp2_with fail
          go_loopw [3, 5] (fun v i wr => FpI x (P ++ [32]) m W3 v i wr) (fun _ i _ => m - (intOf i).toNat)
          case atStart => exact ⟨0, rfl, Nat.zero_le _, by rw [skT_zero]; simp, Below.refl _ _⟩
          case round =>
            obtain ⟨k, rfl, hkm, rfl, hbi⟩ := hrel
            rename World => W4
            have HBI := Lib.hid hbi
            have d0 : W4.cell? ⟨b, i * 2, none⟩ = _ := (hbi.cell (p := ⟨b, i * 2, none⟩) hbl3).trans c0
            have d1 : W4.cell? ⟨b, i * 2 + 1, none⟩ = _ := (hbi.cell (p := ⟨b, i * 2 + 1, none⟩) hbl3).trans c1
            by_cases hkl : k < m
            · have hk2 : (k : Int) < (m : Int) := by omega
              have hkz : (0 : Int) ≤ k := by omega
              obtain ⟨n1, hn1⟩ : ∃ n1, x.f[k]? = some n1 := ⟨_, List.getElem?_eq_getElem (by rw [HM.out]; exact hkl)⟩
              obtain ⟨u1, hu1⟩ : ∃ u1, x.t[k]? = some u1 := ⟨_, List.getElem?_eq_getElem (by rw [HM2.out]; exact hkl)⟩
              have e0 : W4.cell? ⟨bf, of + k, none⟩ = some (.int .i64 n1) := (hbi.cell (p := ⟨bf, of + k, none⟩) hbf).trans (HCF.out k n1 hn1)
              have e1 : W4.cell? ⟨bt, ot + k, none⟩ = some (.int .i64 u1) := (hbi.cell (p := ⟨bt, ot + k, none⟩) hbt).trans (HCT.out k u1 hu1)
              have hb4 : b < W4.heap.size := Nat.lt_of_lt_of_le hbl3 hbi.size
              have hbf4 : bf < W4.heap.size := Nat.lt_of_lt_of_le hbf hbi.size
              have hbt4 : bt < W4.heap.size := Nat.lt_of_lt_of_le hbt hbi.size
              obtain ⟨g0, g1, g2, g3⟩ := HOK.out.2.2.2 k n1 u1 hn1 hu1
              have hl1 := Lib.itoa_length_le n1 (by omega) (by omega)
              have hl2 := Lib.itoa_length_le u1 (by omega) (by omega)
              have HI1 := Lib.hid fun W => l17Dec_any u1 W (by omega) (by omega)
              have HI2 := Lib.hid fun W => l17Dec_any n1 W (by omega) (by omega)
              have HPR := Lib.hid (show Lib.itoa u1 ++ 120 :: Lib.itoa n1 = prT n1 u1 by simp [prT])
              obtain ⟨A, hA⟩ : ∃ A, Lib.itoa u1 = A := ⟨_, rfl⟩
              obtain ⟨C, hC⟩ : ∃ C, Lib.itoa n1 = C := ⟨_, rfl⟩
              rw [hA] at hl2 HI1 HPR
              rw [hC] at hl1 HI2 HPR
              clear hA hC g0 g1 g2 g3
              by_cases hk0' : k = 0
              · have hJ0 : skT x k = [] := by rw [hk0']; exact skT_zero x
                have HX := Lib.hid (show skT x (k + 1) = prT n1 u1 by rw [hk0']; exact skT_one (by rwa [hk0'] at hn1) (by rwa [hk0'] at hu1))
                have hkd : decide ((k : Int) > 0) = false := by rw [decide_eq_false_iff_not]; omega
                have hkd2 : decide (0 < k) = false := by rw [decide_eq_false_iff_not]; omega
                have hk1 : ¬ (0 : Int) < (k : Int) := by omega
                rw [hJ0, List.append_nil]
                clear hJ0
                clear hn1 hu1 hk0' hbi c0 c1
                go_wp2_with fail
                refine wp_region_held_drew (S := (fun w' => Below W4.heap.size W4 w' ∧ w'.cell? ⟨b, i * 2, none⟩ = some (.slice (some ⟨bf, of, none⟩) m q1) ∧ w'.cell? ⟨b, i * 2 + 1, none⟩ = some (.slice (some ⟨bt, ot, none⟩) m q2) ∧ w'.cell? ⟨bf, of + k, none⟩ = some (.int .i64 n1) ∧ w'.cell? ⟨bt, ot + k, none⟩ = some (.int .i64 u1))) (by kernel_rfl) ?_ (fun hHeld => ?_)
                · try dsimp only
                  exact keepFp hb4 d0 d1 hbf4 e0 hbt4 e1 (by go_grown)
                refine wpAnyH_take (i := 0) (oi := { dst := some 33, op := Go.Op.move (Go.Operand.tmp 3), type := 9, pos := "l10_proofs.go:111", after := #[], guard := none }) (v := ?_) rfl (by kernel_rfl) (by kernel_rfl) (by kernel_rfl) (fun _ _ _ h => h) (Or.inl ⟨by rfl, ?_⟩) (by assumption) ?_
                rotate_left
                · (intro w hSw; (try dsimp only at hSw); first | (go_simp; done) | (go_simp; with_reducible rfl) | (go_simp; rw [if_neg (by omega)]))
                try simp only [Act.put, List.setIfInBounds_toArray, List.set_cons_zero, List.set_cons_succ]
                refine wpAnyH_take (i := 1) (oi := { dst := some 34, op := Go.Op.move (Go.Operand.tmp 0), type := 49, pos := "l10_proofs.go:111", after := #[], guard := none }) (v := ?_) rfl (by kernel_rfl) (by kernel_rfl) (by kernel_rfl) (fun _ _ _ h => h) (Or.inl ⟨by rfl, ?_⟩) (by assumption) ?_
                rotate_left
                · (intro w hSw; (try dsimp only at hSw); first | (go_simp; done) | (go_simp; with_reducible rfl) | (go_simp; rw [if_neg (by omega)]))
                try simp only [Act.put, List.setIfInBounds_toArray, List.set_cons_zero, List.set_cons_succ]
                refine wpAnyH_take (i := 2) (oi := { dst := some 35, op := Go.Op.move (Go.Operand.tmp 4), type := 3, pos := "l10_proofs.go:111", after := #[], guard := none }) (v := ?_) rfl (by kernel_rfl) (by kernel_rfl) (by kernel_rfl) (fun _ _ _ h => h) (Or.inl ⟨by rfl, ?_⟩) (by assumption) ?_
                rotate_left
                · (intro w hSw; (try dsimp only at hSw); first | (go_simp; done) | (go_simp; with_reducible rfl) | (go_simp; rw [if_neg (by omega)]))
                try simp only [Act.put, List.setIfInBounds_toArray, List.set_cons_zero, List.set_cons_succ]
                refine wpAnyH_take (i := 3) (oi := { dst := some 36, op := Go.Op.indexAddr 49 (Go.Operand.tmp 34) (Go.Operand.tmp 35), type := 0, pos := "l10_proofs.go:111", after := #[{ on := 1, ground := Go.Ground.data }, { on := 2, ground := Go.Ground.data }], guard := none }) (v := ?_) rfl (by kernel_rfl) (by kernel_rfl) (by kernel_rfl) (fun _ _ _ h => h) (Or.inl ⟨by rfl, ?_⟩) (by assumption) ?_
                rotate_left
                · (intro w hSw; (try dsimp only at hSw); first | (go_simp; done) | (go_simp; with_reducible rfl) | (go_simp; rw [if_neg (by omega)]))
                try simp only [Act.put, List.setIfInBounds_toArray, List.set_cons_zero, List.set_cons_succ]
                refine wpAnyH_take (i := 4) (oi := { dst := some 37, op := Go.Op.fieldAddr 75 (Go.Operand.tmp 36) 1, type := 0, pos := "l10_proofs.go:111", after := #[{ on := 3, ground := Go.Ground.data }], guard := none }) (v := ?_) rfl (by kernel_rfl) (by kernel_rfl) (by kernel_rfl) (fun _ _ _ h => h) (Or.inl ⟨by rfl, ?_⟩) (by assumption) ?_
                rotate_left
                · (intro w hSw; (try dsimp only at hSw); first | (go_simp; done) | (go_simp; with_reducible rfl) | (go_simp; rw [if_neg (by omega)]))
                try simp only [Act.put, List.setIfInBounds_toArray, List.set_cons_zero, List.set_cons_succ]
                refine wpAnyH_take (i := 5) (oi := { dst := some 38, op := Go.Op.load 71 (Go.Operand.tmp 37), type := 71, pos := "l10_proofs.go:111", after := #[{ on := 4, ground := Go.Ground.data }], guard := none }) (v := ?_) rfl (by kernel_rfl) (by kernel_rfl) (by kernel_rfl) (fun _ _ _ h => h) (Or.inl ⟨by rfl, ?_⟩) (by assumption) ?_
                rotate_left
                · (intro w hSw; (try dsimp only at hSw); first | (go_simp; done) | (go_simp; with_reducible rfl) | (go_simp; rw [if_neg (by omega)]))
                try simp only [Act.put, List.setIfInBounds_toArray, List.set_cons_zero, List.set_cons_succ]
                refine wpAnyH_take (i := 6) (oi := { dst := some 39, op := Go.Op.move (Go.Operand.tmp 5), type := 3, pos := "l10_proofs.go:111", after := #[], guard := none }) (v := ?_) rfl (by kernel_rfl) (by kernel_rfl) (by kernel_rfl) (fun _ _ _ h => h) (Or.inl ⟨by rfl, ?_⟩) (by assumption) ?_
                rotate_left
                · (intro w hSw; (try dsimp only at hSw); first | (go_simp; done) | (go_simp; with_reducible rfl) | (go_simp; rw [if_neg (by omega)]))
                try simp only [Act.put, List.setIfInBounds_toArray, List.set_cons_zero, List.set_cons_succ]
                refine wpAnyH_take (i := 7) (oi := { dst := some 40, op := Go.Op.indexAddr 71 (Go.Operand.tmp 38) (Go.Operand.tmp 39), type := 0, pos := "l10_proofs.go:111", after := #[{ on := 5, ground := Go.Ground.data }, { on := 6, ground := Go.Ground.data }], guard := none }) (v := ?_) rfl (by kernel_rfl) (by kernel_rfl) (by kernel_rfl) (fun _ _ _ h => h) (Or.inl ⟨by rfl, ?_⟩) (by assumption) ?_
                rotate_left
                · (intro w hSw; (try dsimp only at hSw); first | (go_simp; done) | (go_simp; with_reducible rfl) | (go_simp; rw [if_neg (by omega)]))
                try simp only [Act.put, List.setIfInBounds_toArray, List.set_cons_zero, List.set_cons_succ]
                refine wpAnyH_take (i := 8) (oi := { dst := some 41, op := Go.Op.load 3 (Go.Operand.tmp 40), type := 3, pos := "l10_proofs.go:111", after := #[{ on := 7, ground := Go.Ground.data }], guard := none }) (v := ?_) rfl (by kernel_rfl) (by kernel_rfl) (by kernel_rfl) (fun _ _ _ h => h) (Or.inl ⟨by rfl, ?_⟩) (by assumption) ?_
                rotate_left
                · (intro w hSw; (try dsimp only at hSw); first | (go_simp; done) | (go_simp; with_reducible rfl) | (go_simp; rw [if_neg (by omega)]))
                try simp only [Act.put, List.setIfInBounds_toArray, List.set_cons_zero, List.set_cons_succ]
                refine wpAnyH_take (i := 12) (oi := { dst := some 45, op := Go.Op.move (Go.Operand.tmp 0), type := 49, pos := "l10_proofs.go:111", after := #[], guard := none }) (v := ?_) rfl (by kernel_rfl) (by kernel_rfl) (by kernel_rfl) (fun _ _ _ h => h) (Or.inl ⟨by rfl, ?_⟩) (by assumption) ?_
                rotate_left
                · (intro w hSw; (try dsimp only at hSw); first | (go_simp; done) | (go_simp; with_reducible rfl) | (go_simp; rw [if_neg (by omega)]))
                try simp only [Act.put, List.setIfInBounds_toArray, List.set_cons_zero, List.set_cons_succ]
                refine wpAnyH_take (i := 13) (oi := { dst := some 46, op := Go.Op.move (Go.Operand.tmp 4), type := 3, pos := "l10_proofs.go:111", after := #[], guard := none }) (v := ?_) rfl (by kernel_rfl) (by kernel_rfl) (by kernel_rfl) (fun _ _ _ h => h) (Or.inl ⟨by rfl, ?_⟩) (by assumption) ?_
                rotate_left
                · (intro w hSw; (try dsimp only at hSw); first | (go_simp; done) | (go_simp; with_reducible rfl) | (go_simp; rw [if_neg (by omega)]))
                try simp only [Act.put, List.setIfInBounds_toArray, List.set_cons_zero, List.set_cons_succ]
                refine wpAnyH_take (i := 14) (oi := { dst := some 47, op := Go.Op.indexAddr 49 (Go.Operand.tmp 45) (Go.Operand.tmp 46), type := 0, pos := "l10_proofs.go:111", after := #[{ on := 12, ground := Go.Ground.data }, { on := 13, ground := Go.Ground.data }], guard := none }) (v := ?_) rfl (by kernel_rfl) (by kernel_rfl) (by kernel_rfl) (fun _ _ _ h => h) (Or.inl ⟨by rfl, ?_⟩) (by assumption) ?_
                rotate_left
                · (intro w hSw; (try dsimp only at hSw); first | (go_simp; done) | (go_simp; with_reducible rfl) | (go_simp; rw [if_neg (by omega)]))
                try simp only [Act.put, List.setIfInBounds_toArray, List.set_cons_zero, List.set_cons_succ]
                refine wpAnyH_take (i := 15) (oi := { dst := some 48, op := Go.Op.fieldAddr 75 (Go.Operand.tmp 47) 0, type := 0, pos := "l10_proofs.go:111", after := #[{ on := 14, ground := Go.Ground.data }], guard := none }) (v := ?_) rfl (by kernel_rfl) (by kernel_rfl) (by kernel_rfl) (fun _ _ _ h => h) (Or.inl ⟨by rfl, ?_⟩) (by assumption) ?_
                rotate_left
                · (intro w hSw; (try dsimp only at hSw); first | (go_simp; done) | (go_simp; with_reducible rfl) | (go_simp; rw [if_neg (by omega)]))
                try simp only [Act.put, List.setIfInBounds_toArray, List.set_cons_zero, List.set_cons_succ]
                refine wpAnyH_take (i := 16) (oi := { dst := some 49, op := Go.Op.load 71 (Go.Operand.tmp 48), type := 71, pos := "l10_proofs.go:111", after := #[{ on := 15, ground := Go.Ground.data }], guard := none }) (v := ?_) rfl (by kernel_rfl) (by kernel_rfl) (by kernel_rfl) (fun _ _ _ h => h) (Or.inl ⟨by rfl, ?_⟩) (by assumption) ?_
                rotate_left
                · (intro w hSw; (try dsimp only at hSw); first | (go_simp; done) | (go_simp; with_reducible rfl) | (go_simp; rw [if_neg (by omega)]))
                try simp only [Act.put, List.setIfInBounds_toArray, List.set_cons_zero, List.set_cons_succ]
                refine wpAnyH_take (i := 17) (oi := { dst := some 50, op := Go.Op.move (Go.Operand.tmp 5), type := 3, pos := "l10_proofs.go:111", after := #[], guard := none }) (v := ?_) rfl (by kernel_rfl) (by kernel_rfl) (by kernel_rfl) (fun _ _ _ h => h) (Or.inl ⟨by rfl, ?_⟩) (by assumption) ?_
                rotate_left
                · (intro w hSw; (try dsimp only at hSw); first | (go_simp; done) | (go_simp; with_reducible rfl) | (go_simp; rw [if_neg (by omega)]))
                try simp only [Act.put, List.setIfInBounds_toArray, List.set_cons_zero, List.set_cons_succ]
                refine wpAnyH_take (i := 18) (oi := { dst := some 51, op := Go.Op.indexAddr 71 (Go.Operand.tmp 49) (Go.Operand.tmp 50), type := 0, pos := "l10_proofs.go:111", after := #[{ on := 16, ground := Go.Ground.data }, { on := 17, ground := Go.Ground.data }], guard := none }) (v := ?_) rfl (by kernel_rfl) (by kernel_rfl) (by kernel_rfl) (fun _ _ _ h => h) (Or.inl ⟨by rfl, ?_⟩) (by assumption) ?_
                rotate_left
                · (intro w hSw; (try dsimp only at hSw); first | (go_simp; done) | (go_simp; with_reducible rfl) | (go_simp; rw [if_neg (by omega)]))
                try simp only [Act.put, List.setIfInBounds_toArray, List.set_cons_zero, List.set_cons_succ]
                refine wpAnyH_take (i := 19) (oi := { dst := some 52, op := Go.Op.load 3 (Go.Operand.tmp 51), type := 3, pos := "l10_proofs.go:111", after := #[{ on := 18, ground := Go.Ground.data }], guard := none }) (v := ?_) rfl (by kernel_rfl) (by kernel_rfl) (by kernel_rfl) (fun _ _ _ h => h) (Or.inl ⟨by rfl, ?_⟩) (by assumption) ?_
                rotate_left
                · (intro w hSw; (try dsimp only at hSw); first | (go_simp; done) | (go_simp; with_reducible rfl) | (go_simp; rw [if_neg (by omega)]))
                try simp only [Act.put, List.setIfInBounds_toArray, List.set_cons_zero, List.set_cons_succ]
                refine wpAnyH_ready (rs := [9]) (by kernel_rfl) (by simp) ?_
                refine AllReadyH.cons (o := { dst := some 42, op := Go.Op.call { callee := Go.Callee.value (Go.Operand.func 39), args := #[Go.Operand.tmp 41], argTypes := #[3] }, type := 9, pos := "l10_proofs.go:111", after := #[{ on := 8, ground := Go.Ground.data }], guard := none }) rfl (fun K hK => ?_) AllReadyH.nil
                go_simp
                (go_at_call 39; refine (HI1.out _).mono ?_; rintro e w5 ⟨rfl, hb5⟩; have hbb5 := below_on (w := W4) (by go_grown) hb5; have hsb5 : W4.heap.size ≤ w5.heap.size := hbb5.size)
                (try go_wp2_with fail)
                refine hK.out _ _ ?_ (fun hHeld => ?_)
                · try dsimp only
                  exact keepFp hb4 d0 d1 hbf4 e0 hbt4 e1 (by go_grown)
                clear hK K
                try simp only [Act.put, List.setIfInBounds_toArray, List.set_cons_zero, List.set_cons_succ]
                refine wpAnyH_take (i := 10) (oi := { dst := some 43, op := Go.Op.binOp Go.BinOp.add 9 (Go.Operand.tmp 33) (Go.Operand.tmp 42) 9, type := 9, pos := "l10_proofs.go:111", after := #[{ on := 0, ground := Go.Ground.data }, { on := 9, ground := Go.Ground.data }], guard := none }) (v := ?_) rfl (by kernel_rfl) (by kernel_rfl) (by kernel_rfl) (fun _ _ _ h => h) (Or.inl ⟨by rfl, ?_⟩) (by assumption) ?_
                rotate_left
                · (intro w hSw; (try dsimp only at hSw); first | (go_simp; done) | (go_simp; with_reducible rfl) | (go_simp; rw [if_neg (by omega)]))
                try simp only [Act.put, List.setIfInBounds_toArray, List.set_cons_zero, List.set_cons_succ]
                refine wpAnyH_take (i := 11) (oi := { dst := some 44, op := Go.Op.binOp Go.BinOp.add 9 (Go.Operand.tmp 43) (Go.Operand.const (Go.Value.string { data := #[120] })) 9, type := 9, pos := "l10_proofs.go:111", after := #[{ on := 10, ground := Go.Ground.data }], guard := none }) (v := ?_) rfl (by kernel_rfl) (by kernel_rfl) (by kernel_rfl) (fun _ _ _ h => h) (Or.inl ⟨by rfl, ?_⟩) (by assumption) ?_
                rotate_left
                · (intro w hSw; (try dsimp only at hSw); first | (go_simp; done) | (go_simp; with_reducible rfl) | (go_simp; rw [if_neg (by omega)]))
                try simp only [Act.put, List.setIfInBounds_toArray, List.set_cons_zero, List.set_cons_succ]
                refine wpAnyH_ready (rs := [20]) (by kernel_rfl) (by simp) ?_
                refine AllReadyH.cons (o := { dst := some 53, op := Go.Op.call { callee := Go.Callee.value (Go.Operand.func 39), args := #[Go.Operand.tmp 52], argTypes := #[3] }, type := 9, pos := "l10_proofs.go:111", after := #[{ on := 19, ground := Go.Ground.data }, { on := 9, ground := Go.Ground.chain }], guard := none }) rfl (fun K hK => ?_) AllReadyH.nil
                go_simp
                (go_at_call 39; refine (HI2.out _).mono ?_; rintro e w6 ⟨rfl, hb6⟩; have hbb6 := below_on (w := W4) (by go_grown) hb6; have hsb6 : W4.heap.size ≤ w6.heap.size := hbb6.size)
                (try go_wp2_with fail)
                refine hK.out _ _ ?_ (fun hHeld => ?_)
                · try dsimp only
                  exact keepFp hb4 d0 d1 hbf4 e0 hbt4 e1 (by go_grown)
                clear hK K
                try simp only [Act.put, List.setIfInBounds_toArray, List.set_cons_zero, List.set_cons_succ]
                refine wpAnyH_take (i := 21) (oi := { dst := some 54, op := Go.Op.binOp Go.BinOp.add 9 (Go.Operand.tmp 44) (Go.Operand.tmp 53) 9, type := 9, pos := "l10_proofs.go:111", after := #[{ on := 11, ground := Go.Ground.data }, { on := 20, ground := Go.Ground.data }], guard := none }) (v := ?_) rfl (by kernel_rfl) (by kernel_rfl) (by kernel_rfl) (fun _ _ _ h => h) (Or.inl ⟨by rfl, ?_⟩) (by assumption) ?_
                rotate_left
                · (intro w hSw; (try dsimp only at hSw); first | (go_simp; done) | (go_simp; with_reducible rfl) | (go_simp; rw [if_neg (by omega)]))
                try simp only [Act.put, List.setIfInBounds_toArray, List.set_cons_zero, List.set_cons_succ]
                refine wpAnyH_take (i := 22) (oi := { dst := some 3, op := Go.Op.assign (Go.Operand.tmp 54), type := 9, pos := "l10_proofs.go:111", after := #[{ on := 21, ground := Go.Ground.data }, { on := 20, ground := Go.Ground.chain }, { on := 0, ground := Go.Ground.phase }, { on := 1, ground := Go.Ground.phase }, { on := 2, ground := Go.Ground.phase }, { on := 3, ground := Go.Ground.phase }, { on := 4, ground := Go.Ground.phase }, { on := 5, ground := Go.Ground.phase }, { on := 6, ground := Go.Ground.phase }, { on := 7, ground := Go.Ground.phase }, { on := 8, ground := Go.Ground.phase }, { on := 9, ground := Go.Ground.phase }, { on := 10, ground := Go.Ground.phase }, { on := 11, ground := Go.Ground.phase }, { on := 12, ground := Go.Ground.phase }, { on := 13, ground := Go.Ground.phase }, { on := 14, ground := Go.Ground.phase }, { on := 15, ground := Go.Ground.phase }, { on := 16, ground := Go.Ground.phase }, { on := 17, ground := Go.Ground.phase }, { on := 18, ground := Go.Ground.phase }, { on := 19, ground := Go.Ground.phase }, { on := 20, ground := Go.Ground.phase }, { on := 21, ground := Go.Ground.phase }], guard := none }) (v := ?_) rfl (by kernel_rfl) (by kernel_rfl) (by kernel_rfl) (fun _ _ _ h => h) (Or.inl ⟨by rfl, ?_⟩) (by assumption) ?_
                rotate_left
                · (intro w hSw; (try dsimp only at hSw); first | (go_simp; done) | (go_simp; with_reducible rfl) | (go_simp; rw [if_neg (by omega)]))
                try simp only [Act.put, List.setIfInBounds_toArray, List.set_cons_zero, List.set_cons_succ]
                refine wpAnyH_done (by kernel_rfl) ?_ _
                have HB5 := Lib.hid (below_on HBI.out (show Below W4.heap.size W4 _ from by first | exact hbb6 | go_grown))
                clear d0 d1 e0 e1 hHeld
                go_wp2
                go_roundw
                case rel => exact ⟨k + 1, by go_num, by omega, by rw [HX.out, ← HPR.out]; simp, HB5.out⟩
                case measure => simp [intOf]; omega
              · obtain ⟨J, hJ⟩ : ∃ J, skT x k = J := ⟨_, rfl⟩
                have hJl : J.length ≤ 15300 := by rw [← hJ]; exact skT_len HOK.out k
                have HX := Lib.hid (show skT x (k + 1) = J ++ ([43] ++ prT n1 u1) by rw [skT_snoc hn1 hu1 (by omega), hJ])
                have hkd : decide ((k : Int) > 0) = true := by rw [decide_eq_true_iff]; omega
                have hkd2 : decide (0 < k) = true := by rw [decide_eq_true_iff]; omega
                have hk1 : (0 : Int) < (k : Int) := by omega
                rw [hJ]
                clear hJ
                clear hn1 hu1 hk0' hbi c0 c1
                go_wp2_with fail
                refine wp_region_held_drew (S := (fun w' => Below W4.heap.size W4 w' ∧ w'.cell? ⟨b, i * 2, none⟩ = some (.slice (some ⟨bf, of, none⟩) m q1) ∧ w'.cell? ⟨b, i * 2 + 1, none⟩ = some (.slice (some ⟨bt, ot, none⟩) m q2) ∧ w'.cell? ⟨bf, of + k, none⟩ = some (.int .i64 n1) ∧ w'.cell? ⟨bt, ot + k, none⟩ = some (.int .i64 u1))) (by kernel_rfl) ?_ (fun hHeld => ?_)
                · try dsimp only
                  exact keepFp hb4 d0 d1 hbf4 e0 hbt4 e1 (by go_grown)
                refine wpAnyH_take (i := 0) (oi := { dst := some 33, op := Go.Op.move (Go.Operand.tmp 3), type := 9, pos := "l10_proofs.go:111", after := #[], guard := none }) (v := ?_) rfl (by kernel_rfl) (by kernel_rfl) (by kernel_rfl) (fun _ _ _ h => h) (Or.inl ⟨by rfl, ?_⟩) (by assumption) ?_
                rotate_left
                · (intro w hSw; (try dsimp only at hSw); first | (go_simp; done) | (go_simp; with_reducible rfl) | (go_simp; rw [if_neg (by omega)]))
                try simp only [Act.put, List.setIfInBounds_toArray, List.set_cons_zero, List.set_cons_succ]
                refine wpAnyH_take (i := 1) (oi := { dst := some 34, op := Go.Op.move (Go.Operand.tmp 0), type := 49, pos := "l10_proofs.go:111", after := #[], guard := none }) (v := ?_) rfl (by kernel_rfl) (by kernel_rfl) (by kernel_rfl) (fun _ _ _ h => h) (Or.inl ⟨by rfl, ?_⟩) (by assumption) ?_
                rotate_left
                · (intro w hSw; (try dsimp only at hSw); first | (go_simp; done) | (go_simp; with_reducible rfl) | (go_simp; rw [if_neg (by omega)]))
                try simp only [Act.put, List.setIfInBounds_toArray, List.set_cons_zero, List.set_cons_succ]
                refine wpAnyH_take (i := 2) (oi := { dst := some 35, op := Go.Op.move (Go.Operand.tmp 4), type := 3, pos := "l10_proofs.go:111", after := #[], guard := none }) (v := ?_) rfl (by kernel_rfl) (by kernel_rfl) (by kernel_rfl) (fun _ _ _ h => h) (Or.inl ⟨by rfl, ?_⟩) (by assumption) ?_
                rotate_left
                · (intro w hSw; (try dsimp only at hSw); first | (go_simp; done) | (go_simp; with_reducible rfl) | (go_simp; rw [if_neg (by omega)]))
                try simp only [Act.put, List.setIfInBounds_toArray, List.set_cons_zero, List.set_cons_succ]
                refine wpAnyH_take (i := 3) (oi := { dst := some 36, op := Go.Op.indexAddr 49 (Go.Operand.tmp 34) (Go.Operand.tmp 35), type := 0, pos := "l10_proofs.go:111", after := #[{ on := 1, ground := Go.Ground.data }, { on := 2, ground := Go.Ground.data }], guard := none }) (v := ?_) rfl (by kernel_rfl) (by kernel_rfl) (by kernel_rfl) (fun _ _ _ h => h) (Or.inl ⟨by rfl, ?_⟩) (by assumption) ?_
                rotate_left
                · (intro w hSw; (try dsimp only at hSw); first | (go_simp; done) | (go_simp; with_reducible rfl) | (go_simp; rw [if_neg (by omega)]))
                try simp only [Act.put, List.setIfInBounds_toArray, List.set_cons_zero, List.set_cons_succ]
                refine wpAnyH_take (i := 4) (oi := { dst := some 37, op := Go.Op.fieldAddr 75 (Go.Operand.tmp 36) 1, type := 0, pos := "l10_proofs.go:111", after := #[{ on := 3, ground := Go.Ground.data }], guard := none }) (v := ?_) rfl (by kernel_rfl) (by kernel_rfl) (by kernel_rfl) (fun _ _ _ h => h) (Or.inl ⟨by rfl, ?_⟩) (by assumption) ?_
                rotate_left
                · (intro w hSw; (try dsimp only at hSw); first | (go_simp; done) | (go_simp; with_reducible rfl) | (go_simp; rw [if_neg (by omega)]))
                try simp only [Act.put, List.setIfInBounds_toArray, List.set_cons_zero, List.set_cons_succ]
                refine wpAnyH_take (i := 5) (oi := { dst := some 38, op := Go.Op.load 71 (Go.Operand.tmp 37), type := 71, pos := "l10_proofs.go:111", after := #[{ on := 4, ground := Go.Ground.data }], guard := none }) (v := ?_) rfl (by kernel_rfl) (by kernel_rfl) (by kernel_rfl) (fun _ _ _ h => h) (Or.inl ⟨by rfl, ?_⟩) (by assumption) ?_
                rotate_left
                · (intro w hSw; (try dsimp only at hSw); first | (go_simp; done) | (go_simp; with_reducible rfl) | (go_simp; rw [if_neg (by omega)]))
                try simp only [Act.put, List.setIfInBounds_toArray, List.set_cons_zero, List.set_cons_succ]
                refine wpAnyH_take (i := 6) (oi := { dst := some 39, op := Go.Op.move (Go.Operand.tmp 5), type := 3, pos := "l10_proofs.go:111", after := #[], guard := none }) (v := ?_) rfl (by kernel_rfl) (by kernel_rfl) (by kernel_rfl) (fun _ _ _ h => h) (Or.inl ⟨by rfl, ?_⟩) (by assumption) ?_
                rotate_left
                · (intro w hSw; (try dsimp only at hSw); first | (go_simp; done) | (go_simp; with_reducible rfl) | (go_simp; rw [if_neg (by omega)]))
                try simp only [Act.put, List.setIfInBounds_toArray, List.set_cons_zero, List.set_cons_succ]
                refine wpAnyH_take (i := 7) (oi := { dst := some 40, op := Go.Op.indexAddr 71 (Go.Operand.tmp 38) (Go.Operand.tmp 39), type := 0, pos := "l10_proofs.go:111", after := #[{ on := 5, ground := Go.Ground.data }, { on := 6, ground := Go.Ground.data }], guard := none }) (v := ?_) rfl (by kernel_rfl) (by kernel_rfl) (by kernel_rfl) (fun _ _ _ h => h) (Or.inl ⟨by rfl, ?_⟩) (by assumption) ?_
                rotate_left
                · (intro w hSw; (try dsimp only at hSw); first | (go_simp; done) | (go_simp; with_reducible rfl) | (go_simp; rw [if_neg (by omega)]))
                try simp only [Act.put, List.setIfInBounds_toArray, List.set_cons_zero, List.set_cons_succ]
                refine wpAnyH_take (i := 8) (oi := { dst := some 41, op := Go.Op.load 3 (Go.Operand.tmp 40), type := 3, pos := "l10_proofs.go:111", after := #[{ on := 7, ground := Go.Ground.data }], guard := none }) (v := ?_) rfl (by kernel_rfl) (by kernel_rfl) (by kernel_rfl) (fun _ _ _ h => h) (Or.inl ⟨by rfl, ?_⟩) (by assumption) ?_
                rotate_left
                · (intro w hSw; (try dsimp only at hSw); first | (go_simp; done) | (go_simp; with_reducible rfl) | (go_simp; rw [if_neg (by omega)]))
                try simp only [Act.put, List.setIfInBounds_toArray, List.set_cons_zero, List.set_cons_succ]
                refine wpAnyH_take (i := 12) (oi := { dst := some 45, op := Go.Op.move (Go.Operand.tmp 0), type := 49, pos := "l10_proofs.go:111", after := #[], guard := none }) (v := ?_) rfl (by kernel_rfl) (by kernel_rfl) (by kernel_rfl) (fun _ _ _ h => h) (Or.inl ⟨by rfl, ?_⟩) (by assumption) ?_
                rotate_left
                · (intro w hSw; (try dsimp only at hSw); first | (go_simp; done) | (go_simp; with_reducible rfl) | (go_simp; rw [if_neg (by omega)]))
                try simp only [Act.put, List.setIfInBounds_toArray, List.set_cons_zero, List.set_cons_succ]
                refine wpAnyH_take (i := 13) (oi := { dst := some 46, op := Go.Op.move (Go.Operand.tmp 4), type := 3, pos := "l10_proofs.go:111", after := #[], guard := none }) (v := ?_) rfl (by kernel_rfl) (by kernel_rfl) (by kernel_rfl) (fun _ _ _ h => h) (Or.inl ⟨by rfl, ?_⟩) (by assumption) ?_
                rotate_left
                · (intro w hSw; (try dsimp only at hSw); first | (go_simp; done) | (go_simp; with_reducible rfl) | (go_simp; rw [if_neg (by omega)]))
                try simp only [Act.put, List.setIfInBounds_toArray, List.set_cons_zero, List.set_cons_succ]
                refine wpAnyH_take (i := 14) (oi := { dst := some 47, op := Go.Op.indexAddr 49 (Go.Operand.tmp 45) (Go.Operand.tmp 46), type := 0, pos := "l10_proofs.go:111", after := #[{ on := 12, ground := Go.Ground.data }, { on := 13, ground := Go.Ground.data }], guard := none }) (v := ?_) rfl (by kernel_rfl) (by kernel_rfl) (by kernel_rfl) (fun _ _ _ h => h) (Or.inl ⟨by rfl, ?_⟩) (by assumption) ?_
                rotate_left
                · (intro w hSw; (try dsimp only at hSw); first | (go_simp; done) | (go_simp; with_reducible rfl) | (go_simp; rw [if_neg (by omega)]))
                try simp only [Act.put, List.setIfInBounds_toArray, List.set_cons_zero, List.set_cons_succ]
                refine wpAnyH_take (i := 15) (oi := { dst := some 48, op := Go.Op.fieldAddr 75 (Go.Operand.tmp 47) 0, type := 0, pos := "l10_proofs.go:111", after := #[{ on := 14, ground := Go.Ground.data }], guard := none }) (v := ?_) rfl (by kernel_rfl) (by kernel_rfl) (by kernel_rfl) (fun _ _ _ h => h) (Or.inl ⟨by rfl, ?_⟩) (by assumption) ?_
                rotate_left
                · (intro w hSw; (try dsimp only at hSw); first | (go_simp; done) | (go_simp; with_reducible rfl) | (go_simp; rw [if_neg (by omega)]))
                try simp only [Act.put, List.setIfInBounds_toArray, List.set_cons_zero, List.set_cons_succ]
                refine wpAnyH_take (i := 16) (oi := { dst := some 49, op := Go.Op.load 71 (Go.Operand.tmp 48), type := 71, pos := "l10_proofs.go:111", after := #[{ on := 15, ground := Go.Ground.data }], guard := none }) (v := ?_) rfl (by kernel_rfl) (by kernel_rfl) (by kernel_rfl) (fun _ _ _ h => h) (Or.inl ⟨by rfl, ?_⟩) (by assumption) ?_
                rotate_left
                · (intro w hSw; (try dsimp only at hSw); first | (go_simp; done) | (go_simp; with_reducible rfl) | (go_simp; rw [if_neg (by omega)]))
                try simp only [Act.put, List.setIfInBounds_toArray, List.set_cons_zero, List.set_cons_succ]
                refine wpAnyH_take (i := 17) (oi := { dst := some 50, op := Go.Op.move (Go.Operand.tmp 5), type := 3, pos := "l10_proofs.go:111", after := #[], guard := none }) (v := ?_) rfl (by kernel_rfl) (by kernel_rfl) (by kernel_rfl) (fun _ _ _ h => h) (Or.inl ⟨by rfl, ?_⟩) (by assumption) ?_
                rotate_left
                · (intro w hSw; (try dsimp only at hSw); first | (go_simp; done) | (go_simp; with_reducible rfl) | (go_simp; rw [if_neg (by omega)]))
                try simp only [Act.put, List.setIfInBounds_toArray, List.set_cons_zero, List.set_cons_succ]
                refine wpAnyH_take (i := 18) (oi := { dst := some 51, op := Go.Op.indexAddr 71 (Go.Operand.tmp 49) (Go.Operand.tmp 50), type := 0, pos := "l10_proofs.go:111", after := #[{ on := 16, ground := Go.Ground.data }, { on := 17, ground := Go.Ground.data }], guard := none }) (v := ?_) rfl (by kernel_rfl) (by kernel_rfl) (by kernel_rfl) (fun _ _ _ h => h) (Or.inl ⟨by rfl, ?_⟩) (by assumption) ?_
                rotate_left
                · (intro w hSw; (try dsimp only at hSw); first | (go_simp; done) | (go_simp; with_reducible rfl) | (go_simp; rw [if_neg (by omega)]))
                try simp only [Act.put, List.setIfInBounds_toArray, List.set_cons_zero, List.set_cons_succ]
                refine wpAnyH_take (i := 19) (oi := { dst := some 52, op := Go.Op.load 3 (Go.Operand.tmp 51), type := 3, pos := "l10_proofs.go:111", after := #[{ on := 18, ground := Go.Ground.data }], guard := none }) (v := ?_) rfl (by kernel_rfl) (by kernel_rfl) (by kernel_rfl) (fun _ _ _ h => h) (Or.inl ⟨by rfl, ?_⟩) (by assumption) ?_
                rotate_left
                · (intro w hSw; (try dsimp only at hSw); first | (go_simp; done) | (go_simp; with_reducible rfl) | (go_simp; rw [if_neg (by omega)]))
                try simp only [Act.put, List.setIfInBounds_toArray, List.set_cons_zero, List.set_cons_succ]
                refine wpAnyH_ready (rs := [9]) (by kernel_rfl) (by simp) ?_
                refine AllReadyH.cons (o := { dst := some 42, op := Go.Op.call { callee := Go.Callee.value (Go.Operand.func 39), args := #[Go.Operand.tmp 41], argTypes := #[3] }, type := 9, pos := "l10_proofs.go:111", after := #[{ on := 8, ground := Go.Ground.data }], guard := none }) rfl (fun K hK => ?_) AllReadyH.nil
                go_simp
                (go_at_call 39; refine (HI1.out _).mono ?_; rintro e w5 ⟨rfl, hb5⟩; have hbb5 := below_on (w := W4) (by go_grown) hb5; have hsb5 : W4.heap.size ≤ w5.heap.size := hbb5.size)
                (try go_wp2_with fail)
                refine hK.out _ _ ?_ (fun hHeld => ?_)
                · try dsimp only
                  exact keepFp hb4 d0 d1 hbf4 e0 hbt4 e1 (by go_grown)
                clear hK K
                try simp only [Act.put, List.setIfInBounds_toArray, List.set_cons_zero, List.set_cons_succ]
                refine wpAnyH_take (i := 10) (oi := { dst := some 43, op := Go.Op.binOp Go.BinOp.add 9 (Go.Operand.tmp 33) (Go.Operand.tmp 42) 9, type := 9, pos := "l10_proofs.go:111", after := #[{ on := 0, ground := Go.Ground.data }, { on := 9, ground := Go.Ground.data }], guard := none }) (v := ?_) rfl (by kernel_rfl) (by kernel_rfl) (by kernel_rfl) (fun _ _ _ h => h) (Or.inl ⟨by rfl, ?_⟩) (by assumption) ?_
                rotate_left
                · (intro w hSw; (try dsimp only at hSw); first | (go_simp; done) | (go_simp; with_reducible rfl) | (go_simp; rw [if_neg (by omega)]))
                try simp only [Act.put, List.setIfInBounds_toArray, List.set_cons_zero, List.set_cons_succ]
                refine wpAnyH_take (i := 11) (oi := { dst := some 44, op := Go.Op.binOp Go.BinOp.add 9 (Go.Operand.tmp 43) (Go.Operand.const (Go.Value.string { data := #[120] })) 9, type := 9, pos := "l10_proofs.go:111", after := #[{ on := 10, ground := Go.Ground.data }], guard := none }) (v := ?_) rfl (by kernel_rfl) (by kernel_rfl) (by kernel_rfl) (fun _ _ _ h => h) (Or.inl ⟨by rfl, ?_⟩) (by assumption) ?_
                rotate_left
                · (intro w hSw; (try dsimp only at hSw); first | (go_simp; done) | (go_simp; with_reducible rfl) | (go_simp; rw [if_neg (by omega)]))
                try simp only [Act.put, List.setIfInBounds_toArray, List.set_cons_zero, List.set_cons_succ]
                refine wpAnyH_ready (rs := [20]) (by kernel_rfl) (by simp) ?_
                refine AllReadyH.cons (o := { dst := some 53, op := Go.Op.call { callee := Go.Callee.value (Go.Operand.func 39), args := #[Go.Operand.tmp 52], argTypes := #[3] }, type := 9, pos := "l10_proofs.go:111", after := #[{ on := 19, ground := Go.Ground.data }, { on := 9, ground := Go.Ground.chain }], guard := none }) rfl (fun K hK => ?_) AllReadyH.nil
                go_simp
                (go_at_call 39; refine (HI2.out _).mono ?_; rintro e w6 ⟨rfl, hb6⟩; have hbb6 := below_on (w := W4) (by go_grown) hb6; have hsb6 : W4.heap.size ≤ w6.heap.size := hbb6.size)
                (try go_wp2_with fail)
                refine hK.out _ _ ?_ (fun hHeld => ?_)
                · try dsimp only
                  exact keepFp hb4 d0 d1 hbf4 e0 hbt4 e1 (by go_grown)
                clear hK K
                try simp only [Act.put, List.setIfInBounds_toArray, List.set_cons_zero, List.set_cons_succ]
                refine wpAnyH_take (i := 21) (oi := { dst := some 54, op := Go.Op.binOp Go.BinOp.add 9 (Go.Operand.tmp 44) (Go.Operand.tmp 53) 9, type := 9, pos := "l10_proofs.go:111", after := #[{ on := 11, ground := Go.Ground.data }, { on := 20, ground := Go.Ground.data }], guard := none }) (v := ?_) rfl (by kernel_rfl) (by kernel_rfl) (by kernel_rfl) (fun _ _ _ h => h) (Or.inl ⟨by rfl, ?_⟩) (by assumption) ?_
                rotate_left
                · (intro w hSw; (try dsimp only at hSw); first | (go_simp; done) | (go_simp; with_reducible rfl) | (go_simp; rw [if_neg (by omega)]))
                try simp only [Act.put, List.setIfInBounds_toArray, List.set_cons_zero, List.set_cons_succ]
                refine wpAnyH_take (i := 22) (oi := { dst := some 3, op := Go.Op.assign (Go.Operand.tmp 54), type := 9, pos := "l10_proofs.go:111", after := #[{ on := 21, ground := Go.Ground.data }, { on := 20, ground := Go.Ground.chain }, { on := 0, ground := Go.Ground.phase }, { on := 1, ground := Go.Ground.phase }, { on := 2, ground := Go.Ground.phase }, { on := 3, ground := Go.Ground.phase }, { on := 4, ground := Go.Ground.phase }, { on := 5, ground := Go.Ground.phase }, { on := 6, ground := Go.Ground.phase }, { on := 7, ground := Go.Ground.phase }, { on := 8, ground := Go.Ground.phase }, { on := 9, ground := Go.Ground.phase }, { on := 10, ground := Go.Ground.phase }, { on := 11, ground := Go.Ground.phase }, { on := 12, ground := Go.Ground.phase }, { on := 13, ground := Go.Ground.phase }, { on := 14, ground := Go.Ground.phase }, { on := 15, ground := Go.Ground.phase }, { on := 16, ground := Go.Ground.phase }, { on := 17, ground := Go.Ground.phase }, { on := 18, ground := Go.Ground.phase }, { on := 19, ground := Go.Ground.phase }, { on := 20, ground := Go.Ground.phase }, { on := 21, ground := Go.Ground.phase }], guard := none }) (v := ?_) rfl (by kernel_rfl) (by kernel_rfl) (by kernel_rfl) (fun _ _ _ h => h) (Or.inl ⟨by rfl, ?_⟩) (by assumption) ?_
                rotate_left
                · (intro w hSw; (try dsimp only at hSw); first | (go_simp; done) | (go_simp; with_reducible rfl) | (go_simp; rw [if_neg (by omega)]))
                try simp only [Act.put, List.setIfInBounds_toArray, List.set_cons_zero, List.set_cons_succ]
                refine wpAnyH_done (by kernel_rfl) ?_ _
                have HB5 := Lib.hid (below_on HBI.out (show Below W4.heap.size W4 _ from by first | exact hbb6 | go_grown))
                clear d0 d1 e0 e1 hHeld
                go_wp2
                go_roundw
                case rel => exact ⟨k + 1, by go_num, by omega, by rw [HX.out, ← HPR.out]; simp, HB5.out⟩
                case measure => simp [intOf]; omega
            · have hk2 : ¬ (k : Int) < (m : Int) := by omega
              have hT : (P ++ [32]) ++ skT x k = jpT (LL.take (i + 1)) := by
                obtain rfl : k = m := by omega
                rw [← HM.out, skT_all HOK.out.2.1]
                have e := HX1.out (by omega)
                rw [e]; simp
              rw [hT]
              obtain ⟨Z, hZ⟩ : ∃ Z, jpT (LL.take (i + 1)) = Z := ⟨_, rfl⟩
              have HZ := Lib.hid hZ
              rw [hZ]
              have HB4 := Lib.hid (below_on HB.out hbi)
              clear hT hZ hbi
              go_wp2
              go_roundw
              case rel => exact ⟨i + 1, by go_num, by omega, by rw [HZ.out], HB4.out⟩
              case measure => simp [intOf]; omega
      · have hk' : ¬ (i : Int) < (n : Int) := by omega
        obtain rfl : i = n := by omega
        rw [show LL.take i = LL from List.take_of_length_le (by rw [HN.out]; exact Nat.le_refl _)]
        by_cases h0 : LL = []
        · have HF := Lib.hid (fp_nil HSY.out h0)
          have hj : jpT LL = [] := by rw [h0]; rfl
          rw [hj]
          clear h0
          go_wp2
          go_ret
          exact ⟨rt_strQ HF.out.symm, hbw⟩
        · have HF := Lib.hid (fp_on HSY.out h0)
          have hjn := jpT_ne h0 HP.out.2
          obtain ⟨P, hP⟩ : ∃ P, jpT LL = P := ⟨_, rfl⟩
          rw [hP] at HF hjn ⊢
          have hPe : P.isEmpty = false := by cases P with
            | nil => exact absurd rfl hjn
            | cons _ _ => rfl
          clear hjn hP
          go_wp2
          go_ret
          exact ⟨rt_strQ HF.out.symm, hbw⟩

end Go.Proofs.YtbppcpaodfjpkaaDoor
