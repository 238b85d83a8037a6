/- Lists of clauses as an argument: contracts of szAtomSS, toAtomSS and eqAtomSS. -/
import Derived.Test.YtbppcpaodfjpkaaDoorAtX
namespace Go.Proofs.YtbppcpaodfjpkaaDoor
open Go.RowKit

/-- The slice v, an argument, reads as the lists LL. -/
def RdGG (w : World) (v : Value) (LL : List (List AtD)) : Prop :=
  ∃ sp cap, v = .slice sp LL.length cap ∧ LL.length ≤ cap ∧ cap ≤ maxLen ∧ (LL.length = 0 ∨ ∃ b o, sp = some ⟨b, o, none⟩ ∧ b < w.heap.size ∧ ∀ i L, LL[i]? = some L → ∃ s, w.cell? ⟨b, o + i, none⟩ = some s ∧ RdG w s L)
theorem rdGG_on {w w' : World} {v : Value} {LL : List (List AtD)} (h : RdGG w v LL) (hb : Below w.heap.size w w') : RdGG w' v LL := by
  obtain ⟨sp, cap, hv, h1, h2, hc⟩ := h
  refine ⟨sp, cap, hv, h1, h2, hc.imp id fun ⟨b, o, e, hlt, hc⟩ => ⟨b, o, e, Nat.lt_of_lt_of_le hlt hb.size, fun i L hL => ?_⟩⟩
  obtain ⟨s, hs, hr⟩ := hc i L hL
  exact ⟨s, (hb.cell (p := ⟨b, o + i, none⟩) hlt).trans hs, rdG_on hr hb⟩
/-- The slice v reads as the lists LL, which lie in blocks behind its own. -/
def RdAA (w : World) (v : Value) (LL : List (List AtD)) : Prop :=
  ∃ sp cap, v = .slice sp LL.length cap ∧ (LL.length = 0 ∨ ∃ b, sp = some ⟨b, 0, none⟩ ∧ b < w.heap.size ∧ ∀ i L, LL[i]? = some L → ∃ s, w.cell? ⟨b, i, none⟩ = some s ∧ RdAb w (b + 1) s L)
theorem rdAb_on {w w' : World} {B : Nat} {v : Value} {L : List AtD} (h : RdAb w B v L) (hb : Below w.heap.size w w') : RdAb w' B v L := by
  obtain ⟨sp, cap, hv, hc⟩ := h
  refine ⟨sp, cap, hv, hc.imp id fun ⟨b, he, h1, hlt, hc⟩ => ⟨b, he, h1, Nat.lt_of_lt_of_le hlt hb.size, fun i x hx => ?_⟩⟩
  have f : ∀ o, w'.cell? ⟨b, o, none⟩ = w.cell? ⟨b, o, none⟩ := fun o => hb.cell (p := ⟨b, o, none⟩) hlt
  have := hc i x hx
  simpa only [ARow, f] using this
theorem rdAb_put {w : World} {B x k : Nat} {u v : Value} {L : List AtD} (h : RdAb w B v L) (hx : x < B) : RdAb (w.setCell ⟨x, k, none⟩ u) B v L := by
  obtain ⟨sp, cap, hv, hc⟩ := h
  refine ⟨sp, cap, hv, hc.imp id fun ⟨b, he, h1, hlt, hc⟩ => ⟨b, he, h1, by simpa using hlt, fun i y hy => ?_⟩⟩
  have f : ∀ o, (w.setCell ⟨x, k, none⟩ u).cell? ⟨b, o, none⟩ = w.cell? ⟨b, o, none⟩ := fun o => World.cell?_setCell_other w ⟨x, k, none⟩ ⟨b, o, none⟩ u (fun e => by have := congrArg Addr.block e; simp at this; omega)
  have := hc i y hy
  simpa only [ARow, f] using this
theorem RdAb.slice {w : World} {B : Nat} {v : Value} {L : List AtD} (h : RdAb w B v L) : ∃ a n c, v = .slice a n c := by
  obtain ⟨sp, cap, e, _⟩ := h
  exact ⟨_, _, _, e⟩
theorem readsAA_on {w w' : World} {v : Value} {LL : List (List AtD)} (h : RdAA w v LL) (hb : Below w.heap.size w w') : RdAA w' v LL := by
  obtain ⟨sp, cap, hv, hc⟩ := h
  refine ⟨sp, cap, hv, hc.imp id fun ⟨b, e, hlt, hc⟩ => ⟨b, e, Nat.lt_of_lt_of_le hlt hb.size, fun i L hL => ?_⟩⟩
  obtain ⟨s, hs, hr⟩ := hc i L hL
  exact ⟨s, (hb.cell (p := ⟨b, i, none⟩) hlt).trans hs, rdAb_on hr hb⟩
theorem RdAA.slice {w : World} {v : Value} {LL : List (List AtD)} (h : RdAA w v LL) : ∃ a n c, v = .slice a n c := by
  obtain ⟨sp, cap, e, _⟩ := h
  exact ⟨_, _, _, e⟩
theorem RdG.slice {w : World} {v : Value} {L : List AtD} (h : RdG w v L) : ∃ a n c, v = .slice a n c := by
  obtain ⟨sp, cap, e, _⟩ := h
  exact ⟨_, _, _, e⟩

/-- How many atoms lists have. -/
def smL (LL : List (List AtD)) : Nat := (LL.map List.length).sum
theorem smL_take {LL : List (List AtD)} {k : Nat} {L : List AtD} (h : LL[k]? = some L) : smL (LL.take (k + 1)) = smL (LL.take k) + L.length := by
  have e : LL.take (k + 1) = LL.take k ++ [L] := by
    have hlt := (List.getElem?_eq_some_iff.1 h).1
    rw [List.take_add_one, h]
    rfl
  unfold smL
  rw [e, List.map_append, List.sum_append]
  simp
theorem smL_le (LL : List (List AtD)) (k : Nat) : smL (LL.take k) ≤ smL LL := by
  have e : smL LL = smL (LL.take k) + smL (LL.drop k) := by
    unfold smL
    rw [← List.sum_append, ← List.map_append, List.take_append_drop]
  omega
theorem smL_at {LL : List (List AtD)} {k : Nat} {L : List AtD} (h : LL[k]? = some L) : L.length ≤ smL LL := by
  have h1 := smL_take h
  have h2 := smL_le LL (k + 1)
  omega

theorem szAtomS_to (v : Value) (L : List AtD) (w : World) (l : Nat) (hl0 : l ≤ 1048576) (h : RdG w v L) :
    Calls Tryd.prog 29 #[v, .int .i64 l] w fun e w' => e = .returned (.int .i64 (szI L.length l)) ∧ w = w' := by
  obtain ⟨sp, cap, rfl, h1, h2, _⟩ := h
  unfold maxLen at h2
  obtain ⟨n, hn⟩ : ∃ n, L.length = n := ⟨_, rfl⟩
  rw [hn] at h1 ⊢
  clear hn
  by_cases hl : n ≤ l
  · rw [szI_pos hl]
    have hz : decide (((l : Int) - (n : Int)) < 0) = false := by rw [decide_eq_false_iff_not]; omega
    have hz2 : ¬ ((l : Int) - (n : Int)) < 0 := by omega
    go_enter Tryd.func29, Tryd.ntmps29
    go_wp2
    go_ret
    exact ⟨ret_i (by omega), rfl⟩
  · rw [szI_neg (by omega)]
    have hz2 : ((l : Int) - (n : Int)) < 0 := by omega
    go_enter Tryd.func29, Tryd.ntmps29
    go_wp2
    go_ret
    exact ⟨rfl, rfl⟩

def ssL (LL : List (List AtD)) : Nat := LL.length + smL LL

set_option maxHeartbeats 1000000 in
theorem szAtomSS_is (v : Value) (LL : List (List AtD)) (w : World) (h : RdGG w v LL) :
    Calls Tryd.prog 11 #[v, .int .i64 1048576] w fun e w' => e = .returned (.int .i64 (szI (ssL LL) 1048576)) ∧ w = w' := by
  obtain ⟨sp, cap, rfl, h1, h2, hc⟩ := h
  unfold maxLen at h2
  obtain ⟨n, hn⟩ : ∃ n, LL.length = n := ⟨_, rfl⟩
  obtain ⟨S, hS⟩ : ∃ S, ssL LL = S := ⟨_, rfl⟩
  have HS := Lib.hid hS
  have HN := Lib.hid hn
  have HC := Lib.hid hc
  rw [hS]
  rw [hn] at h1 ⊢
  have hSn : n ≤ S := by rw [← hS, ← hn]; exact Nat.le_add_right _ _
  clear hn hc hS
  by_cases hl : n ≤ 1048576
  · go_enter Tryd.func11, Tryd.ntmps11
    go_wp2
    go_loopw [1, 5] (fun l i wr => ∃ k m : Nat, l = .int .i64 m ∧ i = .int .i64 k ∧ k ≤ n ∧ n + smL (LL.take k) + m = 1048576 ∧ w = wr) (fun _ i _ => n - (intOf i).toNat)
    case atStart => exact ⟨0, 1048576 - n, by go_num, rfl, by omega, by simp [smL]; omega, rfl⟩
    case round =>
      obtain ⟨k, m, rfl, rfl, hk, hm, rfl⟩ := hrel
      by_cases hlt : k < n
      · have hk' : (k : Int) < (n : Int) := by omega
        obtain ⟨L, hL⟩ : ∃ L, LL[k]? = some L := ⟨_, List.getElem?_eq_getElem (by rw [HN.out]; exact hlt)⟩
        obtain ⟨b, o, rfl, hbl, hcell⟩ := HC.out.resolve_left (by rw [HN.out]; omega)
        obtain ⟨s, hs, hr⟩ := hcell k L hL
        have hst := smL_take hL
        have hsl := smL_le LL (k + 1)
        have hSe : S = n + smL LL := by rw [← HS.out, ← HN.out]; rfl
        clear hcell
        have HR := Lib.hid hr
        obtain ⟨a', n', c', rfl⟩ := hr.slice
        clear hr hL
        go_wp2_with fail
        refine (szAtomS_to _ L _ m (by omega) HR.out).mono ?_
        rintro e w1 ⟨rfl, rfl⟩
        by_cases hd : L.length ≤ m
        · obtain ⟨d, hd'⟩ : ∃ d : Nat, m - L.length = d := ⟨_, rfl⟩
          rw [szI_pos hd, hd']
          have hd0 : ¬ (d : Int) < 0 := by omega
          have hx : n + smL (LL.take (k + 1)) + d = 1048576 := by omega
          clear hst hsl hSe hd hd' hm
          go_wp2
          go_roundw
          case rel => exact ⟨k + 1, d, rfl, by go_num, by omega, hx, by first | trivial | rfl⟩
          case measure => simp [intOf]; omega
        · rw [szI_neg (by omega)]
          have hF : szI S 1048576 = -1 := szI_neg (by omega)
          have HF := Lib.hid hF
          clear hst hsl hSe hd hm hF
          go_wp2
          go_ret
          exact ⟨ret_i HF.out.symm, rfl⟩
      · have hk' : ¬ (k : Int) < (n : Int) := by omega
        obtain rfl : k = n := by omega
        have hF : (m : Int) = szI S 1048576 := by
          have hSe : S = k + smL LL := by rw [← HS.out, ← HN.out]; rfl
          rw [List.take_of_length_le (by rw [HN.out]; exact Nat.le_refl _)] at hm
          rw [szI_pos (by omega)]
          omega
        have HF := Lib.hid hF
        clear hF hm
        go_wp2
        go_ret
        exact ⟨ret_i HF.out, rfl⟩
  · rw [szI_neg (by omega)]
    have hneg : (1048576 : Int) - (n : Int) < 0 := by omega
    go_enter Tryd.func11, Tryd.ntmps11
    go_wp2
    go_ret
    exact ⟨rfl, rfl⟩

theorem Tryd.infoAtS : (Tryd.prog.info? 63).map (fun i => (i.zero, i.size, i.bytes)) = some (some (.slice none 0 0), 1, 24) := by kernel_rfl

def TssR (LL : List (List AtD)) (w : World) (i : Value) (wr : World) : Prop :=
  ∃ (k : Nat) (xs : List Value), i = .int .i64 k ∧ k ≤ LL.length ∧ (∀ i L, i < k → LL[i]? = some L → ∃ s, wr.cell? ⟨w.heap.size, i, none⟩ = some s ∧ RdAb wr (w.heap.size + 1) s L) ∧
    wr.ownsRow w.heap.size 63 1 (.slice (some ⟨w.heap.size, 0, none⟩) LL.length LL.length) LL.length xs ∧ Below w.heap.size w wr
def TssPost (LL : List (List AtD)) (w : World) (e : Ending) (w' : World) : Prop := ∃ s', e = .returned s' ∧ RdAA w' s' LL ∧ Below w.heap.size w w'

set_option maxHeartbeats 1000000 in
theorem toAtomSS_is (v : Value) (LL : List (List AtD)) (w : World) (hz : ssL LL ≤ 1048576) (h : RdGG w v LL) : Calls Tryd.prog 13 #[v] w (TssPost LL w) := by
  obtain ⟨i0, hi, hz0, hz1, hz2⟩ := info_parts Tryd.infoAtS
  obtain ⟨sp, cap, rfl, hc1, hc2, hel⟩ := h
  unfold maxLen at hc2
  obtain ⟨n, hn⟩ : ∃ n, LL.length = n := ⟨_, rfl⟩
  have hL : n ≤ 1048576 := by rw [← hn]; unfold ssL at hz; omega
  have HZ := Lib.hid (show smL LL ≤ 1048576 by unfold ssL at hz; omega)
  have HN := Lib.hid hn
  have HE := Lib.hid hel
  rw [hn] at hc1
  rw [hn]
  obtain ⟨w1, hr, hown, hg⟩ := run_make_full (P := Tryd.prog) w w.heap.size 42 63 i0 _ 1 Tryd.underlying42 hi hz0 hz1 .i64 .i64 n (by rw [hz2]; omega) (by unfold maxLen; omega) (Nat.le_refl _)
  have hbw1 : Below w.heap.size w w1 := (Below.refl _ _).grown hg (Nat.le_refl _) (by simp)
  have HST := Lib.hid (show TssR LL w (.int .i64 0) w1 from ⟨0, _, rfl, Nat.zero_le _, fun i x h0 => absurd h0 (by omega), by rw [HN.out]; exact hown, hbw1⟩)
  clear hown hg hbw1 hi hz0 hz1 hz2 hn hel hz
  go_enter Tryd.func13, Tryd.ntmps13
  go_wp2
  go_loopw [4] (fun i wr => TssR LL w i wr) (fun i _ => n - (intOf i).toNat)
  case atStart => exact HST.out
  case round =>
    obtain ⟨k, xs, rfl, hk, hpre, hown, hbw⟩ := hrel
    clear HST
    rw [HN.out] at hk hown
    have HP := Lib.hid hpre
    have HO := Lib.hid hown
    have HB := Lib.hid hbw
    clear hpre
    by_cases hlt : k < n
    · have hk' : (k : Int) < (n : Int) := by omega
      obtain ⟨L, hL'⟩ : ∃ L, LL[k]? = some L := ⟨_, List.getElem?_eq_getElem (by rw [HN.out]; exact hlt)⟩
      have HY := Lib.hid hL'
      obtain ⟨b, o, rfl, hbl, hcell⟩ := HE.out.resolve_left (by rw [HN.out]; omega)
      obtain ⟨s, hs, hr⟩ := hcell k L hL'
      have r1 : wr.cell? ⟨b, o + k, none⟩ = some s := (hbw.cell (p := ⟨b, o + k, none⟩) hbl).trans hs
      have HR := Lib.hid (rdG_on hr hbw)
      have HLL := Lib.hid (Nat.le_trans (smL_at hL') HZ.out)
      have hB0 : w.heap.size < wr.heap.size := (hown.lt w.heap.size rfl).2
      obtain ⟨a', n', c', rfl⟩ := hr.slice
      clear hcell hs hr hbw hown hL'
      go_wp2_with fail
      refine (toAtomS_at _ L _ HLL.out HR.out).mono ?_
      rintro e w2 ⟨s2, rfl, hs2, hb2⟩
      have hown2 := own_below (show wr.ownsRow w.heap.size 63 1 _ n xs from HO.out) hb2
      have HO2 := Lib.hid hown2
      have hl2 := hown2.1
      obtain ⟨x0, hx0⟩ : ∃ x, w2.cell? ⟨w.heap.size, k, none⟩ = some x := ⟨_, (hown2.cellAt k (by omega)).trans (List.getElem?_eq_getElem (by omega))⟩
      have hfz := fun o => hown2.frozenAt o
      have HP2 := Lib.hid (show ∀ i L, i < k → LL[i]? = some L → ∃ s, w2.cell? ⟨w.heap.size, i, none⟩ = some s ∧ RdAb w2 (w.heap.size + 1) s L from fun i L h1 h2 => by
        obtain ⟨s, e1, e2⟩ := HP.out i L h1 h2
        exact ⟨s, (hb2.cell (p := ⟨w.heap.size, i, none⟩) hB0).trans e1, rdAb_on e2 hb2⟩)
      have HS2 := Lib.hid (show RdAb w2 (w.heap.size + 1) s2 L from by
        obtain ⟨sp, cap, e, hc⟩ := hs2
        exact ⟨sp, cap, e, hc.imp id fun ⟨b, e1, e2, e3⟩ => ⟨b, e1, by omega, e3⟩⟩)
      have HB2 := Lib.hid (below_on HB.out hb2)
      obtain ⟨a2, n2, c2, rfl⟩ := hs2.slice
      clear hown2 hb2 hl2 hs2 r1
      go_wp2_with fail
      generalize hW2 : World.setCell _ _ _ = W2
      have hst := HO2.out.stored k (.slice a2 n2 c2)
      rw [hW2] at hst
      refine ⟨⟨k + 1, _, by go_num, by rw [HN.out]; omega, fun i L' h1 h2 => ?_, by rw [HN.out]; exact hst.1, ?_⟩, ?_⟩
      · by_cases hik : i < k
        · obtain ⟨s, e1, e2⟩ := HP2.out i L' hik h2
          subst hW2
          exact ⟨s, (World.cell?_setCell_other _ ⟨w.heap.size, k, none⟩ ⟨w.heap.size, i, none⟩ _ (fun e => by have := congrArg Addr.off e; simp at this; omega)).trans e1, rdAb_put e2 (Nat.lt_succ_self _)⟩
        · obtain rfl : i = k := by omega
          have e := HY.out
          rw [h2] at e
          obtain rfl := Option.some.inj e
          refine ⟨.slice a2 n2 c2, ?_, by subst hW2; exact rdAb_put HS2.out (Nat.lt_succ_self _)⟩
          rw [hst.1.cellAt i (by omega)]
          have := HO2.out.1
          simp [List.getElem?_set]
          omega
      · subst hW2
        exact HB2.out.setCell (Nat.le_refl _) _
      · simp [intOf]; omega
    · have hk' : ¬ (k : Int) < (n : Int) := by omega
      obtain rfl : k = n := by omega
      clear hown
      go_wp2
      go_ret
      refine ⟨_, rfl, ⟨some ⟨w.heap.size, 0, none⟩, k, by rw [HN.out]; rfl, .inr ⟨w.heap.size, rfl, ?_, fun i L h2 => HP.out i L (by have := (List.getElem?_eq_some_iff.1 h2).1; rw [HN.out] at this; exact this) h2⟩⟩, hbw⟩
      exact (World.ownsRow.lt HO.out w.heap.size rfl).2

set_option maxRecDepth 10000 in
set_option maxHeartbeats 1000000 in
theorem eqAtomSS_same (v u : Value) (LL : List (List AtD)) (w : World) (h1 : RdAA w v LL) (h2 : RdAA w u LL) (hz : ssL LL ≤ 1048576) :
    Calls Tryd.prog 15 #[v, u] w fun e w' => e = .returned (.bool true) ∧ Below w.heap.size w w' := by
  obtain ⟨sp, cap, rfl, hc⟩ := h1
  obtain ⟨sp', cap', rfl, hc'⟩ := h2
  obtain ⟨N, hN⟩ : ∃ N, LL.length = N := ⟨_, rfl⟩
  have hL : N ≤ 1048576 := by rw [← hN]; unfold ssL at hz; omega
  have HZ := Lib.hid (show smL LL ≤ 1048576 by unfold ssL at hz; omega)
  rw [hN] at hc hc' ⊢
  have HN := Lib.hid hN
  have HC := Lib.hid hc
  have HC' := Lib.hid hc'
  clear hN hc hc' hz
  go_enter Tryd.func15, Tryd.ntmps15
  go_wp2
  go_loopw [5] (fun i wr => ∃ k : Nat, i = .int .i64 k ∧ k ≤ N ∧ Below w.heap.size w wr) (fun i _ => N - (intOf i).toNat)
  case atStart => exact ⟨0, rfl, by omega, Below.refl _ _⟩
  case round =>
    obtain ⟨k, rfl, hk, hbw⟩ := hrel
    by_cases hlt : k < N
    · have hk' : (k : Int) < (N : Int) := by omega
      obtain ⟨L, hL'⟩ : ∃ L, LL[k]? = some L := ⟨_, List.getElem?_eq_getElem (by rw [HN.out]; exact hlt)⟩
      obtain ⟨b, rfl, hbl, hcell⟩ := HC.out.resolve_left (by omega)
      obtain ⟨b', rfl, hbl', hcell'⟩ := HC'.out.resolve_left (by omega)
      obtain ⟨s, e1, e2⟩ := hcell k L hL'
      obtain ⟨s', e1', e2'⟩ := hcell' k L hL'
      have c0 : wr.cell? ⟨b, k, none⟩ = some s := (hbw.cell (p := ⟨b, k, none⟩) hbl).trans e1
      have c1 : wr.cell? ⟨b', k, none⟩ = some s' := (hbw.cell (p := ⟨b', k, none⟩) hbl').trans e1'
      have HE := Lib.hid fun W hW => eqAtomS_big s s' L W (readsA_on (rdAb_on e2 hbw).rd hW) (readsA_on (rdAb_on e2' hbw).rd hW) (Nat.le_trans (smL_at hL') HZ.out)
      obtain ⟨a1, n1, q1, rfl⟩ := e2.slice
      obtain ⟨a2, n2, q2, rfl⟩ := e2'.slice
      have HB := Lib.hid hbw
      clear hcell hcell' hL' hbw e1 e2 e1' e2'
      go_wp2_with fail
      go_region_with (go_at_call 36; (with_reducible refine (HE.out _ (by go_grown)).mono ?_); rintro e w1 ⟨rfl, hb1⟩)
      all_goals
        have hb2 : Below wr.heap.size wr w1 := below_on (by go_grown) hb1
        have HB1 := Lib.hid (below_on HB.out hb2)
        clear c0 c1 hb1 hb2
        go_wp2
        go_roundw
        case rel => exact ⟨k + 1, by go_num, by omega, HB1.out⟩
        case measure => simp [intOf]; omega
    · have hk' : ¬ (k : Int) < (N : Int) := by omega
      go_wp2
      go_ret
      exact ⟨rfl, hbw⟩

end Go.Proofs.YtbppcpaodfjpkaaDoor
