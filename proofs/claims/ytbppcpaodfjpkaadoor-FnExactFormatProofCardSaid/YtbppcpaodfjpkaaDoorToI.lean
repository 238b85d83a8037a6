/- Lists of ints as a law reads them: contracts of eqIntS and toIntS. -/
import Derived.Test.YtbppcpaodfjpkaaDoorRdJ
namespace Go.Proofs.YtbppcpaodfjpkaaDoor
open Go.RowKit

theorem below_dnT (w : World) (k : Nat) : Below w.heap.size w (w.drewN k) := ⟨rfl, rfl, rfl, Nat.le_refl _, fun _ _ => rfl⟩

set_option maxHeartbeats 400000 in
theorem eqIntJ_same (v u : Value) (L : List Int) (w : World) (h1 : RdJ w v L) (h2 : RdJ w u L) (hL : L.length ≤ 1048576) :
    Calls Tryd.prog 62 #[v, u] w fun e w' => e = .returned (.bool true) ∧ Below w.heap.size w w' := by
  obtain ⟨sp, cap, rfl, g1, g2, hc⟩ := h1
  obtain ⟨sp', cap', rfl, g1', g2', hc'⟩ := h2
  obtain ⟨N, hN⟩ : ∃ N, N = L.length := ⟨_, rfl⟩
  rw [← hN] at hL hc hc' g1 g1' ⊢
  unfold maxLen at g2 g2'
  have HN := Lib.hid hN
  have HC := Lib.hid hc
  have HC' := Lib.hid hc'
  clear hN hc hc'
  go_enter Tryd.func62, Tryd.ntmps62
  go_wp2
  go_loopw [5] (fun i wr => ∃ k q : Nat, i = .int .i64 k ∧ k ≤ N ∧ wr = w.drewN q) (fun i _ => N - (intOf i).toNat)
  case atStart => exact ⟨0, 0, rfl, by omega, rfl⟩
  case round =>
    obtain ⟨k, q, rfl, hk, rfl⟩ := hrel
    by_cases hlt : k < N
    · have hk' : (k : Int) < (N : Int) := by omega
      obtain ⟨y, hy⟩ : ∃ y, L[k]? = some y := ⟨_, List.getElem?_eq_getElem (by rw [← HN.out]; exact hlt)⟩
      obtain ⟨b, o, rfl, _, hcell⟩ := HC.out.resolve_left (by omega)
      obtain ⟨b', o', rfl, _, hcell'⟩ := HC'.out.resolve_left (by omega)
      have c1 := hcell k y hy
      have c2 := hcell' k y hy
      clear hcell hcell' hy
      go_wp2
      go_quiet (fail)
      go_wp2
      go_roundw
      case rel => exact ⟨k + 1, _, by go_num, by omega, rfl⟩
      case measure => simp [intOf]; omega
    · have hk' : ¬ (k : Int) < (N : Int) := by omega
      go_wp2
      go_ret
      exact ⟨rfl, below_dnT _ _⟩

theorem cell_put (w : World) (b i j : Nat) (v : Value) (h : i ≠ j) : (w.setCell ⟨b, j, none⟩ v).cell? ⟨b, i, none⟩ = w.cell? ⟨b, i, none⟩ := World.cell?_setCell_other w ⟨b, j, none⟩ ⟨b, i, none⟩ v (fun e => h (by simpa using (congrArg Addr.off e).symm))

theorem Tryd.infoInt1 : (Tryd.prog.info? 3).map (fun i => (i.zero, i.size, i.bytes)) = some (some (.int .i64 0), 1, 8) := by kernel_rfl

def TiR (L : List Int) (w : World) (i : Value) (wr : World) : Prop :=
  ∃ (k : Nat) (xs : List Value), i = .int .i64 k ∧ k ≤ L.length ∧ (∀ i x, i < k → L[i]? = some x → wr.cell? ⟨w.heap.size, i, none⟩ = some (.int .i64 x)) ∧
    wr.ownsRow w.heap.size 3 1 (.slice (some ⟨w.heap.size, 0, none⟩) L.length L.length) L.length xs ∧ Below w.heap.size w wr

set_option maxHeartbeats 1000000 in
theorem toIntS_at (v : Value) (L : List Int) (w : World) (hL : L.length ≤ 1048576) (h : RdJ w v L) :
    Calls Tryd.prog 60 #[v] w fun e w' => ∃ s, e = .returned s ∧ RdJb w' w.heap.size s L ∧ Below w.heap.size w w' := by
  obtain ⟨i0, hi, hz0, hz1, hz2⟩ := info_parts Tryd.infoInt1
  obtain ⟨sp, cap, rfl, hc1, hc2, hel⟩ := h
  unfold maxLen at hc2
  obtain ⟨n, hn⟩ : ∃ n, L.length = n := ⟨_, rfl⟩
  have HN := Lib.hid hn
  have HE := Lib.hid hel
  rw [hn] at hL hc1
  rw [hn]
  obtain ⟨w1, hr, hown, hg⟩ := run_make_full (P := Tryd.prog) w w.heap.size 71 3 i0 _ 1 Tryd.underlying71 hi hz0 hz1 .i64 .i64 n (by rw [hz2]; omega) (by unfold maxLen; omega) (Nat.le_refl _)
  have hbw1 : Below w.heap.size w w1 := (Below.refl _ _).grown hg (Nat.le_refl _) (by simp)
  have HST := Lib.hid (show TiR L w (.int .i64 0) w1 from ⟨0, _, rfl, Nat.zero_le _, fun i x h0 => absurd h0 (by omega), by rw [HN.out]; exact hown, hbw1⟩)
  clear hown hg hbw1 hi hz0 hz1 hz2 hn hel
  go_enter Tryd.func60, Tryd.ntmps60
  go_wp2
  go_loopw [4] (fun i wr => TiR L w i wr) (fun i _ => n - (intOf i).toNat)
  case atStart => exact HST.out
  case round =>
    obtain ⟨k, xs, rfl, hk, hpre, hown, hbw⟩ := hrel
    clear HST
    rw [HN.out] at hk hown
    have HP := Lib.hid hpre
    have HO := Lib.hid hown
    have HB := Lib.hid hbw
    clear hpre
    by_cases hlt : k < n
    · have hk' : (k : Int) < (n : Int) := by omega
      obtain ⟨y, hy⟩ : ∃ y, L[k]? = some y := ⟨_, List.getElem?_eq_getElem (by rw [HN.out]; exact hlt)⟩
      have HY := Lib.hid hy
      obtain ⟨b, o, rfl, hbl, hcell⟩ := HE.out.resolve_left (by rw [HN.out]; omega)
      have r1 : wr.cell? ⟨b, o + k, none⟩ = some (.int .i64 y) := (hbw.cell (p := ⟨b, o + k, none⟩) hbl).trans (hcell k y hy)
      have hl2 := hown.1
      obtain ⟨x0, hx0⟩ : ∃ x, wr.cell? ⟨w.heap.size, k, none⟩ = some x := ⟨_, (hown.cellAt k (by omega)).trans (List.getElem?_eq_getElem (by omega))⟩
      have hfz := fun o => hown.frozenAt o
      clear hcell hy hbw hown hl2
      go_wp2_with fail
      generalize hW2 : World.setCell _ _ _ = W2
      have hst := HO.out.stored k (.int .i64 y)
      rw [hW2] at hst
      refine ⟨⟨k + 1, _, by go_num, by rw [HN.out]; omega, fun i x h1 h2 => ?_, by rw [HN.out]; exact hst.1, ?_⟩, ?_⟩
      · by_cases hik : i < k
        · subst hW2
          rw [cell_put _ _ _ _ _ (by omega)]
          exact HP.out i x hik h2
        · obtain rfl : i = k := by omega
          have e := HY.out
          rw [h2] at e
          obtain rfl := Option.some.inj e
          rw [hst.1.cellAt i (by omega)]
          have := HO.out.1
          simp [List.getElem?_set]
          omega
      · subst hW2
        exact HB.out.setCell (Nat.le_refl _) _
      · simp [intOf]; omega
    · have hk' : ¬ (k : Int) < (n : Int) := by omega
      obtain rfl : k = n := by omega
      have hlt : w.heap.size < wr.heap.size := (hown.lt w.heap.size rfl).2
      go_wp2
      go_ret
      refine ⟨_, rfl, ⟨some ⟨w.heap.size, 0, none⟩, k, by rw [HN.out]; rfl, by rw [HN.out]; omega, by unfold maxLen; omega, .inr ⟨w.heap.size, 0, rfl, Nat.le_refl _, hlt, fun i x hx => ?_⟩⟩, HB.out⟩
      rw [Nat.zero_add]
      exact HP.out i x (by rw [← HN.out]; exact (List.getElem?_eq_some_iff.1 hx).1) hx
theorem toIntS_is (v : Value) (L : List Int) (w : World) (hL : L.length ≤ 1048576) (h : RdJ w v L) :
    Calls Tryd.prog 60 #[v] w fun e w' => ∃ s, e = .returned s ∧ RdJ w' s L ∧ Below w.heap.size w w' :=
  (toIntS_at v L w hL h).mono fun _ _ ⟨s, h1, h2, h3⟩ => ⟨s, h1, h2.rd, h3⟩

end Go.Proofs.YtbppcpaodfjpkaaDoor
