/- Lists of atoms as an argument: contracts of szAtomS, toAtomS and of ClauseValid, the program's and the model's. -/
import Derived.Test.YtaiajdeognnndaaAtS
import Derived.Test.YtaiajdeognnndaaAtB
import Derived.Test.YtaiajdeognnndaaFormA
import Derived.Test.YtaiajdeognnndaaFormC
import Derived.Test.YtaiajdeognnndaaDr1
import Derived.Laws.OwnMore
import Derived.Deep.RegionWith
namespace Go.Proofs.Ytaiajdeognnndaa
open Go.RowKit

/-- The slice v, an argument, reads as the atoms L. -/
def RdG (w : World) (v : Value) (L : List AtD) : Prop :=
  ∃ sp cap, v = .slice sp L.length cap ∧ L.length ≤ cap ∧ cap ≤ maxLen ∧ (L.length = 0 ∨ ∃ b o, sp = some ⟨b, o, none⟩ ∧ b < w.heap.size ∧ ∀ i x, L[i]? = some x → ARow w b (o + i * 7) x)

theorem rdG_on {w w' : World} {v : Value} {L : List AtD} (h : RdG w v L) (hb : Below w.heap.size w w') : RdG w' v L := by
  obtain ⟨sp, cap, hv, h1, h2, hc⟩ := h
  refine ⟨sp, cap, hv, h1, h2, ?_⟩
  rcases hc with h0 | ⟨b, o', he, hlt, hc⟩
  · exact Or.inl h0
  · refine Or.inr ⟨b, o', he, Nat.lt_of_lt_of_le hlt hb.size, fun i x hx => ?_⟩
    have f : ∀ o, w'.cell? ⟨b, o, none⟩ = w.cell? ⟨b, o, none⟩ := fun o => hb.cell (p := ⟨b, o, none⟩) hlt
    have := hc i x hx
    simpa only [ARow, f] using this

theorem RdA.slice {w : World} {v : Value} {L : List AtD} (h : RdA w v L) : ∃ a n c, v = .slice a n c := by
  obtain ⟨sp, cap, e, _⟩ := h
  exact ⟨_, _, _, e⟩

/-- The ints of an atom, as a value. -/
def avF (x : AtD) : Bool := avB x.k x.m x.a x.b x.c x.d x.n

theorem szAtomS_is (v : Value) (L : List AtD) (w : World) (h : RdG w v L) :
    Calls Try.prog 7 #[v, .int .i64 1048576] w fun e w' => e = .returned (.int .i64 (szI L.length 1048576)) ∧ w = w' := by
  obtain ⟨sp, cap, rfl, h1, h2, _⟩ := h
  unfold maxLen at h2
  by_cases hl : L.length ≤ 1048576
  · rw [szI_pos hl]
    go_enter Try.func7, Try.ntmps7
    go_wp2
    go_ret
    exact ⟨ret_i (by omega), rfl⟩
  · rw [szI_neg (by omega)]
    go_enter Try.func7, Try.ntmps7
    go_wp2
    go_ret
    exact ⟨rfl, rfl⟩

theorem put7b {w : World} {base E B0 n cap k : Nat} {xs : List Value} (v0 v1 v2 v3 v4 v5 v6 : Value) (own : w.ownsRow base E 7 (.slice (some ⟨B0, 0, none⟩) n cap) n xs) (hk : k < n) {W : World}
    (hW : (((((((w.setCell ⟨B0, k * 7, none⟩ v0).setCell ⟨B0, k * 7 + 1, none⟩ v1).setCell ⟨B0, k * 7 + 2, none⟩ v2).setCell ⟨B0, k * 7 + 3, none⟩ v3).setCell ⟨B0, k * 7 + 4, none⟩ v4).setCell ⟨B0, k * 7 + 5, none⟩ v5).setCell ⟨B0, k * 7 + 6, none⟩ v6) = W) :
    (∃ xs', W.ownsRow base E 7 (.slice (some ⟨B0, 0, none⟩) n cap) n xs') ∧ (∀ B, B ≤ B0 → Below B w W) ∧ (∀ j, j < k * 7 → W.cell? ⟨B0, j, none⟩ = w.cell? ⟨B0, j, none⟩) ∧
      W.cell? ⟨B0, k * 7, none⟩ = some v0 ∧ W.cell? ⟨B0, k * 7 + 1, none⟩ = some v1 ∧ W.cell? ⟨B0, k * 7 + 2, none⟩ = some v2 ∧ W.cell? ⟨B0, k * 7 + 3, none⟩ = some v3 ∧ W.cell? ⟨B0, k * 7 + 4, none⟩ = some v4 ∧
      W.cell? ⟨B0, k * 7 + 5, none⟩ = some v5 ∧ W.cell? ⟨B0, k * 7 + 6, none⟩ = some v6 := by
  have o1 := own.stored (k * 7) v0
  have o2 := o1.1.stored (k * 7 + 1) v1
  have o3 := o2.1.stored (k * 7 + 2) v2
  have o4 := o3.1.stored (k * 7 + 3) v3
  have o5 := o4.1.stored (k * 7 + 4) v4
  have o6 := o5.1.stored (k * 7 + 5) v5
  have o7 := o6.1.stored (k * 7 + 6) v6
  rw [hW] at o7
  have hl := own.1
  have g : ∀ j, j < n * 7 → W.cell? ⟨B0, j, none⟩ = _ := fun j hj => o7.1.cellAt j hj
  refine ⟨⟨_, o7.1⟩, ?_, ?_, ?_⟩
  · intro B hB
    subst hW
    exact ((((((((Below.refl B w).setCell hB v0).setCell hB v1).setCell hB v2).setCell hB v3).setCell hB v4).setCell hB v5).setCell hB v6)
  · intro j hj
    subst hW
    repeat rw [cell_set _ _ _ _ _ (by omega)]
  · refine ⟨?_, ?_, ?_, ?_, ?_, ?_, ?_⟩ <;> rw [g _ (by omega)] <;> simp [hl, List.getElem?_set] <;> omega

theorem Try.infoAtom : (Try.prog.info? 49).map (fun i => (i.zero, i.size, i.bytes)) = some (some (.agg #[.int .i64 0, .int .i64 0, .int .i64 0, .int .i64 0, .int .i64 0, .int .i64 0, .int .i64 0]), 7, 56) := by kernel_rfl

def TaR (L : List AtD) (w : World) (i : Value) (wr : World) : Prop :=
  ∃ (k : Nat) (xs : List Value), i = .int .i64 k ∧ k ≤ L.length ∧ (∀ i x, i < k → L[i]? = some x → ARow wr w.heap.size (i * 7) x) ∧
    wr.ownsRow w.heap.size 49 7 (.slice (some ⟨w.heap.size, 0, none⟩) L.length L.length) L.length xs ∧ Below w.heap.size w wr

/-- The slice v reads as the atoms L, and lies in a block from B on. -/
def RdAb (w : World) (B : Nat) (v : Value) (L : List AtD) : Prop :=
  ∃ sp cap, v = .slice sp L.length cap ∧ (L.length = 0 ∨ ∃ b, sp = some ⟨b, 0, none⟩ ∧ B ≤ b ∧ b < w.heap.size ∧ ∀ i x, L[i]? = some x → ARow w b (i * 7) x)
theorem RdAb.rd {w : World} {B : Nat} {v : Value} {L : List AtD} (h : RdAb w B v L) : RdA w v L := by
  obtain ⟨sp, cap, e, h⟩ := h
  exact ⟨sp, cap, e, h.imp id fun ⟨b, e, _, h1, h2⟩ => ⟨b, e, h1, h2⟩⟩
def TaPost (L : List AtD) (w : World) (e : Ending) (w' : World) : Prop := ∃ s', e = .returned s' ∧ RdA w' s' L ∧ Below w.heap.size w w'
def TbPost (L : List AtD) (w : World) (e : Ending) (w' : World) : Prop := ∃ s', e = .returned s' ∧ RdAb w' w.heap.size s' L ∧ Below w.heap.size w w'
def ToPost (L : List AtD) (w : World) (e : Ending) (w' : World) : Prop := ∃ s', e = .returned s' ∧ OwnA w' w.heap.size s' L ∧ Below w.heap.size w w' ∧ s' = .slice (some ⟨w.heap.size, 0, none⟩) L.length L.length
theorem ownA_rdAb {w : World} {B : Nat} {v : Value} {L : List AtD} (h : OwnA w B v L) : RdAb w B v L := by
  have h' : w.ownsRow B 49 7 v L.length (AL L) := h
  rcases h'.2 with ⟨rfl, hn⟩ | ⟨g, cap, cur, rfl, hb, hg, _⟩
  · exact ⟨none, 0, by rw [hn], Or.inl hn⟩
  · refine ⟨some ⟨g, 0, none⟩, cap, rfl, Or.inr ⟨g, rfl, hb, (Array.getElem?_eq_some_iff.1 hg).1, fun i x hx => ?_⟩⟩
    have hi : i < L.length := (List.getElem?_eq_some_iff.1 hx).1
    refine ⟨?_, ?_, ?_, ?_, ?_, ?_, ?_⟩
    · exact (h'.cellAt (i * 7) (by omega)).trans (al_at hx 0 (by omega))
    · exact (h'.cellAt (i * 7 + 1) (by omega)).trans (al_at hx 1 (by omega))
    · exact (h'.cellAt (i * 7 + 2) (by omega)).trans (al_at hx 2 (by omega))
    · exact (h'.cellAt (i * 7 + 3) (by omega)).trans (al_at hx 3 (by omega))
    · exact (h'.cellAt (i * 7 + 4) (by omega)).trans (al_at hx 4 (by omega))
    · exact (h'.cellAt (i * 7 + 5) (by omega)).trans (al_at hx 5 (by omega))
    · exact (h'.cellAt (i * 7 + 6) (by omega)).trans (al_at hx 6 (by omega))
theorem own_of_rows {w : World} {B b n : Nat} {xs : List Value} {L : List AtD} (hn : L.length = n) (ho : w.ownsRow B 49 7 (.slice (some ⟨b, 0, none⟩) n n) n xs) (h : ∀ i x, L[i]? = some x → ARow w b (i * 7) x) : OwnA w B (.slice (some ⟨b, 0, none⟩) n n) L := by
  have hx : xs = AL L := by
    have hl := ho.1
    refine List.ext_getElem? fun j => ?_
    by_cases hj : j < n * 7
    · have hc := ho.cellAt j hj
      obtain ⟨i, t, hi, ht, rfl⟩ : ∃ i t, i < n ∧ t < 7 ∧ j = i * 7 + t := ⟨j / 7, j % 7, by omega, by omega, by omega⟩
      obtain ⟨x, hx⟩ : ∃ x, L[i]? = some x := ⟨_, List.getElem?_eq_getElem (by omega)⟩
      rw [← hc, al_at hx t ht]
      obtain ⟨r0, r1, r2, r3, r4, r5, r6⟩ := h i x hx
      match t, ht with
      | 0, _ => exact r0
      | 1, _ => exact r1
      | 2, _ => exact r2
      | 3, _ => exact r3
      | 4, _ => exact r4
      | 5, _ => exact r5
      | 6, _ => exact r6
    · rw [List.getElem?_eq_none (by omega), List.getElem?_eq_none (by rw [al_len]; omega)]
  subst hx
  unfold OwnA
  rw [hn]
  exact ho

set_option maxHeartbeats 1000000 in
theorem toAtomS_own (v : Value) (L : List AtD) (w : World) (hL : L.length ≤ 1048576) (h : RdG w v L) : Calls Try.prog 9 #[v] w (ToPost L w) := by
  obtain ⟨i0, hi, hz0, hz1, hz2⟩ := info_parts Try.infoAtom
  obtain ⟨sp, cap, rfl, hc1, hc2, hel⟩ := h
  unfold maxLen at hc2
  obtain ⟨n, hn⟩ : ∃ n, L.length = n := ⟨_, rfl⟩
  have HN := Lib.hid hn
  have HE := Lib.hid hel
  rw [hn] at hL hc1
  rw [hn]
  obtain ⟨w1, hr, hown, hg⟩ := run_make_full (P := Try.prog) w w.heap.size 24 49 i0 _ 7 Try.underlying24 hi hz0 hz1 .i64 .i64 n (by rw [hz2]; omega) (by unfold maxLen; omega) (Nat.le_refl _)
  have hbw1 : Below w.heap.size w w1 := (Below.refl _ _).grown hg (Nat.le_refl _) (by simp)
  have HST := Lib.hid (show TaR L w (.int .i64 0) w1 from ⟨0, _, rfl, Nat.zero_le _, fun i x h0 => absurd h0 (by omega), by rw [HN.out]; exact hown, hbw1⟩)
  clear hown hg hbw1 hi hz0 hz1 hz2 hn hel
  go_enter Try.func9, Try.ntmps9
  go_wp2
  go_loopw [4] (fun i wr => TaR L w i wr) (fun i _ => n - (intOf i).toNat)
  case atStart => exact HST.out
  case round =>
    obtain ⟨k, xs, rfl, hk, hpre, hown, hbw⟩ := hrel
    clear HST
    rw [HN.out] at hk hown
    have HP := Lib.hid hpre
    have HO := Lib.hid hown
    have HB := Lib.hid hbw
    clear hpre
    by_cases hlt : k < n
    · have hk' : (k : Int) < (n : Int) := by omega
      obtain ⟨y, hy⟩ : ∃ y, L[k]? = some y := ⟨_, List.getElem?_eq_getElem (by rw [HN.out]; exact hlt)⟩
      have HY := Lib.hid hy
      obtain ⟨b, o, rfl, hbl, hcell⟩ := HE.out.resolve_left (by rw [HN.out]; omega)
      have f : ∀ o, wr.cell? ⟨b, o, none⟩ = w.cell? ⟨b, o, none⟩ := fun o => hbw.cell (p := ⟨b, o, none⟩) hbl
      have r1 : ARow wr b (o + k * 7) y := by have := hcell k y hy; simpa only [ARow, f] using this
      have hB0 : w.heap.size < wr.heap.size := (hown.lt w.heap.size rfl).2
      obtain ⟨c0, c1, c2, c3, c4, c5, c6⟩ := r1
      clear hcell f hy hbw hown
      go_wp2_with fail
      refine (toAtom_any _ _ _ _ _ _ _ _).mono ?_
      rintro e w2 ⟨rfl, hb2⟩
      have hown2 := own_below (show wr.ownsRow w.heap.size 49 7 _ n xs from HO.out) hb2
      have HO2 := Lib.hid hown2
      have hl2 := hown2.1
      obtain ⟨x0, hx0⟩ : ∃ x, w2.cell? ⟨w.heap.size, k * 7, none⟩ = some x := ⟨_, (hown2.cellAt (k * 7) (by omega)).trans (List.getElem?_eq_getElem (by omega))⟩
      obtain ⟨x1, hx1⟩ : ∃ x, w2.cell? ⟨w.heap.size, k * 7 + 1, none⟩ = some x := ⟨_, (hown2.cellAt (k * 7 + 1) (by omega)).trans (List.getElem?_eq_getElem (by omega))⟩
      obtain ⟨x2, hx2⟩ : ∃ x, w2.cell? ⟨w.heap.size, k * 7 + 2, none⟩ = some x := ⟨_, (hown2.cellAt (k * 7 + 2) (by omega)).trans (List.getElem?_eq_getElem (by omega))⟩
      obtain ⟨x3, hx3⟩ : ∃ x, w2.cell? ⟨w.heap.size, k * 7 + 3, none⟩ = some x := ⟨_, (hown2.cellAt (k * 7 + 3) (by omega)).trans (List.getElem?_eq_getElem (by omega))⟩
      obtain ⟨x4, hx4⟩ : ∃ x, w2.cell? ⟨w.heap.size, k * 7 + 4, none⟩ = some x := ⟨_, (hown2.cellAt (k * 7 + 4) (by omega)).trans (List.getElem?_eq_getElem (by omega))⟩
      obtain ⟨x5, hx5⟩ : ∃ x, w2.cell? ⟨w.heap.size, k * 7 + 5, none⟩ = some x := ⟨_, (hown2.cellAt (k * 7 + 5) (by omega)).trans (List.getElem?_eq_getElem (by omega))⟩
      obtain ⟨x6, hx6⟩ : ∃ x, w2.cell? ⟨w.heap.size, k * 7 + 6, none⟩ = some x := ⟨_, (hown2.cellAt (k * 7 + 6) (by omega)).trans (List.getElem?_eq_getElem (by omega))⟩
      have hfz := fun o => hown2.frozenAt o
      have HP2 := Lib.hid (show ∀ i x, i < k → L[i]? = some x → ARow w2 w.heap.size (i * 7) x from fun i x h1 h2 => by
        have f : ∀ o, w2.cell? ⟨w.heap.size, o, none⟩ = wr.cell? ⟨w.heap.size, o, none⟩ := fun o => hb2.cell (p := ⟨w.heap.size, o, none⟩) hB0
        have := HP.out i x h1 h2
        simpa only [ARow, f] using this)
      have HB2 := Lib.hid (below_on HB.out hb2)
      have hsz2 := hb2.size
      clear c0 c1 c2 c3 c4 c5 c6 hown2 hb2 hl2
      go_wp2_with fail
      generalize hW2 : World.setCell _ _ _ = W2
      obtain ⟨⟨ys, ho⟩, hbl, hpr, g0, g1, g2, g3, g4, g5, g6⟩ := put7b _ _ _ _ _ _ _ HO2.out hlt hW2
      refine ⟨⟨k + 1, ys, by go_num, by rw [HN.out]; omega, fun i x h1 h2 => ?_, by rw [HN.out]; exact ho, HB2.out.trans (hbl w.heap.size (Nat.le_refl _))⟩, ?_⟩
      · by_cases hik : i < k
        · obtain ⟨a0, a1, a2, a3, a4, a5, a6⟩ := HP2.out i x hik h2
          exact ⟨(hpr _ (by omega)).trans a0, (hpr _ (by omega)).trans a1, (hpr _ (by omega)).trans a2, (hpr _ (by omega)).trans a3, (hpr _ (by omega)).trans a4, (hpr _ (by omega)).trans a5, (hpr _ (by omega)).trans a6⟩
        · obtain rfl : i = k := by omega
          have e := HY.out
          rw [h2] at e
          obtain rfl := Option.some.inj e
          exact ⟨g0, g1, g2, g3, g4, g5, g6⟩
      · simp [intOf]; omega
    · have hk' : ¬ (k : Int) < (n : Int) := by omega
      obtain rfl : k = n := by omega
      clear hown
      go_wp2
      go_ret
      exact ⟨_, rfl, own_of_rows HN.out HO.out (fun i x h2 => HP.out i x (by have := (List.getElem?_eq_some_iff.1 h2).1; rw [HN.out] at this; exact this) h2), hbw, by rw [HN.out]; rfl⟩
theorem toAtomS_at (v : Value) (L : List AtD) (w : World) (hL : L.length ≤ 1048576) (h : RdG w v L) : Calls Try.prog 9 #[v] w (TbPost L w) :=
  (toAtomS_own v L w hL h).mono fun _ _ ⟨s', h1, h2, h3, _⟩ => ⟨s', h1, ownA_rdAb h2, h3⟩
theorem toAtomS_is (v : Value) (L : List AtD) (w : World) (hL : L.length ≤ 1048576) (h : RdG w v L) : Calls Try.prog 9 #[v] w (TaPost L w) :=
  (toAtomS_own v L w hL h).mono fun _ _ ⟨s', h1, h2, h3, _⟩ => ⟨s', h1, ownA_reads h2, h3⟩

/-- Whether a list of atoms is a clause. -/
def cvB (L : List AtD) : Bool := decide (L.length ≤ 600) && L.all avF
theorem all_at {L : List AtD} {k : Nat} {y : AtD} (h : L[k]? = some y) (hy : avF y = false) : L.all avF = false := by
  rw [List.all_eq_false]
  exact ⟨y, List.mem_of_getElem? h, by simp [hy]⟩
theorem all_of {L : List AtD} (h : ∀ (i : Nat) (x : AtD), i < L.length → L[i]? = some x → avF x = true) : L.all avF = true := by
  rw [List.all_eq_true]
  intro x hx
  obtain ⟨i, hi, e⟩ := List.mem_iff_getElem.1 hx
  exact h i x hi (by rw [List.getElem?_eq_getElem hi, e])

set_option maxHeartbeats 1000000 in
theorem ClauseValid_is (v : Value) (L : List AtD) (w : World) (h : RdA w v L) (hL : L.length ≤ 1048576) :
    Calls Try.prog 69 #[v] w fun e w' => e = .returned (.bool (cvB L)) ∧ Below w.heap.size w w' := by
  obtain ⟨sp, cap, rfl, hc⟩ := h
  obtain ⟨n, hn⟩ : ∃ n, L.length = n := ⟨_, rfl⟩
  have HN := Lib.hid hn
  have HC := Lib.hid hc
  by_cases h6 : n ≤ 600
  · have HR := Lib.hid (show cvB L = L.all avF by simp [cvB, hn, h6])
    rw [HR.out]
    clear HR
    rw [hn] at hL ⊢
    clear hn hc
    go_enter Try.func69, Try.ntmps69
    go_wp2
    go_loopw [10] (fun i wr => ∃ k : Nat, i = .int .i64 k ∧ k ≤ n ∧ Below w.heap.size w wr ∧ ∀ (i : Nat) (x : AtD), i < k → L[i]? = some x → avF x = true) (fun i _ => n - (intOf i).toNat)
    case atStart => exact ⟨0, rfl, Nat.zero_le _, Below.refl _ _, fun i x h0 => absurd h0 (by omega)⟩
    case round =>
      obtain ⟨k, rfl, hk, hbw, hall⟩ := hrel
      have HA := Lib.hid hall
      have HB := Lib.hid hbw
      clear hall
      by_cases hlt : k < n
      · have hk' : (k : Int) < (n : Int) := by omega
        obtain ⟨y, hy⟩ : ∃ y, L[k]? = some y := ⟨_, List.getElem?_eq_getElem (by rw [HN.out]; exact hlt)⟩
        have HY := Lib.hid hy
        obtain ⟨b, rfl, hbl, hcell⟩ := HC.out.resolve_left (by rw [HN.out]; omega)
        have f : ∀ o, wr.cell? ⟨b, o, none⟩ = w.cell? ⟨b, o, none⟩ := fun o => hbw.cell (p := ⟨b, o, none⟩) hbl
        have r1 : ARow wr b (k * 7) y := by have := hcell k y hy; simpa only [ARow, f] using this
        obtain ⟨c0, c1, c2, c3, c4, c5, c6⟩ := r1
        clear hcell f hy hbw
        obtain ⟨t, ht⟩ : ∃ t, avF y = t := ⟨_, rfl⟩
        have HT := Lib.hid ht
        clear ht
        go_wp2_with fail
        generalize hW : World.alloc _ _ = W
        have hw : Below wr.heap.size wr W := by subst hW; go_grown
        clear hW c0 c1 c2 c3 c4 c5 c6
        refine (AtomValid_is _ _ _ _ _ _ _ t _ HT.out).mono ?_
        rintro e w2 ⟨rfl, hb2⟩
        have HB2 := Lib.hid (below_on HB.out (below_on hw hb2))
        cases t with
        | false =>
          go_wp2
          go_ret
          exact ⟨by rw [all_at HY.out HT.out]; rfl, HB2.out⟩
        | true =>
          go_wp2
          go_roundw
          case rel => exact ⟨k + 1, by go_num, by omega, HB2.out, fun i x h1 h2 => by
            by_cases hik : i < k
            · exact HA.out i x hik h2
            · obtain rfl : i = k := by omega
              have e := HY.out
              rw [h2] at e
              obtain rfl := Option.some.inj e
              exact HT.out⟩
          case measure => simp [intOf]; omega
      · have hk' : ¬ (k : Int) < (n : Int) := by omega
        obtain rfl : k = n := by omega
        go_wp2
        go_ret
        exact ⟨by rw [all_of (fun i x h1 h2 => HA.out i x (by rw [← HN.out]; exact h1) h2)]; rfl, hbw⟩
  · have HR := Lib.hid (show cvB L = false by simp [cvB, hn, h6])
    rw [HR.out]
    clear HR
    rw [hn] at hL ⊢
    have h6' : (600 : Int) < n := by omega
    go_enter Try.func69, Try.ntmps69
    go_wp2
    go_ret
    exact ⟨rfl, Below.refl _ _⟩

set_option maxHeartbeats 1000000 in
theorem specClauseValid_is (v : Value) (L : List AtD) (w : World) (h : RdA w v L) (hL : L.length ≤ 1048576) :
    Calls Try.prog 78 #[v] w fun e w' => e = .returned (.bool (cvB L)) ∧ Below w.heap.size w w' := by
  obtain ⟨sp, cap, rfl, hc⟩ := h
  obtain ⟨n, hn⟩ : ∃ n, L.length = n := ⟨_, rfl⟩
  have HN := Lib.hid hn
  have HC := Lib.hid hc
  rw [hn] at hL ⊢
  clear hn hc
  go_enter Try.func78, Try.ntmps78
  go_wp2
  go_loopw [3] (fun i wr => ∃ k : Nat, i = .int .i64 k ∧ k ≤ n ∧ Below w.heap.size w wr ∧ ∀ (i : Nat) (x : AtD), i < k → L[i]? = some x → avF x = true) (fun i _ => n - (intOf i).toNat)
  case atStart => exact ⟨0, rfl, Nat.zero_le _, Below.refl _ _, fun i x h0 => absurd h0 (by omega)⟩
  case round =>
    obtain ⟨k, rfl, hk, hbw, hall⟩ := hrel
    have HA := Lib.hid hall
    have HB := Lib.hid hbw
    clear hall
    by_cases hlt : k < n
    · have hk' : (k : Int) < (n : Int) := by omega
      obtain ⟨y, hy⟩ : ∃ y, L[k]? = some y := ⟨_, List.getElem?_eq_getElem (by rw [HN.out]; exact hlt)⟩
      have HY := Lib.hid hy
      obtain ⟨b, rfl, hbl, hcell⟩ := HC.out.resolve_left (by rw [HN.out]; omega)
      have f : ∀ o, wr.cell? ⟨b, o, none⟩ = w.cell? ⟨b, o, none⟩ := fun o => hbw.cell (p := ⟨b, o, none⟩) hbl
      have r1 : ARow wr b (k * 7) y := by have := hcell k y hy; simpa only [ARow, f] using this
      obtain ⟨c0, c1, c2, c3, c4, c5, c6⟩ := r1
      clear hcell f hy hbw
      obtain ⟨t, ht⟩ : ∃ t, avF y = t := ⟨_, rfl⟩
      have HT := Lib.hid ht
      clear ht
      go_wp2_with fail
      refine (specAtomValid_is _ _ _ _ _ _ _ t _ HT.out).mono ?_
      rintro e w2 ⟨rfl, hb2⟩
      have HB2 := Lib.hid (below_on HB.out hb2)
      clear c0 c1 c2 c3 c4 c5 c6
      cases t with
      | false =>
        go_wp2
        go_ret
        exact ⟨by simp [cvB, all_at HY.out HT.out], HB2.out⟩
      | true =>
        go_wp2
        go_roundw
        case rel => exact ⟨k + 1, by go_num, by omega, HB2.out, fun i x h1 h2 => by
          by_cases hik : i < k
          · exact HA.out i x hik h2
          · obtain rfl : i = k := by omega
            have e := HY.out
            rw [h2] at e
            obtain rfl := Option.some.inj e
            exact HT.out⟩
        case measure => simp [intOf]; omega
    · have hk' : ¬ (k : Int) < (n : Int) := by omega
      obtain rfl : k = n := by omega
      have HR := Lib.hid (show cvB L = decide ((k : Int) ≤ 600) from by
        rw [cvB, all_of (fun i x h1 h2 => HA.out i x (by rw [← HN.out]; exact h1) h2), HN.out, Bool.and_true]
        by_cases g : k ≤ 600
        · rw [decide_eq_true g, decide_eq_true (by omega)]
        · rw [decide_eq_false g, decide_eq_false (by omega)])
      go_wp2
      go_ret
      exact ⟨by rw [HR.out]; rfl, hbw⟩

set_option maxRecDepth 10000 in
set_option maxHeartbeats 1000000 in
theorem eqAtomS_big (v u : Value) (L : List AtD) (w : World) (h1 : RdA w v L) (h2 : RdA w u L) (hL : L.length ≤ 1048576) :
    Calls Try.prog 11 #[v, u] w fun e w' => e = .returned (.bool true) ∧ Below w.heap.size w w' := by
  obtain ⟨sp, cap, rfl, hc⟩ := h1
  obtain ⟨sp', cap', rfl, hc'⟩ := h2
  obtain ⟨N, hN⟩ : ∃ N, N = L.length := ⟨_, rfl⟩
  rw [← hN] at hL hc hc' ⊢
  have HN := Lib.hid hN
  have HC := Lib.hid hc
  have HC' := Lib.hid hc'
  clear hN hc hc'
  go_enter Try.func11, Try.ntmps11
  go_wp2
  go_loopw [5] (fun i wr => ∃ k : Nat, i = .int .i64 k ∧ k ≤ N ∧ Below w.heap.size w wr) (fun i _ => N - (intOf i).toNat)
  case atStart => exact ⟨0, rfl, by omega, Below.refl _ _⟩
  case round =>
    obtain ⟨k, rfl, hk, hbw⟩ := hrel
    by_cases hlt : k < N
    · have hk' : (k : Int) < (N : Int) := by omega
      have hk0 : (0 : Int) ≤ k := by omega
      obtain ⟨y, hy⟩ : ∃ y, L[k]? = some y := ⟨_, List.getElem?_eq_getElem (by rw [← HN.out]; exact hlt)⟩
      obtain ⟨b, rfl, hbl, hcell⟩ := HC.out.resolve_left (by omega)
      obtain ⟨b', rfl, hbl', hcell'⟩ := HC'.out.resolve_left (by omega)
      have f : ∀ o, wr.cell? ⟨b, o, none⟩ = w.cell? ⟨b, o, none⟩ := fun o => hbw.cell (p := ⟨b, o, none⟩) hbl
      have f' : ∀ o, wr.cell? ⟨b', o, none⟩ = w.cell? ⟨b', o, none⟩ := fun o => hbw.cell (p := ⟨b', o, none⟩) hbl'
      have r1 : ARow wr b (k * 7) y := by have := hcell k y hy; simpa only [ARow, f] using this
      have r2 : ARow wr b' (k * 7) y := by have := hcell' k y hy; simpa only [ARow, f'] using this
      obtain ⟨c0, c1, c2, c3, c4, c5, c6⟩ := r1
      obtain ⟨d0, d1, d2, d3, d4, d5, d6⟩ := r2
      have HB := Lib.hid hbw
      clear hcell hcell' hy f f' hbw
      go_wp2_with fail
      go_region_with (go_at_call 35; (with_reducible refine (eqAtom_same _ _ _ _ _ _ _ _).mono ?_); rintro e w1 ⟨rfl, hb1⟩)
      all_goals
        have hb2 : Below wr.heap.size wr w1 := below_on (by go_grown) hb1
        have HB1 := Lib.hid (below_on HB.out hb2)
        clear c0 c1 c2 c3 c4 c5 c6 d0 d1 d2 d3 d4 d5 d6 hb1 hb2
        go_wp2
        go_roundw
        case rel => exact ⟨k + 1, by go_num, by omega, HB1.out⟩
        case measure => simp [intOf]; omega
    · have hk' : ¬ (k : Int) < (N : Int) := by omega
      go_wp2
      go_ret
      exact ⟨rfl, hbw⟩


end Go.Proofs.Ytaiajdeognnndaa
