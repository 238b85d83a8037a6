/- Lists of atoms as an argument: contracts of szAtomS, toAtomS and of ClauseValid, the program's and the model's. -/
import Derived.Test.YtjgmoledhkikcaaDoorAtS
import Derived.Test.YtjgmoledhkikcaaDoorAtB
import Derived.Test.YtjgmoledhkikcaaDoorFormA
import Derived.Test.YtjgmoledhkikcaaDoorFormC
import Derived.Test.YtjgmoledhkikcaaDoorDr1
import Derived.Laws.OwnMore
import Derived.Deep.RegionWith
namespace Go.Proofs.YtjgmoledhkikcaaDoor
open Go.RowKit

/-- The slice v, an argument, reads as the atoms L. -/
def RdG (w : World) (v : Value) (L : List AtD) : Prop :=
  ∃ sp cap, v = .slice sp L.length cap ∧ L.length ≤ cap ∧ cap ≤ maxLen ∧ (L.length = 0 ∨ ∃ b o, sp = some ⟨b, o, none⟩ ∧ b < w.heap.size ∧ ∀ i x, L[i]? = some x → ARow w b (o + i * 7) x)

theorem rdG_on {w w' : World} {v : Value} {L : List AtD} (h : RdG w v L) (hb : Below w.heap.size w w') : RdG w' v L := by
  obtain ⟨sp, cap, hv, h1, h2, hc⟩ := h
  refine ⟨sp, cap, hv, h1, h2, ?_⟩
  rcases hc with h0 | ⟨b, o', he, hlt, hc⟩
  · exact Or.inl h0
  · refine Or.inr ⟨b, o', he, Nat.lt_of_lt_of_le hlt hb.size, fun i x hx => ?_⟩
    have f : ∀ o, w'.cell? ⟨b, o, none⟩ = w.cell? ⟨b, o, none⟩ := fun o => hb.cell (p := ⟨b, o, none⟩) hlt
    have := hc i x hx
    simpa only [ARow, f] using this

theorem RdA.slice {w : World} {v : Value} {L : List AtD} (h : RdA w v L) : ∃ a n c, v = .slice a n c := by
  obtain ⟨sp, cap, e, _⟩ := h
  exact ⟨_, _, _, e⟩

/-- The ints of an atom, as a value. -/
def avF (x : AtD) : Bool := avB x.k x.m x.a x.b x.c x.d x.n

theorem put7b {w : World} {base E B0 n cap k : Nat} {xs : List Value} (v0 v1 v2 v3 v4 v5 v6 : Value) (own : w.ownsRow base E 7 (.slice (some ⟨B0, 0, none⟩) n cap) n xs) (hk : k < n) {W : World}
    (hW : (((((((w.setCell ⟨B0, k * 7, none⟩ v0).setCell ⟨B0, k * 7 + 1, none⟩ v1).setCell ⟨B0, k * 7 + 2, none⟩ v2).setCell ⟨B0, k * 7 + 3, none⟩ v3).setCell ⟨B0, k * 7 + 4, none⟩ v4).setCell ⟨B0, k * 7 + 5, none⟩ v5).setCell ⟨B0, k * 7 + 6, none⟩ v6) = W) :
    (∃ xs', W.ownsRow base E 7 (.slice (some ⟨B0, 0, none⟩) n cap) n xs') ∧ (∀ B, B ≤ B0 → Below B w W) ∧ (∀ j, j < k * 7 → W.cell? ⟨B0, j, none⟩ = w.cell? ⟨B0, j, none⟩) ∧
      W.cell? ⟨B0, k * 7, none⟩ = some v0 ∧ W.cell? ⟨B0, k * 7 + 1, none⟩ = some v1 ∧ W.cell? ⟨B0, k * 7 + 2, none⟩ = some v2 ∧ W.cell? ⟨B0, k * 7 + 3, none⟩ = some v3 ∧ W.cell? ⟨B0, k * 7 + 4, none⟩ = some v4 ∧
      W.cell? ⟨B0, k * 7 + 5, none⟩ = some v5 ∧ W.cell? ⟨B0, k * 7 + 6, none⟩ = some v6 := by
  have o1 := own.stored (k * 7) v0
  have o2 := o1.1.stored (k * 7 + 1) v1
  have o3 := o2.1.stored (k * 7 + 2) v2
  have o4 := o3.1.stored (k * 7 + 3) v3
  have o5 := o4.1.stored (k * 7 + 4) v4
  have o6 := o5.1.stored (k * 7 + 5) v5
  have o7 := o6.1.stored (k * 7 + 6) v6
  rw [hW] at o7
  have hl := own.1
  have g : ∀ j, j < n * 7 → W.cell? ⟨B0, j, none⟩ = _ := fun j hj => o7.1.cellAt j hj
  refine ⟨⟨_, o7.1⟩, ?_, ?_, ?_⟩
  · intro B hB
    subst hW
    exact ((((((((Below.refl B w).setCell hB v0).setCell hB v1).setCell hB v2).setCell hB v3).setCell hB v4).setCell hB v5).setCell hB v6)
  · intro j hj
    subst hW
    repeat rw [cell_set _ _ _ _ _ (by omega)]
  · refine ⟨?_, ?_, ?_, ?_, ?_, ?_, ?_⟩ <;> rw [g _ (by omega)] <;> simp [hl, List.getElem?_set] <;> omega

theorem Tryd.infoAtom : (Tryd.prog.info? 38).map (fun i => (i.zero, i.size, i.bytes)) = some (some (.agg #[.int .i64 0, .int .i64 0, .int .i64 0, .int .i64 0, .int .i64 0, .int .i64 0, .int .i64 0]), 7, 56) := by kernel_rfl

def TaR (L : List AtD) (w : World) (i : Value) (wr : World) : Prop :=
  ∃ (k : Nat) (xs : List Value), i = .int .i64 k ∧ k ≤ L.length ∧ (∀ i x, i < k → L[i]? = some x → ARow wr w.heap.size (i * 7) x) ∧
    wr.ownsRow w.heap.size 38 7 (.slice (some ⟨w.heap.size, 0, none⟩) L.length L.length) L.length xs ∧ Below w.heap.size w wr

/-- The slice v reads as the atoms L, and lies in a block from B on. -/
def RdAb (w : World) (B : Nat) (v : Value) (L : List AtD) : Prop :=
  ∃ sp cap, v = .slice sp L.length cap ∧ (L.length = 0 ∨ ∃ b, sp = some ⟨b, 0, none⟩ ∧ B ≤ b ∧ b < w.heap.size ∧ ∀ i x, L[i]? = some x → ARow w b (i * 7) x)
theorem RdAb.rd {w : World} {B : Nat} {v : Value} {L : List AtD} (h : RdAb w B v L) : RdA w v L := by
  obtain ⟨sp, cap, e, h⟩ := h
  exact ⟨sp, cap, e, h.imp id fun ⟨b, e, _, h1, h2⟩ => ⟨b, e, h1, h2⟩⟩
def TaPost (L : List AtD) (w : World) (e : Ending) (w' : World) : Prop := ∃ s', e = .returned s' ∧ RdA w' s' L ∧ Below w.heap.size w w'
def TbPost (L : List AtD) (w : World) (e : Ending) (w' : World) : Prop := ∃ s', e = .returned s' ∧ RdAb w' w.heap.size s' L ∧ Below w.heap.size w w'
def ToPost (L : List AtD) (w : World) (e : Ending) (w' : World) : Prop := ∃ s', e = .returned s' ∧ OwnA w' w.heap.size s' L ∧ Below w.heap.size w w' ∧ s' = .slice (some ⟨w.heap.size, 0, none⟩) L.length L.length
theorem ownA_rdAb {w : World} {B : Nat} {v : Value} {L : List AtD} (h : OwnA w B v L) : RdAb w B v L := by
  have h' : w.ownsRow B 38 7 v L.length (AL L) := h
  rcases h'.2 with ⟨rfl, hn⟩ | ⟨g, cap, cur, rfl, hb, hg, _⟩
  · exact ⟨none, 0, by rw [hn], Or.inl hn⟩
  · refine ⟨some ⟨g, 0, none⟩, cap, rfl, Or.inr ⟨g, rfl, hb, (Array.getElem?_eq_some_iff.1 hg).1, fun i x hx => ?_⟩⟩
    have hi : i < L.length := (List.getElem?_eq_some_iff.1 hx).1
    refine ⟨?_, ?_, ?_, ?_, ?_, ?_, ?_⟩
    · exact (h'.cellAt (i * 7) (by omega)).trans (al_at hx 0 (by omega))
    · exact (h'.cellAt (i * 7 + 1) (by omega)).trans (al_at hx 1 (by omega))
    · exact (h'.cellAt (i * 7 + 2) (by omega)).trans (al_at hx 2 (by omega))
    · exact (h'.cellAt (i * 7 + 3) (by omega)).trans (al_at hx 3 (by omega))
    · exact (h'.cellAt (i * 7 + 4) (by omega)).trans (al_at hx 4 (by omega))
    · exact (h'.cellAt (i * 7 + 5) (by omega)).trans (al_at hx 5 (by omega))
    · exact (h'.cellAt (i * 7 + 6) (by omega)).trans (al_at hx 6 (by omega))
theorem own_of_rows {w : World} {B b n : Nat} {xs : List Value} {L : List AtD} (hn : L.length = n) (ho : w.ownsRow B 38 7 (.slice (some ⟨b, 0, none⟩) n n) n xs) (h : ∀ i x, L[i]? = some x → ARow w b (i * 7) x) : OwnA w B (.slice (some ⟨b, 0, none⟩) n n) L := by
  have hx : xs = AL L := by
    have hl := ho.1
    refine List.ext_getElem? fun j => ?_
    by_cases hj : j < n * 7
    · have hc := ho.cellAt j hj
      obtain ⟨i, t, hi, ht, rfl⟩ : ∃ i t, i < n ∧ t < 7 ∧ j = i * 7 + t := ⟨j / 7, j % 7, by omega, by omega, by omega⟩
      obtain ⟨x, hx⟩ : ∃ x, L[i]? = some x := ⟨_, List.getElem?_eq_getElem (by omega)⟩
      rw [← hc, al_at hx t ht]
      obtain ⟨r0, r1, r2, r3, r4, r5, r6⟩ := h i x hx
      match t, ht with
      | 0, _ => exact r0
      | 1, _ => exact r1
      | 2, _ => exact r2
      | 3, _ => exact r3
      | 4, _ => exact r4
      | 5, _ => exact r5
      | 6, _ => exact r6
    · rw [List.getElem?_eq_none (by omega), List.getElem?_eq_none (by rw [al_len]; omega)]
  subst hx
  unfold OwnA
  rw [hn]
  exact ho

/-- Whether a list of atoms is a clause. -/
def cvB (L : List AtD) : Bool := decide (L.length ≤ 600) && L.all avF
theorem all_at {L : List AtD} {k : Nat} {y : AtD} (h : L[k]? = some y) (hy : avF y = false) : L.all avF = false := by
  rw [List.all_eq_false]
  exact ⟨y, List.mem_of_getElem? h, by simp [hy]⟩
theorem all_of {L : List AtD} (h : ∀ (i : Nat) (x : AtD), i < L.length → L[i]? = some x → avF x = true) : L.all avF = true := by
  rw [List.all_eq_true]
  intro x hx
  obtain ⟨i, hi, e⟩ := List.mem_iff_getElem.1 hx
  exact h i x hi (by rw [List.getElem?_eq_getElem hi, e])

set_option maxRecDepth 10000 in
set_option maxHeartbeats 1000000 in
theorem eqAtomS_big (v u : Value) (L : List AtD) (w : World) (h1 : RdA w v L) (h2 : RdA w u L) (hL : L.length ≤ 1048576) :
    Calls Tryd.prog 7 #[v, u] w fun e w' => e = .returned (.bool true) ∧ Below w.heap.size w w' := by
  obtain ⟨sp, cap, rfl, hc⟩ := h1
  obtain ⟨sp', cap', rfl, hc'⟩ := h2
  obtain ⟨N, hN⟩ : ∃ N, N = L.length := ⟨_, rfl⟩
  rw [← hN] at hL hc hc' ⊢
  have HN := Lib.hid hN
  have HC := Lib.hid hc
  have HC' := Lib.hid hc'
  clear hN hc hc'
  go_enter Tryd.func7, Tryd.ntmps7
  go_wp2
  go_loopw [5] (fun i wr => ∃ k : Nat, i = .int .i64 k ∧ k ≤ N ∧ Below w.heap.size w wr) (fun i _ => N - (intOf i).toNat)
  case atStart => exact ⟨0, rfl, by omega, Below.refl _ _⟩
  case round =>
    obtain ⟨k, rfl, hk, hbw⟩ := hrel
    by_cases hlt : k < N
    · have hk' : (k : Int) < (N : Int) := by omega
      have hk0 : (0 : Int) ≤ k := by omega
      obtain ⟨y, hy⟩ : ∃ y, L[k]? = some y := ⟨_, List.getElem?_eq_getElem (by rw [← HN.out]; exact hlt)⟩
      obtain ⟨b, rfl, hbl, hcell⟩ := HC.out.resolve_left (by omega)
      obtain ⟨b', rfl, hbl', hcell'⟩ := HC'.out.resolve_left (by omega)
      have f : ∀ o, wr.cell? ⟨b, o, none⟩ = w.cell? ⟨b, o, none⟩ := fun o => hbw.cell (p := ⟨b, o, none⟩) hbl
      have f' : ∀ o, wr.cell? ⟨b', o, none⟩ = w.cell? ⟨b', o, none⟩ := fun o => hbw.cell (p := ⟨b', o, none⟩) hbl'
      have r1 : ARow wr b (k * 7) y := by have := hcell k y hy; simpa only [ARow, f] using this
      have r2 : ARow wr b' (k * 7) y := by have := hcell' k y hy; simpa only [ARow, f'] using this
      obtain ⟨c0, c1, c2, c3, c4, c5, c6⟩ := r1
      obtain ⟨d0, d1, d2, d3, d4, d5, d6⟩ := r2
      have HB := Lib.hid hbw
      clear hcell hcell' hy f f' hbw
      go_wp2_with fail
      go_region_with (go_at_call 21; (with_reducible refine (eqAtom_same _ _ _ _ _ _ _ _).mono ?_); rintro e w1 ⟨rfl, hb1⟩)
      all_goals
        have hb2 : Below wr.heap.size wr w1 := below_on (by go_grown) hb1
        have HB1 := Lib.hid (below_on HB.out hb2)
        clear c0 c1 c2 c3 c4 c5 c6 d0 d1 d2 d3 d4 d5 d6 hb1 hb2
        go_wp2
        go_roundw
        case rel => exact ⟨k + 1, by go_num, by omega, HB1.out⟩
        case measure => simp [intOf]; omega
    · have hk' : ¬ (k : Int) < (N : Int) := by omega
      go_wp2
      go_ret
      exact ⟨rfl, hbw⟩


end Go.Proofs.YtjgmoledhkikcaaDoor
