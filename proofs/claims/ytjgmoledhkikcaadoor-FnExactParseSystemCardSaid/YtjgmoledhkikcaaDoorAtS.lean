/- Lists of atoms as a law reads, marks and holds them: contracts of eqAtomS, markAtomS, heldAtomS. -/
import Derived.Test.YtjgmoledhkikcaaDoorDr1
import Derived.Test.YtjgmoledhkikcaaDoorAtC
import Derived.Laws.OwnMore
import Derived.Deep.RegionWith
namespace Go.Proofs.YtjgmoledhkikcaaDoor
open Go.RowKit

theorem ret_i {k : IntKind} {a b : Int} (h : a = b) : Ending.returned (.int k a) = .returned (.int k b) := by rw [h]

/-- An atom's seven ints. -/
structure AtD where
  (k m a b c d n : Int)
def acells (x : AtD) : List Value := [.int .i64 x.k, .int .i64 x.m, .int .i64 x.a, .int .i64 x.b, .int .i64 x.c, .int .i64 x.d, .int .i64 x.n]
/-- The cells of a list of atoms. -/
def AL : List AtD → List Value
  | [] => []
  | x :: r => acells x ++ AL r
theorem al_len (L : List AtD) : (AL L).length = L.length * 7 := by
  induction L with
  | nil => rfl
  | cons x r ih => simp only [AL, List.length_append, ih, List.length_cons]; simp [acells]; omega
theorem al_app (L M : List AtD) : AL (L ++ M) = AL L ++ AL M := by
  induction L with
  | nil => rfl
  | cons x r ih => simp only [AL, List.cons_append, ih, List.append_assoc]
theorem al_at {L : List AtD} {i : Nat} {x : AtD} (h : L[i]? = some x) (t : Nat) (ht : t < 7) : (AL L)[i * 7 + t]? = (acells x)[t]? := by
  induction L generalizing i with
  | nil => simp at h
  | cons y r ih =>
    cases i with
    | zero =>
      simp at h
      subst h
      simp only [AL, Nat.zero_mul, Nat.zero_add]
      rw [List.getElem?_append_left (by simpa [acells] using ht)]
    | succ i =>
      simp at h
      have := ih h
      simp only [AL]
      rw [List.getElem?_append_right (by simp [acells]; omega)]
      have e : (i + 1) * 7 + t - (acells y).length = i * 7 + t := by simp [acells]; omega
      rw [e, this]

/-- The slice v is made since block B and holds the atoms L. -/
def OwnA (w : World) (B : Nat) (v : Value) (L : List AtD) : Prop := w.ownsRow B 38 7 v L.length (AL L)
def ARow (w : World) (b o : Nat) (x : AtD) : Prop := w.cell? ⟨b, o, none⟩ = some (.int .i64 x.k) ∧ w.cell? ⟨b, o + 1, none⟩ = some (.int .i64 x.m) ∧ w.cell? ⟨b, o + 2, none⟩ = some (.int .i64 x.a) ∧ w.cell? ⟨b, o + 3, none⟩ = some (.int .i64 x.b) ∧ w.cell? ⟨b, o + 4, none⟩ = some (.int .i64 x.c) ∧ w.cell? ⟨b, o + 5, none⟩ = some (.int .i64 x.d) ∧ w.cell? ⟨b, o + 6, none⟩ = some (.int .i64 x.n)
/-- The slice v reads as the atoms L. -/
def RdA (w : World) (v : Value) (L : List AtD) : Prop :=
  ∃ sp cap, v = .slice sp L.length cap ∧ (L.length = 0 ∨ ∃ b, sp = some ⟨b, 0, none⟩ ∧ b < w.heap.size ∧ ∀ i x, L[i]? = some x → ARow w b (i * 7) x)

theorem ownA_reads {w : World} {B : Nat} {v : Value} {L : List AtD} (h : OwnA w B v L) : RdA w v L := by
  have h' : w.ownsRow B 38 7 v L.length (AL L) := h
  rcases h'.2 with ⟨rfl, hn⟩ | ⟨g, cap, cur, rfl, hb, hg, _⟩
  · exact ⟨none, 0, by rw [hn], Or.inl hn⟩
  · refine ⟨some ⟨g, 0, none⟩, cap, rfl, Or.inr ⟨g, rfl, (Array.getElem?_eq_some_iff.1 hg).1, fun i x hx => ?_⟩⟩
    have hi : i < L.length := (List.getElem?_eq_some_iff.1 hx).1
    refine ⟨?_, ?_, ?_, ?_, ?_, ?_, ?_⟩
    · exact (h'.cellAt (i * 7) (by omega)).trans (al_at hx 0 (by omega))
    · exact (h'.cellAt (i * 7 + 1) (by omega)).trans (al_at hx 1 (by omega))
    · exact (h'.cellAt (i * 7 + 2) (by omega)).trans (al_at hx 2 (by omega))
    · exact (h'.cellAt (i * 7 + 3) (by omega)).trans (al_at hx 3 (by omega))
    · exact (h'.cellAt (i * 7 + 4) (by omega)).trans (al_at hx 4 (by omega))
    · exact (h'.cellAt (i * 7 + 5) (by omega)).trans (al_at hx 5 (by omega))
    · exact (h'.cellAt (i * 7 + 6) (by omega)).trans (al_at hx 6 (by omega))

theorem readsA_on {w w' : World} {v : Value} {L : List AtD} (h : RdA w v L) (hb : Below w.heap.size w w') : RdA w' v L := by
  obtain ⟨sp, cap, hv, hc⟩ := h
  refine ⟨sp, cap, hv, ?_⟩
  rcases hc with h0 | ⟨b, he, hlt, hc⟩
  · exact Or.inl h0
  · refine Or.inr ⟨b, he, Nat.lt_of_lt_of_le hlt hb.size, fun i x hx => ?_⟩
    have f : ∀ o, w'.cell? ⟨b, o, none⟩ = w.cell? ⟨b, o, none⟩ := fun o => hb.cell (p := ⟨b, o, none⟩) hlt
    have := hc i x hx
    simpa only [ARow, f] using this

set_option maxRecDepth 10000 in
set_option maxHeartbeats 1000000 in
theorem eqAtomS_same (v u : Value) (L : List AtD) (w : World) (h1 : RdA w v L) (h2 : RdA w u L) (hL : L.length ≤ 1000000) :
    Calls Tryd.prog 7 #[v, u] w fun e w' => e = .returned (.bool true) ∧ Below w.heap.size w w' := by
  obtain ⟨sp, cap, rfl, hc⟩ := h1
  obtain ⟨sp', cap', rfl, hc'⟩ := h2
  obtain ⟨N, hN⟩ : ∃ N, N = L.length := ⟨_, rfl⟩
  rw [← hN] at hL hc hc' ⊢
  have HN := Lib.hid hN
  have HC := Lib.hid hc
  have HC' := Lib.hid hc'
  clear hN hc hc'
  go_enter Tryd.func7, Tryd.ntmps7
  go_wp2
  go_loopw [5] (fun i wr => ∃ k : Nat, i = .int .i64 k ∧ k ≤ N ∧ Below w.heap.size w wr) (fun i _ => N - (intOf i).toNat)
  case atStart => exact ⟨0, rfl, by omega, Below.refl _ _⟩
  case round =>
    obtain ⟨k, rfl, hk, hbw⟩ := hrel
    by_cases hlt : k < N
    · have hk' : (k : Int) < (N : Int) := by omega
      have hk0 : (0 : Int) ≤ k := by omega
      obtain ⟨y, hy⟩ : ∃ y, L[k]? = some y := ⟨_, List.getElem?_eq_getElem (by rw [← HN.out]; exact hlt)⟩
      obtain ⟨b, rfl, hbl, hcell⟩ := HC.out.resolve_left (by omega)
      obtain ⟨b', rfl, hbl', hcell'⟩ := HC'.out.resolve_left (by omega)
      have f : ∀ o, wr.cell? ⟨b, o, none⟩ = w.cell? ⟨b, o, none⟩ := fun o => hbw.cell (p := ⟨b, o, none⟩) hbl
      have f' : ∀ o, wr.cell? ⟨b', o, none⟩ = w.cell? ⟨b', o, none⟩ := fun o => hbw.cell (p := ⟨b', o, none⟩) hbl'
      have r1 : ARow wr b (k * 7) y := by have := hcell k y hy; simpa only [ARow, f] using this
      have r2 : ARow wr b' (k * 7) y := by have := hcell' k y hy; simpa only [ARow, f'] using this
      obtain ⟨c0, c1, c2, c3, c4, c5, c6⟩ := r1
      obtain ⟨d0, d1, d2, d3, d4, d5, d6⟩ := r2
      have HB := Lib.hid hbw
      clear hcell hcell' hy f f' hbw
      go_wp2_with fail
      go_region_with (go_at_call 21; (with_reducible refine (eqAtom_same _ _ _ _ _ _ _ _).mono ?_); rintro e w1 ⟨rfl, hb1⟩)
      all_goals
        have hb2 : Below wr.heap.size wr w1 := below_on (by go_grown) hb1
        have HB1 := Lib.hid (below_on HB.out hb2)
        clear c0 c1 c2 c3 c4 c5 c6 d0 d1 d2 d3 d4 d5 d6 hb1 hb2
        go_wp2
        go_roundw
        case rel => exact ⟨k + 1, by go_num, by omega, HB1.out⟩
        case measure => simp [intOf]; omega
    · have hk' : ¬ (k : Int) < (N : Int) := by omega
      go_wp2
      go_ret
      exact ⟨rfl, hbw⟩

/-- Marks from k on, seven to an atom. -/
def mk7 (k : Int) (i : Nat) : AtD := ⟨k + ((i * 7 : Nat) : Int), k + ((i * 7 + 1 : Nat) : Int), k + ((i * 7 + 2 : Nat) : Int), k + ((i * 7 + 3 : Nat) : Int), k + ((i * 7 + 4 : Nat) : Int), k + ((i * 7 + 5 : Nat) : Int), k + ((i * 7 + 6 : Nat) : Int)⟩
def marksA (k : Int) (n : Nat) : List AtD := (List.range n).map (mk7 k)
theorem marksA_len (k : Int) (n : Nat) : (marksA k n).length = n := by simp [marksA]
theorem marksA_at (k : Int) (n i : Nat) (h : i < n) : (marksA k n)[i]? = some (mk7 k i) := by simp [marksA, h]
theorem marksA_snoc (k : Int) (n : Nat) : marksA k (n + 1) = marksA k n ++ [mk7 k n] := by simp [marksA, List.range_succ]

theorem al_put (A R : List AtD) (x y : AtD) (i : Nat) (hi : A.length = i) :
    ((((((((AL (A ++ x :: R)).set (i * 7) (Value.int .i64 y.k)).set (i * 7 + 1) (Value.int .i64 y.m)).set (i * 7 + 2) (Value.int .i64 y.a)).set (i * 7 + 3) (Value.int .i64 y.b)).set (i * 7 + 4) (Value.int .i64 y.c)).set (i * 7 + 5) (Value.int .i64 y.d)).set (i * 7 + 6) (Value.int .i64 y.n)) = AL (A ++ y :: R) := by
  have hl := al_len A
  rw [hi] at hl
  rw [al_app, al_app]
  simp only [AL, acells, List.cons_append, List.nil_append]
  apply List.ext_getElem?
  intro j
  simp only [List.getElem?_set, List.length_append, List.length_set, List.length_cons, hl]
  by_cases hj : j < i * 7
  · rw [List.getElem?_append_left (by omega), List.getElem?_append_left (by omega)]
    repeat rw [if_neg (by omega)]
  · rw [List.getElem?_append_right (by omega), List.getElem?_append_right (by omega), hl]
    obtain ⟨t, rfl⟩ : ∃ t, j = i * 7 + t := ⟨j - i * 7, by omega⟩
    rw [show i * 7 + t - i * 7 = t by omega]
    match t with
    | 0 => simp
    | 1 => simp
    | 2 => simp
    | 3 => simp
    | 4 => simp
    | 5 => simp
    | 6 => simp
    | t + 7 =>
      repeat rw [if_neg (by omega)]
      simp

theorem put7 {w : World} {base E B0 n cap k : Nat} {xs : List Value} (v0 v1 v2 v3 v4 v5 v6 : Value) (own : w.ownsRow base E 7 (.slice (some ⟨B0, 0, none⟩) n cap) n xs) {W : World}
    (hW : (((((((w.setCell ⟨B0, k * 7, none⟩ v0).setCell ⟨B0, k * 7 + 1, none⟩ v1).setCell ⟨B0, k * 7 + 2, none⟩ v2).setCell ⟨B0, k * 7 + 3, none⟩ v3).setCell ⟨B0, k * 7 + 4, none⟩ v4).setCell ⟨B0, k * 7 + 5, none⟩ v5).setCell ⟨B0, k * 7 + 6, none⟩ v6) = W) :
    W.ownsRow base E 7 (.slice (some ⟨B0, 0, none⟩) n cap) n (((((((xs.set (k * 7) v0).set (k * 7 + 1) v1).set (k * 7 + 2) v2).set (k * 7 + 3) v3).set (k * 7 + 4) v4).set (k * 7 + 5) v5).set (k * 7 + 6) v6) ∧ (∀ B, B ≤ B0 → Below B w W) := by
  have o1 := own.stored (k * 7) v0
  have o2 := o1.1.stored (k * 7 + 1) v1
  have o3 := o2.1.stored (k * 7 + 2) v2
  have o4 := o3.1.stored (k * 7 + 3) v3
  have o5 := o4.1.stored (k * 7 + 4) v4
  have o6 := o5.1.stored (k * 7 + 5) v5
  have o7 := o6.1.stored (k * 7 + 6) v6
  rw [hW] at o7
  refine ⟨o7.1, ?_⟩
  · intro B hB
    subst hW
    exact ((((((((Below.refl B w).setCell hB v0).setCell hB v1).setCell hB v2).setCell hB v3).setCell hB v4).setCell hB v5).setCell hB v6)
theorem put7_other {w W : World} {B0 k : Nat} (v0 v1 v2 v3 v4 v5 v6 : Value)
    (hW : (((((((w.setCell ⟨B0, k * 7, none⟩ v0).setCell ⟨B0, k * 7 + 1, none⟩ v1).setCell ⟨B0, k * 7 + 2, none⟩ v2).setCell ⟨B0, k * 7 + 3, none⟩ v3).setCell ⟨B0, k * 7 + 4, none⟩ v4).setCell ⟨B0, k * 7 + 5, none⟩ v5).setCell ⟨B0, k * 7 + 6, none⟩ v6) = W) : ∀ x, x ≠ B0 → W.heap[x]? = w.heap[x]? := by
  intro x hx
  subst hW
  repeat rw [Below.heap_setCell _ _ _ _ (by dsimp only; omega)]

def MarkAR (B : Nat) (v : Value) (k : Int) (L : List AtD) (w : World) (i kv : Value) (wr : World) : Prop :=
  ∃ (j : Nat) (R : List AtD), i = .int .i64 j ∧ j + R.length = L.length ∧ kv = .int .i64 (k + ((j * 7 : Nat) : Int)) ∧ wr.ownsRow B 38 7 v L.length (AL (marksA k j ++ R)) ∧ Below B w wr ∧ ∀ x, some x ≠ v.ownBlock → wr.heap[x]? = w.heap[x]?

set_option maxRecDepth 10000 in
set_option maxHeartbeats 1000000 in
theorem markAtomS_k (B : Nat) (v : Value) (k N : Int) (L : List AtD) (w : World) (h : OwnA w B v L) (hB : B ≤ w.heap.size) (hL : L.length ≤ 1048576) (k0 : 0 ≤ k) (k1 : k ≤ 1000000) (hN : k + ((L.length * 7 : Nat) : Int) = N) :
    Calls Tryd.prog 8 #[v, .int .i64 k] w fun e w' => e = .returned (.int .i64 N) ∧ OwnA w' B v (marksA k L.length) ∧ Below B w w' ∧ ∀ x, some x ≠ v.ownBlock → w'.heap[x]? = w.heap[x]? := by
  have h' : w.ownsRow B 38 7 v L.length (AL L) := h
  clear h
  obtain ⟨M, hM⟩ : ∃ M, M = L.length := ⟨_, rfl⟩
  have hsh : (M = 0 ∧ ∃ sp cap, v = .slice sp M cap) ∨ ∃ g cap, v = .slice (some ⟨g, 0, none⟩) M cap ∧ B ≤ g := by
    rcases h'.2 with ⟨rfl, hn⟩ | ⟨g, cap, cur, rfl, hb, _⟩
    · exact Or.inl ⟨by omega, none, 0, by rw [hM, hn]⟩
    · exact Or.inr ⟨g, cap, by rw [hM], hb⟩
  have HM := Lib.hid hM
  have HNN := Lib.hid hN
  have HB := Lib.hid hB
  rcases hsh with ⟨hz, sp, cap, rfl⟩ | ⟨g, cap, rfl, hg⟩
  · have HO := Lib.hid h'
    subst hz
    clear hM hN h' hB
    go_enter Tryd.func8, Tryd.ntmps8
    go_wp2
    refine wp_loop_rounds 1 ?_
    rw [rounds_succ]
    go_wp2
    go_ret
    have hl : L = [] := List.length_eq_zero_iff.1 HM.out.symm
    refine ⟨ret_i (by rw [← HNN.out, ← HM.out]; simp), ?_, Below.refl _ _, fun _ _ => rfl⟩
    subst hl
    exact HO.out
  · have HO := Lib.hid h'
    have hLM : (M : Int) ≤ 1048576 := by omega
    clear hM hN h' hB hL
    go_enter Tryd.func8, Tryd.ntmps8
    go_wp2
    go_loopw [5, 1] (fun i kv wr => MarkAR B (.slice (some ⟨g, 0, none⟩) M cap) k L w i kv wr) (fun i _ _ => M - (intOf i).toNat)
    case atStart => exact ⟨0, L, rfl, by omega, by go_num, HO.out, Below.refl _ _, fun _ _ => rfl⟩
    case round =>
      obtain ⟨j, R, rfl, hj, rfl, hown, hbl, hkp⟩ := hrel
      have HKP := Lib.hid hkp
      clear hkp
      have hj' : j + R.length = M := by rw [HM.out]; exact hj
      have HOW := Lib.hid hown
      have HBL := Lib.hid hbl
      have HJ := Lib.hid hj'
      clear hj hbl hown
      cases R with
      | cons x R' =>
        simp only [List.length_cons] at hj'
        have hlt : j < M := by omega
        have hlt' : (j : Int) < (M : Int) := by omega
        have hj1 : ((j * 7 : Nat) : Int) ≤ 8000000 := by omega
        have hj0 : (0 : Int) ≤ ((j * 7 : Nat) : Int) := by omega
        obtain ⟨q, hq⟩ : ∃ q : Int, ((j * 7 : Nat) : Int) = q := ⟨_, rfl⟩
        have HQ := Lib.hid hq
        rw [hq] at hj1 hj0
        have hown : wr.ownsRow B 38 7 (.slice (some ⟨g, 0, none⟩) M cap) M (AL (marksA k j ++ x :: R')) := by have := HOW.out; rw [← HM.out] at this; exact this
        have HOW2 := Lib.hid hown
        have hll := hown.1
        have hf := hown.frozenAt
        obtain ⟨x0, hx0⟩ : ∃ x, wr.cell? ⟨g, j * 7, none⟩ = some x := ⟨_, (hown.cellAt (j * 7) (by omega)).trans (List.getElem?_eq_getElem (by omega))⟩
        obtain ⟨x1, hx1⟩ : ∃ x, wr.cell? ⟨g, j * 7 + 1, none⟩ = some x := ⟨_, (hown.cellAt (j * 7 + 1) (by omega)).trans (List.getElem?_eq_getElem (by omega))⟩
        obtain ⟨x2, hx2⟩ : ∃ x, wr.cell? ⟨g, j * 7 + 2, none⟩ = some x := ⟨_, (hown.cellAt (j * 7 + 2) (by omega)).trans (List.getElem?_eq_getElem (by omega))⟩
        obtain ⟨x3, hx3⟩ : ∃ x, wr.cell? ⟨g, j * 7 + 3, none⟩ = some x := ⟨_, (hown.cellAt (j * 7 + 3) (by omega)).trans (List.getElem?_eq_getElem (by omega))⟩
        obtain ⟨x4, hx4⟩ : ∃ x, wr.cell? ⟨g, j * 7 + 4, none⟩ = some x := ⟨_, (hown.cellAt (j * 7 + 4) (by omega)).trans (List.getElem?_eq_getElem (by omega))⟩
        obtain ⟨x5, hx5⟩ : ∃ x, wr.cell? ⟨g, j * 7 + 5, none⟩ = some x := ⟨_, (hown.cellAt (j * 7 + 5) (by omega)).trans (List.getElem?_eq_getElem (by omega))⟩
        obtain ⟨x6, hx6⟩ : ∃ x, wr.cell? ⟨g, j * 7 + 6, none⟩ = some x := ⟨_, (hown.cellAt (j * 7 + 6) (by omega)).trans (List.getElem?_eq_getElem (by omega))⟩
        clear hown hll hj'
        rw [hq]
        clear hq
        go_wp2_with fail
        generalize hW2 : World.setCell _ _ _ = W2
        obtain ⟨ho, hb7⟩ := put7 _ _ _ _ _ _ _ HOW2.out hW2
        have hk7 := put7_other _ _ _ _ _ _ _ hW2
        have hq2 := HQ.out
        refine ⟨⟨j + 1, R', by go_num, by rw [← HM.out]; have := HJ.out; simp only [List.length_cons] at this; omega, by congr 1; omega, ?_, HBL.out.trans (hb7 B hg), fun x hx => (hk7 x (fun e => hx (by rw [e]; rfl))).trans (HKP.out x hx)⟩, ?_⟩
        · rw [← HM.out, marksA_snoc, List.append_assoc]
          have e := al_put (marksA k j) R' x (mk7 k j) j (marksA_len k j)
          rw [List.singleton_append, ← e]
          simp only [mk7]
          rw [show k + ((j * 7 : Nat) : Int) = k + q by omega, show k + ((j * 7 + 1 : Nat) : Int) = k + q + 1 by omega, show k + ((j * 7 + 2 : Nat) : Int) = k + q + 1 + 1 by omega, show k + ((j * 7 + 3 : Nat) : Int) = k + q + 1 + 1 + 1 by omega, show k + ((j * 7 + 4 : Nat) : Int) = k + q + 1 + 1 + 1 + 1 by omega, show k + ((j * 7 + 5 : Nat) : Int) = k + q + 1 + 1 + 1 + 1 + 1 by omega, show k + ((j * 7 + 6 : Nat) : Int) = k + q + 1 + 1 + 1 + 1 + 1 + 1 by omega]
          exact ho
        · simp [intOf]; omega
      | nil =>
        simp only [List.length_nil, Nat.add_zero] at hj'
        subst hj'
        have hlt' : ¬ (j : Int) < (j : Int) := by omega
        go_wp2
        go_ret
        refine ⟨ret_i (by have h1 := HNN.out; rw [← HM.out] at h1; omega), ?_, HBL.out, HKP.out⟩
        have h3 := HOW.out
        rw [List.append_nil] at h3
        show World.ownsRow _ _ _ _ _ _ _
        rw [marksA_len, ← HM.out]
        rw [← HM.out] at h3
        exact h3
theorem markAtomS_t (B : Nat) (v : Value) (k N : Int) (L : List AtD) (w : World) (h : OwnA w B v L) (hB : B ≤ w.heap.size) (hL : L.length ≤ 1048576) (k0 : 0 ≤ k) (k1 : k ≤ 1000000) (hN : k + ((L.length * 7 : Nat) : Int) = N) :
    Calls Tryd.prog 8 #[v, .int .i64 k] w fun e w' => e = .returned (.int .i64 N) ∧ OwnA w' B v (marksA k L.length) ∧ Below B w w' :=
  (markAtomS_k B v k N L w h hB hL k0 k1 hN).mono fun _ _ ⟨h1, h2, h3, _⟩ => ⟨h1, h2, h3⟩

def HeldR (k : Int) (M : Nat) (i kv : Value) : Prop := ∃ j : Nat, i = .int .i64 j ∧ j ≤ M ∧ kv = .int .i64 (k + ((j * 7 : Nat) : Int))

set_option maxRecDepth 10000 in
set_option maxHeartbeats 1000000 in
theorem heldAtomS_t (v : Value) (k N : Int) (M : Nat) (w : World) (h : RdA w v (marksA k M)) (hL : M ≤ 1048576) (k0 : 0 ≤ k) (k1 : k ≤ 1000000) (hN : k + ((M * 7 : Nat) : Int) = N) :
    Calls Tryd.prog 9 #[v, .int .i64 k] w fun e w' => e = .returned (.int .i64 N) ∧ w = w' := by
  obtain ⟨sp, cap, rfl, hc⟩ := h
  rw [marksA_len] at hc ⊢
  have HC := Lib.hid hc
  have HNN := Lib.hid hN
  clear hc hN
  go_enter Tryd.func9, Tryd.ntmps9
  go_wp2
  go_loop [5, 1] (fun i kv => HeldR k M i kv) (fun i _ => M - (intOf i).toNat)
  case atStart => exact ⟨0, rfl, Nat.zero_le _, by go_num⟩
  case round =>
    obtain ⟨j, rfl, hj, rfl⟩ := hrel
    by_cases hlt : j < M
    · have hk' : (j : Int) < (M : Int) := by omega
      obtain ⟨b, rfl, _, hcell⟩ := HC.out.resolve_left (by omega)
      obtain ⟨c0, c1, c2, c3, c4, c5, c6⟩ := hcell j _ (marksA_at k M j hlt)
      simp only [mk7] at c0 c1 c2 c3 c4 c5 c6
      have hj1 : ((j * 7 : Nat) : Int) ≤ 8000000 := by omega
      have hj0 : (0 : Int) ≤ ((j * 7 : Nat) : Int) := by omega
      obtain ⟨q, hq⟩ : ∃ q : Int, ((j * 7 : Nat) : Int) = q := ⟨_, rfl⟩
      have HQ := Lib.hid hq
      rw [show k + ((j * 7 : Nat) : Int) = k + q by omega] at c0
      rw [show k + ((j * 7 + 1 : Nat) : Int) = k + q + 1 by omega] at c1
      rw [show k + ((j * 7 + 2 : Nat) : Int) = k + q + 1 + 1 by omega] at c2
      rw [show k + ((j * 7 + 3 : Nat) : Int) = k + q + 1 + 1 + 1 by omega] at c3
      rw [show k + ((j * 7 + 4 : Nat) : Int) = k + q + 1 + 1 + 1 + 1 by omega] at c4
      rw [show k + ((j * 7 + 5 : Nat) : Int) = k + q + 1 + 1 + 1 + 1 + 1 by omega] at c5
      rw [show k + ((j * 7 + 6 : Nat) : Int) = k + q + 1 + 1 + 1 + 1 + 1 + 1 by omega] at c6
      rw [hq] at hj1 hj0 ⊢
      clear hcell hq
      go_wp2
      go_round
      case rel => exact ⟨j + 1, by go_num, by omega, by have := HQ.out; congr 1; omega⟩
      case measure => simp [intOf]; omega
    · have hk' : ¬ (j : Int) < (M : Int) := by omega
      obtain rfl : j = M := by omega
      go_wp2
      go_ret
      exact ⟨ret_i HNN.out, rfl⟩

end Go.Proofs.YtjgmoledhkikcaaDoor
