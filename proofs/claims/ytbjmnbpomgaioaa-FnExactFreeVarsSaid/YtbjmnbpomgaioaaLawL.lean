/- Lists of ints as a law reads, marks and holds them; the walks of the laws that say that TermVars and AtomVars answer as their models do. -/
import Derived.Test.YtbjmnbpomgaioaaVarsA
import Derived.Test.YtbjmnbpomgaioaaLawB
import Derived.Test.YtbjmnbpomgaioaaAtC
import Derived.Deep.QuietTactic
import Derived.BigQuiet
namespace Go.Proofs.Ytbjmnbpomgaioaa
open Go.RowKit

theorem below_dq (B : Nat) (w : World) (q : Nat) : Below B w (w.drewN q) := ⟨rfl, rfl, rfl, Nat.le_refl _, fun _ _ => rfl⟩

/-- The slice v reads as the ints L. -/
def RdI (w : World) (v : Value) (L : List Int) : Prop :=
  ∃ sp cap, v = .slice sp L.length cap ∧ (L.length = 0 ∨ ∃ b, sp = some ⟨b, 0, none⟩ ∧ b < w.heap.size ∧ ∀ i x, L[i]? = some x → w.cell? ⟨b, i, none⟩ = some (.int .i64 x))

theorem own_reads {w : World} {B : Nat} {v : Value} {L : List Int} (h : OwnI w B v L) : RdI w v L := by
  have h' : w.ownsRow B 3 1 v L.length (L.map (Value.int .i64)) := h
  rcases h'.2 with ⟨rfl, hn⟩ | ⟨g, cap, cur, rfl, hb, hg, _⟩
  · exact ⟨none, 0, by rw [hn], Or.inl hn⟩
  · refine ⟨some ⟨g, 0, none⟩, cap, rfl, Or.inr ⟨g, rfl, (Array.getElem?_eq_some_iff.1 hg).1, fun i x hx => ?_⟩⟩
    have hi : i < L.length := (List.getElem?_eq_some_iff.1 hx).1
    rw [h'.cellAt i (by omega)]
    simp [hx]

theorem reads_on {w w' : World} {v : Value} {L : List Int} (h : RdI w v L) (hb : Below w.heap.size w w') : RdI w' v L := by
  obtain ⟨sp, cap, hv, hc⟩ := h
  refine ⟨sp, cap, hv, ?_⟩
  rcases hc with h0 | ⟨b, he, hlt, hc⟩
  · exact Or.inl h0
  · exact Or.inr ⟨b, he, Nat.lt_of_lt_of_le hlt hb.size, fun i x hx => (hb.cell (p := ⟨b, i, none⟩) hlt).trans (hc i x hx)⟩

set_option maxHeartbeats 400000 in
theorem eqIntS_same (v u : Value) (L : List Int) (w : World) (h1 : RdI w v L) (h2 : RdI w u L) (hL : L.length ≤ 1000000) :
    Calls Try.prog 38 #[v, u] w fun e w' => e = .returned (.bool true) ∧ Below w.heap.size w w' := by
  obtain ⟨sp, cap, rfl, hc⟩ := h1
  obtain ⟨sp', cap', rfl, hc'⟩ := h2
  obtain ⟨N, hN⟩ : ∃ N, N = L.length := ⟨_, rfl⟩
  rw [← hN] at hL hc hc' ⊢
  have HN := Lib.hid hN
  have HC := Lib.hid hc
  have HC' := Lib.hid hc'
  clear hN hc hc'
  go_enter Try.func38, Try.ntmps38
  go_wp2
  go_loopw [5] (fun i wr => ∃ k q : Nat, i = .int .i64 k ∧ k ≤ N ∧ wr = w.drewN q) (fun i _ => N - (intOf i).toNat)
  case atStart => exact ⟨0, 0, rfl, by omega, rfl⟩
  case round =>
    obtain ⟨k, q, rfl, hk, rfl⟩ := hrel
    by_cases hlt : k < N
    · have hk' : (k : Int) < (N : Int) := by omega
      obtain ⟨y, hy⟩ : ∃ y, L[k]? = some y := ⟨_, List.getElem?_eq_getElem (by rw [← HN.out]; exact hlt)⟩
      obtain ⟨b, rfl, _, hcell⟩ := HC.out.resolve_left (by omega)
      obtain ⟨b', rfl, _, hcell'⟩ := HC'.out.resolve_left (by omega)
      have c1 := hcell k y hy
      have c2 := hcell' k y hy
      clear hcell hcell' hy
      go_wp2
      go_quiet (fail)
      go_wp2
      go_roundw
      case rel => exact ⟨k + 1, _, by go_num, by omega, rfl⟩
      case measure => simp [intOf]; omega
    · have hk' : ¬ (k : Int) < (N : Int) := by omega
      go_wp2
      go_ret
      exact ⟨rfl, below_dq _ _ _⟩

/-- Marks from k on. -/
def marks (k : Int) (n : Nat) : List Int := (List.range n).map fun i : Nat => k + Int.ofNat i
theorem marks_len (k : Int) (n : Nat) : (marks k n).length = n := by simp [marks]
theorem marks_at (k : Int) (n i : Nat) (h : i < n) : (marks k n)[i]? = some (k + (i : Int)) := by simp [marks, h]

/-- A list whose first j elements are marks. -/
def part (k : Int) (L : List Int) (j : Nat) : List Int := marks k j ++ L.drop j
theorem part_set (k : Int) (L : List Int) (j : Nat) (h : j < L.length) : ((part k L j).map (Value.int .i64)).set j (.int .i64 (k + (j : Int))) = (part k L (j + 1)).map (Value.int .i64) := by
  unfold part
  apply List.ext_getElem?
  intro i
  rw [List.getElem?_set]
  simp only [List.length_map, List.length_append, marks_len, List.length_drop, List.getElem?_map]
  by_cases hij : j = i
  · subst hij
    rw [if_pos rfl, if_pos (by omega), List.getElem?_append_left (by rw [marks_len]; omega), marks_at _ _ _ (by omega)]
    rfl
  · rw [if_neg hij]
    by_cases hlt : i < j
    · rw [List.getElem?_append_left (by rw [marks_len]; omega), List.getElem?_append_left (by rw [marks_len]; omega), marks_at _ _ _ hlt, marks_at _ _ _ (by omega)]
    · rw [List.getElem?_append_right (by rw [marks_len]; omega), List.getElem?_append_right (by rw [marks_len]; omega), marks_len, marks_len, List.getElem?_drop, List.getElem?_drop]
      have e : j + (i - j) = j + 1 + (i - (j + 1)) := by omega
      rw [e]
theorem part_all (k : Int) (L : List Int) : part k L L.length = marks k L.length := by simp [part]
theorem part_none (k : Int) (L : List Int) : part k L 0 = L := by simp [part, marks]
theorem part_len (k : Int) (L : List Int) (j : Nat) (h : j ≤ L.length) : (part k L j).length = L.length := by simp [part, marks_len]; omega

def MarkR (B : Nat) (v : Value) (k : Int) (L : List Int) (w : World) (i kv : Value) (wr : World) : Prop :=
  ∃ j : Nat, i = .int .i64 j ∧ j ≤ L.length ∧ kv = .int .i64 (k + j) ∧ wr.ownsRow B 3 1 v L.length ((part k L j).map (Value.int .i64)) ∧ Below B w wr

set_option maxHeartbeats 400000 in
theorem markIntS_t (B : Nat) (v : Value) (k N : Int) (L : List Int) (w : World) (h : OwnI w B v L) (hB : B ≤ w.heap.size) (hL : L.length ≤ 1000000) (k0 : 0 ≤ k) (k1 : k ≤ 1000000) (hN : k + (L.length : Int) = N) :
    Calls Try.prog 40 #[v, .int .i64 k] w fun e w' => e = .returned (.int .i64 N) ∧ OwnI w' B v (marks k L.length) ∧ Below B w w' := by
  have h' : w.ownsRow B 3 1 v L.length (L.map (Value.int .i64)) := h
  clear h
  obtain ⟨M, hM⟩ : ∃ M, M = L.length := ⟨_, rfl⟩
  have hsh : (M = 0 ∧ ∃ sp cap, v = .slice sp M cap) ∨ ∃ g cap, v = .slice (some ⟨g, 0, none⟩) M cap ∧ B ≤ g := by
    rcases h'.2 with ⟨rfl, hn⟩ | ⟨g, cap, cur, rfl, hb, _⟩
    · exact Or.inl ⟨by omega, none, 0, by rw [hM, hn]⟩
    · exact Or.inr ⟨g, cap, by rw [hM], hb⟩
  have HM := Lib.hid hM
  have HNN := Lib.hid hN
  have HB := Lib.hid hB
  rcases hsh with ⟨hz, sp, cap, rfl⟩ | ⟨g, cap, rfl, hg⟩
  · have HO := Lib.hid h'
    subst hz
    clear hM hN h' hB
    go_enter Try.func40, Try.ntmps40
    go_wp2
    refine wp_loop_rounds 1 ?_
    rw [rounds_succ]
    go_wp2
    go_ret
    have hl : L = [] := List.length_eq_zero_iff.1 HM.out.symm
    refine ⟨ret_int (by rw [← HNN.out, ← HM.out]; simp), ?_, Below.refl _ _⟩
    subst hl
    exact HO.out
  · have HO := Lib.hid h'
    have hLM : (M : Int) ≤ 1000000 := by omega
    clear hM hN h' hB hL
    go_enter Try.func40, Try.ntmps40
    go_wp2
    go_loopw [5, 1] (fun i kv wr => MarkR B (.slice (some ⟨g, 0, none⟩) M cap) k L w i kv wr) (fun i _ _ => M - (intOf i).toNat)
    case atStart => exact ⟨0, rfl, Nat.zero_le _, by go_num, by rw [part_none]; exact HO.out, Below.refl _ _⟩
    case round =>
      obtain ⟨j, rfl, hj, rfl, hown, hbl⟩ := hrel
      have hj' : j ≤ M := by rw [HM.out]; exact hj
      have HOW := Lib.hid hown
      have HBL := Lib.hid hbl
      clear hj hbl hown
      by_cases hlt : j < M
      · have hlt' : (j : Int) < (M : Int) := by omega
        have hown : wr.ownsRow B 3 1 (.slice (some ⟨g, 0, none⟩) M cap) M ((part k L j).map (Value.int .i64)) := by have := HOW.out; rw [← HM.out] at this; exact this
        have hj2 : j < L.length := by rw [← HM.out]; exact hlt
        have hf := hown.frozenAt j
        obtain ⟨y, hy⟩ : ∃ y, ((part k L j).map (Value.int .i64))[j]? = some y := ⟨_, List.getElem?_eq_getElem (by rw [List.length_map, part_len _ _ _ (by omega)]; exact hj2)⟩
        have hcl := (hown.cellAt j (by omega)).trans hy
        have HS := Lib.hid (hown.stored j (.int .i64 (k + (j : Int))))
        rw [part_set k L j hj2] at HS
        clear hown hy
        go_wp2
        go_roundw
        case rel => exact ⟨j + 1, by go_num, by omega, by go_num, by rw [← HM.out]; exact HS.out.1, HBL.out.setCell hg _⟩
        case measure => simp [intOf]; omega
      · have hlt' : ¬ (j : Int) < (M : Int) := by omega
        obtain rfl : j = M := by omega
        go_wp2
        go_ret
        refine ⟨ret_int (by rw [← HNN.out, ← HM.out]), ?_, HBL.out⟩
        have h3 := HOW.out
        rw [HM.out, part_all] at h3
        show World.ownsRow _ _ _ _ _ _ _
        rw [marks_len]
        rw [HM.out]
        exact h3

set_option maxHeartbeats 400000 in
theorem heldIntS_t (v : Value) (k N : Int) (M : Nat) (w : World) (h : RdI w v (marks k M)) (hL : M ≤ 1000000) (k0 : 0 ≤ k) (k1 : k ≤ 1000000) (hN : k + (M : Int) = N) :
    Calls Try.prog 41 #[v, .int .i64 k] w fun e w' => e = .returned (.int .i64 N) ∧ w = w' := by
  obtain ⟨sp, cap, rfl, hc⟩ := h
  rw [marks_len] at hc ⊢
  have HC := Lib.hid hc
  have HNN := Lib.hid hN
  clear hc hN
  go_enter Try.func41, Try.ntmps41
  go_wp2
  go_loop [5, 1] (fun i kv => ∃ j : Nat, i = .int .i64 j ∧ j ≤ M ∧ kv = .int .i64 (k + j)) (fun i _ => M - (intOf i).toNat)
  case atStart => exact ⟨0, rfl, Nat.zero_le _, by go_num⟩
  case round =>
    obtain ⟨j, rfl, hj, rfl⟩ := hrel
    by_cases hlt : j < M
    · have hk' : (j : Int) < (M : Int) := by omega
      obtain ⟨b, rfl, _, hcell⟩ := HC.out.resolve_left (by omega)
      have c1 := hcell j _ (marks_at k M j hlt)
      clear hcell
      go_wp2
      go_round
      case rel => exact ⟨j + 1, by go_num, by omega, by go_num⟩
      case measure => simp [intOf]; omega
    · have hk' : ¬ (j : Int) < (M : Int) := by omega
      obtain rfl : j = M := by omega
      go_wp2
      go_ret
      exact ⟨ret_int HNN.out, rfl⟩

theorem marks_own {w : World} {B : Nat} {v : Value} {k : Int} {M : Nat} (h : OwnI w B v (marks k M)) : RdI w v (marks k M) := own_reads h

end Go.Proofs.Ytbjmnbpomgaioaa
