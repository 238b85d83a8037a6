/- What a draw leaves: only the reader's block has turned, and its counter has gone on by few; and the contracts of pick and num said so. -/
import Derived.Test.YtkhnninnmpffmaaDoorOwn
import Derived.Test.YtkhnninnmpffmaaDoorDraw
import Derived.Test.YtkhnninnmpffmaaDoorHeld
import Derived.Deep.OwnRows
import Derived.Deep.Draws
import Derived.OwnWalk
import Derived.Laws.AppendOwn
namespace Go.Proofs.YtkhnninnmpffmaaDoor
open Go.RowKit

def Turned (r : Nat) (p K : Int) (w w' : World) : Prop := w.grownBy w' (some r) ∧ ∃ p', p ≤ p' ∧ p' ≤ p + K ∧ Rd w' r p'

theorem only_set {w : World} {r o : Nat} {v : Value} {k : Nat} : w.grownBy ((w.setCell ⟨r, o, none⟩ v).drewN k) (some r) :=
  ⟨rfl, rfl, rfl, by simp [World.setCell], fun i _ hne => by
    have h : (w.setCell ⟨r, o, none⟩ v).heap[i]? = w.heap[i]? := Below.heap_setCell w ⟨r, o, none⟩ v i (by rintro rfl; exact hne rfl)
    exact h⟩


theorem only_trans {a b c : World} {r : Nat} (h : a.grownBy b (some r)) (k : b.grownBy c (some r)) : a.grownBy c (some r) :=
  ⟨k.os.trans h.os, k.tape.trans h.tape, k.output.trans h.output, Nat.le_trans h.size k.size, fun i hi hne => (k.block i (Nat.lt_of_lt_of_le hi h.size) hne).trans (h.block i hi hne)⟩

/-- Whatever is older than the reader has not turned. -/
theorem below_only {w w' : World} {r B : Nat} (h : w.grownBy w' (some r)) (hB : B ≤ w.heap.size) (hr : B ≤ r) : Below B w w' :=
  ⟨h.os, h.tape, h.output, h.size, fun i hi => h.block i (Nat.lt_of_lt_of_le hi hB) (by intro e; injection e with e; omega)⟩

theorem cell_only {w w' : World} {r b o : Nat} (h : w.grownBy w' (some r)) (hb : b < w.heap.size) (hne : b ≠ r) : w'.cell? ⟨b, o, none⟩ = w.cell? ⟨b, o, none⟩ :=
  World.cell?_of_block (h.block b hb (by intro e; injection e with e; exact hne e))

theorem frozen_only {w w' : World} {r b o : Nat} (h : w.grownBy w' (some r)) (hb : b < w.heap.size) (hne : b ≠ r) : w'.frozen? ⟨b, o, none⟩ = w.frozen? ⟨b, o, none⟩ :=
  World.frozen?_of_block (h.block b hb (by intro e; injection e with e; exact hne e))

theorem c5_only {w w' : World} {r x : Nat} {a b c d n : Int} (h : C5 w x a b c d n) (hg : w.grownBy w' (some r)) (hne : x ≠ r) : C5 w' x a b c d n :=
  have f : ∀ o, w'.cell? ⟨x, o, none⟩ = w.cell? ⟨x, o, none⟩ := fun _ => cell_only hg h.1 hne
  ⟨Nat.lt_of_lt_of_le h.1 hg.size, (f 0).trans h.2.1, (f 1).trans h.2.2.1, (f 2).trans h.2.2.2.1, (f 3).trans h.2.2.2.2.1, (f 4).trans h.2.2.2.2.2⟩

/-- The reader stands where nothing old has turned. -/
theorem rd_on {w w' : World} {r : Nat} {p : Int} (h : Rd w r p) (hb : Below w.heap.size w w') : Rd w' r p := by
  obtain ⟨k, n, cap, sp, rfl, hn, hr, hr0, hr1, hfr, hu⟩ := h
  refine ⟨k, n, cap, sp, rfl, hn, Nat.lt_of_lt_of_le hr hb.size, (hb.cell (p := ⟨r, 0, none⟩) hr).trans hr0, (hb.cell (p := ⟨r, 1, none⟩) hr).trans hr1, (hb.frozen (p := ⟨r, 1, none⟩) hr).trans hfr, ?_⟩
  rcases hu with h0 | ⟨b, off, he, hbr, hu⟩
  · exact Or.inl h0
  · refine Or.inr ⟨b, off, he, hbr, fun i hi => ?_⟩
    obtain ⟨u, hc, hu0, hu1⟩ := hu i hi
    exact ⟨u, (hb.cell (p := ⟨b, off + i, none⟩) (World.block_lt_of_cell? w _ hc)).trans hc, hu0, hu1⟩

theorem rd_set {w : World} {r k : Nat} {p : Int} (h : Rd w r p) : Rd ((w.setCell ⟨r, 1, none⟩ (.int .i64 (p + 1))).drewN k) r (p + 1) := by
  obtain ⟨q, n, cap, sp, rfl, hn, hr, hr0, hr1, hfr, hu⟩ := h
  refine ⟨q + 1, n, cap, sp, by omega, hn, by simpa [World.setCell] using hr, by simp [go_sem, hr0], by simp [go_sem, hr1], by simp [go_sem, hfr], ?_⟩
  rcases hu with h0 | ⟨b, off, he, hbr, hu⟩
  · exact Or.inl h0
  · refine Or.inr ⟨b, off, he, hbr, fun i hi => ?_⟩
    obtain ⟨u, hc, hu0, hu1⟩ := hu i hi
    refine ⟨u, ?_, hu0, hu1⟩
    rw [World.cell?_drewN, cell_far (Nat.ne_of_lt hbr)]
    exact hc

def PickT (r : Nat) (p m : Int) (w : World) (e : Ending) (w' : World) : Prop := ∃ x : Int, e = .returned (.int .i64 x) ∧ 0 ≤ x ∧ (x = 0 ∨ x < m) ∧ Turned r p 1 w w'

theorem pick_t (r : Nat) (p m : Int) (w : World) (h : Rd w r p) (hp : p ≤ 1000000) :
    Calls Tryd.prog 23 #[.pointer (some ⟨r, 0, none⟩), .int .i64 m] w (PickT r p m w) :=
  (pick_any r p m w h hp).mono fun _ _ ⟨x, he, h0, h1, k, hw⟩ => ⟨x, he, h0, h1, by subst hw; exact ⟨only_set, p + 1, by omega, by omega, rd_set h⟩⟩

def NumT (r : Nat) (p : Int) (L : List Int) (w : World) (e : Ending) (w' : World) : Prop := ∃ x : Int, e = .returned (.int .i64 x) ∧ x ∈ L ∧ Turned r p 1 w w'

set_option maxHeartbeats 400000 in
theorem num_t (r bl : Nat) (p : Int) (L : List Int) (w : World) (h : Rd w r p) (hp : p ≤ 1000000) (hL : 1 ≤ L.length) (hM : L.length ≤ 1000) (hbl : bl < w.heap.size) (hne : bl ≠ r)
    (hc : ∀ i x, L[i]? = some x → w.cell? ⟨bl, i, none⟩ = some (.int .i64 x)) :
    Calls Tryd.prog 24 #[.pointer (some ⟨r, 0, none⟩), .slice (some ⟨bl, 0, none⟩) L.length L.length] w (NumT r p L w) := by
  obtain ⟨N, hN⟩ : ∃ N, N = L.length := ⟨_, rfl⟩
  rw [← hN] at hL hM ⊢
  have HN := Lib.hid hN
  have HC := Lib.hid hc
  clear hN hc
  go_enter Tryd.func24, Tryd.ntmps24
  go_wp2_with fail
  refine (pick_t r p N w h hp).mono ?_
  rintro e w1 ⟨x, rfl, x0, x1, ht⟩
  obtain ⟨i, rfl⟩ := Int.eq_ofNat_of_zero_le x0
  have hi : i < N := by omega
  obtain ⟨y, hy⟩ : ∃ y, L[i]? = some y := ⟨_, List.getElem?_eq_getElem (by rw [← HN.out]; exact hi)⟩
  have hcell : w1.cell? ⟨bl, i, none⟩ = some (.int .i64 y) := (cell_only ht.1 hbl hne).trans (HC.out i y hy)
  have hi' : (i : Int) < (N : Int) := by omega
  have HY := Lib.hid (List.mem_of_getElem? hy)
  have HT := Lib.hid ht
  clear hy x1 ht
  go_wp2
  go_ret
  exact ⟨y, rfl, HY.out, HT.out⟩

end Go.Proofs.YtkhnninnmpffmaaDoor
