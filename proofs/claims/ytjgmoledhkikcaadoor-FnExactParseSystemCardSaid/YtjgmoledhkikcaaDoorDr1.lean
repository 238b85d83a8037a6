/- Several texts in one: Own Draw Draw2 Draw3. -/
import Derived.Test.YtjgmoledhkikcaaDoorBas
import Derived.Test.YtjgmoledhkikcaaDoorHeld
import Derived.Test.YtjgmoledhkikcaaDoorSpecB
import Derived.Test.YtjgmoledhkikcaaDoorLawB
import Derived.Laws.OwnMore
import Derived.Deep.QuietTactic
import Derived.BigQuiet
import Derived.Laws.BitsAllLaws
import Derived.Laws.BitsLemmas
import Derived.Deep.OwnRows
import Derived.Deep.Draws
import Derived.OwnWalk
import Derived.Laws.AppendOwn

/- A slice that a call has made: owned still in a later world. -/
namespace Go.Proofs.YtjgmoledhkikcaaDoor
open Go.RowKit

theorem only_below {w w' : World} (h : Below w.heap.size w w') (row : Option Nat) : w.grownBy w' row := ⟨h.os, h.tape, h.output, h.size, fun i hi _ => h.block i hi⟩

theorem own_mono {w : World} {B B' e size n : Nat} {v : Value} {xs : List Value} (h : w.ownsRow B e size v n xs) (hB : B' ≤ B) : w.ownsRow B' e size v n xs := by
  obtain ⟨h1, h2⟩ := h
  refine ⟨h1, ?_⟩
  rcases h2 with h0 | ⟨g, cap, cur, e0, hb, h3⟩
  · exact Or.inl h0
  · exact Or.inr ⟨g, cap, cur, e0, Nat.le_trans hB hb, h3⟩

theorem own_below {w w' : World} {B e size n : Nat} {v : Value} {xs : List Value} (h : w.ownsRow B e size v n xs) (hb : Below w.heap.size w w') : w'.ownsRow B e size v n xs :=
  h.kept (only_below hb none) (by cases hv : v.ownBlock <;> simp)

end Go.Proofs.YtjgmoledhkikcaaDoor

/- The contract of the model's source of numbers: what it draws lies in its bounds, and only its own counter turns. -/
namespace Go.Proofs.YtjgmoledhkikcaaDoor
open Go.RowKit

theorem ofInt_pos (a : Nat) (ha : a < 4611686018427387904) : (BitVec.ofInt 64 (a : Int)).toNat = a := by
  rw [BitVec.ofInt_natCast, BitVec.toNat_ofNat]
  exact Nat.mod_eq_of_lt (by omega)

theorem xor_nonneg {x y : Int} (x0 : 0 ≤ x) (x1 : x < 4611686018427387904) (y0 : 0 ≤ y) (y1 : y < 4611686018427387904) : 0 ≤ bits .xor .i64 x y := by
  obtain ⟨a, rfl⟩ := Int.eq_ofNat_of_zero_le x0
  obtain ⟨b, rfl⟩ := Int.eq_ofNat_of_zero_le y0
  have hx : a ^^^ b < 2 ^ 62 := Nat.xor_lt_two_pow (by omega) (by omega)
  show 0 ≤ IntKind.i64.wrap ((BitVec.ofInt 64 (a : Int) ^^^ BitVec.ofInt 64 (b : Int)).toNat : Int)
  rw [BitVec.toNat_xor, ofInt_pos a (by omega), ofInt_pos b (by omega), IntKind.wrap_i64]
  omega

/-- What pick answers: a number from 0 on, less than m if there is such a one; only the counter has turned. -/
def Picked (r : Nat) (p m : Int) (w : World) (e : Ending) (w' : World) : Prop :=
  ∃ x : Int, e = .returned (.int .i64 x) ∧ 0 ≤ x ∧ (x = 0 ∨ x < m) ∧ ∃ k, w' = (w.setCell ⟨r, 1, none⟩ (.int .i64 (p + 1))).drewN k

/-- The reader's memory: where it stands, and the bytes that it reads. -/
def Rd (w : World) (r : Nat) (p : Int) : Prop :=
  ∃ (k n cap : Nat) (sp : Option Addr), p = k ∧ n ≤ 2000 ∧ r < w.heap.size ∧ w.cell? ⟨r, 0, none⟩ = some (.slice sp n cap) ∧ w.cell? ⟨r, 1, none⟩ = some (.int .i64 k) ∧ w.frozen? ⟨r, 1, none⟩ = false ∧
    (n = 0 ∨ ∃ b off, sp = some ⟨b, off, none⟩ ∧ b < r ∧ ∀ i, i < n → ∃ u : Int, w.cell? ⟨b, off + i, none⟩ = some (.int .u8 u) ∧ 0 ≤ u ∧ u ≤ 255)

end Go.Proofs.YtjgmoledhkikcaaDoor

/- What a draw leaves: only the reader's block has turned, and its counter has gone on by few; and the contracts of pick and num said so. -/
namespace Go.Proofs.YtjgmoledhkikcaaDoor
open Go.RowKit

def Turned (r : Nat) (p K : Int) (w w' : World) : Prop := w.grownBy w' (some r) ∧ ∃ p', p ≤ p' ∧ p' ≤ p + K ∧ Rd w' r p'

theorem only_set {w : World} {r o : Nat} {v : Value} {k : Nat} : w.grownBy ((w.setCell ⟨r, o, none⟩ v).drewN k) (some r) :=
  ⟨rfl, rfl, rfl, by simp [World.setCell], fun i _ hne => by
    have h : (w.setCell ⟨r, o, none⟩ v).heap[i]? = w.heap[i]? := Below.heap_setCell w ⟨r, o, none⟩ v i (by rintro rfl; exact hne rfl)
    exact h⟩


theorem only_trans {a b c : World} {r : Nat} (h : a.grownBy b (some r)) (k : b.grownBy c (some r)) : a.grownBy c (some r) :=
  ⟨k.os.trans h.os, k.tape.trans h.tape, k.output.trans h.output, Nat.le_trans h.size k.size, fun i hi hne => (k.block i (Nat.lt_of_lt_of_le hi h.size) hne).trans (h.block i hi hne)⟩

/-- Whatever is older than the reader has not turned. -/
theorem below_only {w w' : World} {r B : Nat} (h : w.grownBy w' (some r)) (hB : B ≤ w.heap.size) (hr : B ≤ r) : Below B w w' :=
  ⟨h.os, h.tape, h.output, h.size, fun i hi => h.block i (Nat.lt_of_lt_of_le hi hB) (by intro e; injection e with e; omega)⟩

theorem cell_only {w w' : World} {r b o : Nat} (h : w.grownBy w' (some r)) (hb : b < w.heap.size) (hne : b ≠ r) : w'.cell? ⟨b, o, none⟩ = w.cell? ⟨b, o, none⟩ :=
  World.cell?_of_block (h.block b hb (by intro e; injection e with e; exact hne e))

theorem frozen_only {w w' : World} {r b o : Nat} (h : w.grownBy w' (some r)) (hb : b < w.heap.size) (hne : b ≠ r) : w'.frozen? ⟨b, o, none⟩ = w.frozen? ⟨b, o, none⟩ :=
  World.frozen?_of_block (h.block b hb (by intro e; injection e with e; exact hne e))

theorem c5_only {w w' : World} {r x : Nat} {a b c d n : Int} (h : C5 w x a b c d n) (hg : w.grownBy w' (some r)) (hne : x ≠ r) : C5 w' x a b c d n :=
  have f : ∀ o, w'.cell? ⟨x, o, none⟩ = w.cell? ⟨x, o, none⟩ := fun _ => cell_only hg h.1 hne
  ⟨Nat.lt_of_lt_of_le h.1 hg.size, (f 0).trans h.2.1, (f 1).trans h.2.2.1, (f 2).trans h.2.2.2.1, (f 3).trans h.2.2.2.2.1, (f 4).trans h.2.2.2.2.2⟩

/-- The reader stands where nothing old has turned. -/
theorem rd_on {w w' : World} {r : Nat} {p : Int} (h : Rd w r p) (hb : Below w.heap.size w w') : Rd w' r p := by
  obtain ⟨k, n, cap, sp, rfl, hn, hr, hr0, hr1, hfr, hu⟩ := h
  refine ⟨k, n, cap, sp, rfl, hn, Nat.lt_of_lt_of_le hr hb.size, (hb.cell (p := ⟨r, 0, none⟩) hr).trans hr0, (hb.cell (p := ⟨r, 1, none⟩) hr).trans hr1, (hb.frozen (p := ⟨r, 1, none⟩) hr).trans hfr, ?_⟩
  rcases hu with h0 | ⟨b, off, he, hbr, hu⟩
  · exact Or.inl h0
  · refine Or.inr ⟨b, off, he, hbr, fun i hi => ?_⟩
    obtain ⟨u, hc, hu0, hu1⟩ := hu i hi
    exact ⟨u, (hb.cell (p := ⟨b, off + i, none⟩) (World.block_lt_of_cell? w _ hc)).trans hc, hu0, hu1⟩

theorem rd_set {w : World} {r k : Nat} {p : Int} (h : Rd w r p) : Rd ((w.setCell ⟨r, 1, none⟩ (.int .i64 (p + 1))).drewN k) r (p + 1) := by
  obtain ⟨q, n, cap, sp, rfl, hn, hr, hr0, hr1, hfr, hu⟩ := h
  refine ⟨q + 1, n, cap, sp, by omega, hn, by simpa [World.setCell] using hr, by simp [go_sem, hr0], by simp [go_sem, hr1], by simp [go_sem, hfr], ?_⟩
  rcases hu with h0 | ⟨b, off, he, hbr, hu⟩
  · exact Or.inl h0
  · refine Or.inr ⟨b, off, he, hbr, fun i hi => ?_⟩
    obtain ⟨u, hc, hu0, hu1⟩ := hu i hi
    refine ⟨u, ?_, hu0, hu1⟩
    rw [World.cell?_drewN, cell_far (Nat.ne_of_lt hbr)]
    exact hc

def PickT (r : Nat) (p m : Int) (w : World) (e : Ending) (w' : World) : Prop := ∃ x : Int, e = .returned (.int .i64 x) ∧ 0 ≤ x ∧ (x = 0 ∨ x < m) ∧ Turned r p 1 w w'

def NumT (r : Nat) (p : Int) (L : List Int) (w : World) (e : Ending) (w' : World) : Prop := ∃ x : Int, e = .returned (.int .i64 x) ∧ x ∈ L ∧ Turned r p 1 w w'

end Go.Proofs.YtjgmoledhkikcaaDoor

/- What the model draws for the laws of chapter 1: some terms, points and numbers of the kind int; only the reader has turned. -/
namespace Go.Proofs.YtjgmoledhkikcaaDoor
open Go.RowKit

def TermT (r : Nat) (p K : Int) (w : World) (e : Ending) (w' : World) : Prop := ∃ a b c d n : Int, e = .returned (.agg #[.int .i64 a, .int .i64 b, .int .i64 c, .int .i64 d, .int .i64 n]) ∧ Turned r p K w w'
def PointT (r : Nat) (p K : Int) (w : World) (e : Ending) (w' : World) : Prop := ∃ a b c d : Int, e = .returned (.agg #[.int .i64 a, .int .i64 b, .int .i64 c, .int .i64 d]) ∧ Turned r p K w w'
def IntD (r : Nat) (p K : Int) (w : World) (e : Ending) (w' : World) : Prop := ∃ x : Int, e = .returned (.int .i64 x) ∧ Turned r p K w w'

theorem turned_trans {r : Nat} {p K K' : Int} {w w1 w2 : World} (h : Turned r p K w w1) (k : ∀ q, p ≤ q → q ≤ p + K → Rd w1 r q → Turned r q K' w1 w2) : Turned r p (K + K') w w2 := by
  obtain ⟨hg, q, q0, q1, hR⟩ := h
  obtain ⟨hg2, s, s0, s1, hS⟩ := k q q0 q1 hR
  exact ⟨only_trans hg hg2, s, by omega, by omega, hS⟩

theorem turned_two {r : Nat} {p q K K' : Int} {w w1 w2 : World} (h : Turned r p K w w1) (_hR : Rd w1 r q) (k : Turned r q K' w1 w2) (q0 : p ≤ q) (q1 : q ≤ p + K) : Turned r p (K + K') w w2 := by
  obtain ⟨hg2, s, s0, s1, hS⟩ := k
  exact ⟨only_trans h.1 hg2, s, by omega, by omega, hS⟩

theorem turned_below {r : Nat} {p K : Int} {w w1 w2 : World} (h : Turned r p K w w1) (hb : Below w1.heap.size w1 w2) : Turned r p K w w2 := by
  obtain ⟨hg, q, q0, q1, hR⟩ := h
  exact ⟨only_trans hg (only_below hb _), q, q0, q1, rd_on hR hb⟩

theorem below_turned {r : Nat} {p K : Int} {w w1 w2 : World} (hb : Below w.heap.size w w1) (h : Turned r p K w1 w2) : Turned r p K w w2 := by
  obtain ⟨hg, q, q0, q1, hR⟩ := h
  exact ⟨only_trans (only_below hb _) hg, q, q0, q1, hR⟩

def NumN (r : Nat) (p : Int) (L : List Int) (w : World) (e : Ending) (w' : World) : Prop := ∃ x : Int, e = .returned (.int .i64 x) ∧ x ∈ L ∧ Turned r p 1 w w'

theorem row_cell (w : World) (t : TypeId) : ∀ (L : List Int) (i : Nat) (x : Int), L[i]? = some x → (w.alloc (.cells (L.map (Value.int .i64)).toArray t)).cell? ⟨w.heap.size, i, none⟩ = some (.int .i64 x) := by
  intro L i x h
  have hi : i < L.length := (List.getElem?_eq_some_iff.1 h).1
  have hx : L[i] = x := (List.getElem?_eq_some_iff.1 h).2
  simp [World.cell?_alloc_new, hi, hx]

theorem rd_lt {w : World} {r : Nat} {p : Int} (h : Rd w r p) : r < w.heap.size := by
  obtain ⟨_, _, _, _, _, _, hr, _⟩ := h
  exact hr

theorem rd_put {w : World} {r b o : Nat} {p : Int} {v : Value} (h : Rd w r p) (hb : r < b) : Rd (w.setCell ⟨b, o, none⟩ v) r p := by
  obtain ⟨q, n, cap, sp, rfl, hn, hr, hr0, hr1, hfr, hu⟩ := h
  refine ⟨q, n, cap, sp, rfl, hn, by simpa [World.setCell] using hr, (cell_far (Nat.ne_of_lt hb)).trans hr0, (cell_far (Nat.ne_of_lt hb)).trans hr1, by simp [go_sem, hfr], ?_⟩
  rcases hu with h0 | ⟨b', off, he, hbr, hu⟩
  · exact Or.inl h0
  · refine Or.inr ⟨b', off, he, hbr, fun i hi => ?_⟩
    obtain ⟨u, hc, hu0, hu1⟩ := hu i hi
    exact ⟨u, (cell_far (by omega)).trans hc, hu0, hu1⟩

theorem turned_put {w w' : World} {r b o : Nat} {p K : Int} {v : Value} (h : Turned r p K w w') (hr : r < w.heap.size) (hb : w.heap.size ≤ b) : Turned r p K w (w'.setCell ⟨b, o, none⟩ v) := by
  obtain ⟨hg, q, q0, q1, hR⟩ := h
  refine ⟨⟨hg.os, hg.tape, hg.output, by simpa [World.setCell] using hg.size, fun i hi hne => ?_⟩, q, q0, q1, rd_put hR (by omega)⟩
  exact (Below.heap_setCell w' ⟨b, o, none⟩ v i (by rintro rfl; exact Nat.lt_irrefl _ (Nat.lt_of_lt_of_le hi hb))).trans (hg.block i hi hne)

theorem turned_more {r : Nat} {p K K' : Int} {w w' : World} (h : Turned r p K w w') (hK : K ≤ K') : Turned r p K' w w' := by
  obtain ⟨hg, q, q0, q1, hR⟩ := h
  exact ⟨hg, q, q0, by omega, hR⟩

theorem turned_none {r : Nat} {p : Int} {w : World} (h : Rd w r p) : Turned r p 0 w w := ⟨only_below (Below.refl _ _) _, p, by omega, by omega, h⟩

end Go.Proofs.YtjgmoledhkikcaaDoor
