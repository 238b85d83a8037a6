/- The draw of a step: its box, two growing lists of ints. -/
import Derived.Test.YtaiajdeognnndaaRdJ
import Derived.Test.YtaiajdeognnndaaOwn2
import Derived.Test.YtaiajdeognnndaaCode
namespace Go.Proofs.Ytaiajdeognnndaa
open Go.RowKit

theorem Try.infoIntS : (Try.prog.info? 3).map (fun i => (i.zero, i.size, i.bytes)) = some (some (.int .i64 0), 1, 8) := by kernel_rfl
def OwJ (W : World) (B : Nat) (v : Value) (L : List Int) : Prop := W.ownsRow B 3 1 v L.length (L.map (Value.int .i64))
/-- The step that is drawn lies in the box b + 1 (its lists s and t), the result's box b is empty. -/
def SgV (b : Nat) (s t : Value) (F T : List Int) (W : World) : Prop :=
  b + 1 < W.heap.size ∧ W.cell? ⟨b + 1, 0, none⟩ = some s ∧ W.cell? ⟨b + 1, 1, none⟩ = some t ∧ OwJ W (b + 2) s F ∧ OwJ W (b + 2) t T ∧ (∀ x, s.ownBlock = some x → t.ownBlock ≠ some x) ∧ (∀ o, W.frozen? ⟨b + 1, o, none⟩ = false) ∧
    W.cell? ⟨b, 0, none⟩ = some (.slice none 0 0) ∧ W.cell? ⟨b, 1, none⟩ = some (.slice none 0 0) ∧ ∀ o, W.frozen? ⟨b, o, none⟩ = false
theorem owJ_keep {W W' : World} {B : Nat} {v : Value} {L : List Int} (h : OwJ W B v L) (hk : ∀ x, B ≤ x → v.ownBlock = some x → W'.heap[x]? = W.heap[x]?) : OwJ W' B v L := by
  have h' : W.ownsRow B 3 1 v L.length (L.map (Value.int .i64)) := h
  rcases h'.2 with ⟨rfl, hn⟩ | ⟨g, cap, cur, rfl, hb, hg, hr⟩
  · exact ⟨h'.1, .inl ⟨rfl, hn⟩⟩
  · exact ⟨h'.1, .inr ⟨g, cap, cur, rfl, hb, (hk g hb rfl).trans hg, hr⟩⟩
theorem owJ_lt {W : World} {B : Nat} {v : Value} {L : List Int} (h : OwJ W B v L) {x : Nat} (hx : v.ownBlock = some x) : B ≤ x ∧ x < W.heap.size := World.ownsRow.lt h x hx
theorem owJ_rdb {W : World} {B : Nat} {v : Value} {L : List Int} (h : OwJ W B v L) : RdJb W B v L := by
  have h' : W.ownsRow B 3 1 v L.length (L.map (Value.int .i64)) := h
  rcases id h'.2 with ⟨rfl, hn⟩ | ⟨g, cap, cur, rfl, hb, hg, h1, h2, _⟩
  · exact ⟨none, 0, by rw [hn], by omega, by unfold maxLen; omega, .inl hn⟩
  · refine ⟨some ⟨g, 0, none⟩, cap, rfl, h1, h2, .inr ⟨g, 0, rfl, hb, (Array.getElem?_eq_some_iff.1 hg).1, fun i x hx => ?_⟩⟩
    have hi : i < L.length := (List.getElem?_eq_some_iff.1 hx).1
    rw [Nat.zero_add, h'.cellAt i (by omega), List.getElem?_map, hx]
    rfl
theorem owJ_rd {W : World} {B : Nat} {v : Value} {L : List Int} (h : OwJ W B v L) : RdJ W v L := (owJ_rdb h).rd
theorem sgV_keep {b : Nat} {s t : Value} {F T : List Int} {W W' : World} (h : SgV b s t F T W) (hk : ∀ x, b ≤ x → x < W.heap.size → W'.heap[x]? = W.heap[x]?) (hsz : W.heap.size ≤ W'.heap.size) : SgV b s t F T W' := by
  obtain ⟨h0, h1, h2, h3, h4, h5, h6, h7, h8, h9⟩ := h
  have c1 : ∀ o, W'.cell? ⟨b + 1, o, none⟩ = W.cell? ⟨b + 1, o, none⟩ := fun o => World.cell?_of_block (a := ⟨b + 1, o, none⟩) (hk (b + 1) (by omega) h0)
  have c0 : ∀ o, W'.cell? ⟨b, o, none⟩ = W.cell? ⟨b, o, none⟩ := fun o => World.cell?_of_block (a := ⟨b, o, none⟩) (hk b (Nat.le_refl _) (by omega))
  refine ⟨by omega, (c1 0).trans h1, (c1 1).trans h2, owJ_keep h3 fun x hx e => hk x (by omega) (owJ_lt h3 e).2, owJ_keep h4 fun x hx e => hk x (by omega) (owJ_lt h4 e).2, h5, fun o => (World.frozen?_of_block (a := ⟨b + 1, o, none⟩) (hk (b + 1) (by omega) h0)).trans (h6 o), (c0 0).trans h7, (c0 1).trans h8, fun o => (World.frozen?_of_block (a := ⟨b, o, none⟩) (hk b (Nat.le_refl _) (by omega))).trans (h9 o)⟩
theorem sgV_on {b : Nat} {s t : Value} {F T : List Int} {W W' : World} (h : SgV b s t F T W) (hb : Below W.heap.size W W') : SgV b s t F T W' := sgV_keep h (fun x _ hx => hb.block x hx) hb.size
theorem sgV_turn {b r : Nat} {s t : Value} {F T : List Int} {W W' : World} (h : SgV b s t F T W) (hg : W.grownBy W' (some r)) (hr : r < b) : SgV b s t F T W' :=
  sgV_keep h (fun x hx hl => hg.block x hl (by intro e; injection e with e; omega)) hg.size

/-- One int more in the first list. -/
theorem sgV_app0 {b : Nat} {s t v6 : Value} {F T : List Int} {x : Int} {W w6 : World} (h : SgV b s t F T W) (ho : w6.ownsRow (b + 2) 3 1 v6 (F.length + 1) (F.map (Value.int .i64) ++ [.int .i64 x])) (hg : W.grownBy w6 s.ownBlock)
    (hob : v6.ownBlock = s.ownBlock ∨ v6.ownBlock = some W.heap.size) :
    w6.cell? ⟨b + 1, 0, none⟩ = some s ∧ (∀ o, w6.frozen? ⟨b + 1, o, none⟩ = false) ∧ ∀ W7, w6.setCell ⟨b + 1, 0, none⟩ v6 = W7 → SgV b v6 t (F ++ [x]) T W7 ∧ Below b W W7 := by
  obtain ⟨h0, h1, h2, h3, h4, h5, h6, h7, h8, h9⟩ := h
  have hsb : ∀ y, s.ownBlock = some y → b + 2 ≤ y ∧ y < W.heap.size := fun y hy => owJ_lt h3 hy
  have htb : ∀ y, t.ownBlock = some y → b + 2 ≤ y ∧ y < W.heap.size := fun y hy => owJ_lt h4 hy
  have k6 : ∀ y, y < W.heap.size → s.ownBlock ≠ some y → w6.heap[y]? = W.heap[y]? := fun y hy hne => hg.block y hy (fun e => hne e.symm)
  have kb1 := k6 (b + 1) h0 (fun e => by have := hsb _ e; omega)
  have kb := k6 b (by omega) (fun e => by have := hsb _ e; omega)
  have hsz := hg.size
  refine ⟨(World.cell?_of_block (a := ⟨b + 1, 0, none⟩) kb1).trans h1, fun o => (World.frozen?_of_block (a := ⟨b + 1, o, none⟩) kb1).trans (h6 o), fun W7 hW => ?_⟩
  have k7 : ∀ y, y ≠ b + 1 → W7.heap[y]? = w6.heap[y]? := fun y hy => by subst hW; exact Below.heap_setCell _ _ _ _ (by dsimp only; omega)
  have hs7 : W7.heap.size = w6.heap.size := by subst hW; simp [World.setCell]
  have e1 : w6.cell? ⟨b + 1, 1, none⟩ = some t := (World.cell?_of_block (a := ⟨b + 1, 1, none⟩) kb1).trans h2
  have e0 : w6.cell? ⟨b + 1, 0, none⟩ = some s := (World.cell?_of_block (a := ⟨b + 1, 0, none⟩) kb1).trans h1
  have f6 : ∀ o, w6.frozen? ⟨b + 1, o, none⟩ = false := fun o => (World.frozen?_of_block (a := ⟨b + 1, o, none⟩) kb1).trans (h6 o)
  have ho' : OwJ w6 (b + 2) v6 (F ++ [x]) := by
    show w6.ownsRow _ _ _ _ _ _
    rw [List.length_append, List.map_append]
    exact ho
  refine ⟨⟨by omega, ?_, ?_, owJ_keep ho' fun y hy _ => k7 y (by omega), owJ_keep (owJ_keep (W' := w6) h4 fun y hy e => k6 y (htb y e).2 (fun e' => h5 y e' e)) fun y hy _ => k7 y (by omega), ?_, ?_, ?_, ?_, ?_⟩, ?_⟩
  · subst hW; simp [go_sem, e0]
  · subst hW; simp [go_sem, e1]
  · intro y hy
    rcases hob with h | h
    · rw [h] at hy; exact h5 y hy
    · rw [h] at hy
      injection hy with hy
      intro e
      have := (htb y e).2
      omega
  · intro o; subst hW; simp [go_sem, f6 o]
  · exact (World.cell?_of_block (a := ⟨b, 0, none⟩) ((k7 b (by omega)).trans kb)).trans h7
  · exact (World.cell?_of_block (a := ⟨b, 1, none⟩) ((k7 b (by omega)).trans kb)).trans h8
  · intro o; exact (World.frozen?_of_block (a := ⟨b, o, none⟩) ((k7 b (by omega)).trans kb)).trans (h9 o)
  · subst hW
    refine ⟨hg.os, hg.tape, hg.output, by simpa [World.setCell] using hsz, fun i hi => ?_⟩
    exact (Below.heap_setCell _ _ _ _ (by dsimp only; omega)).trans (k6 i (by omega) (fun e => by have := hsb _ e; omega))
/-- One int more in the second list. -/
theorem sgV_app1 {b : Nat} {s t v6 : Value} {F T : List Int} {x : Int} {W w6 : World} (h : SgV b s t F T W) (ho : w6.ownsRow (b + 2) 3 1 v6 (T.length + 1) (T.map (Value.int .i64) ++ [.int .i64 x])) (hg : W.grownBy w6 t.ownBlock)
    (hob : v6.ownBlock = t.ownBlock ∨ v6.ownBlock = some W.heap.size) :
    w6.cell? ⟨b + 1, 1, none⟩ = some t ∧ (∀ o, w6.frozen? ⟨b + 1, o, none⟩ = false) ∧ ∀ W7, w6.setCell ⟨b + 1, 1, none⟩ v6 = W7 → SgV b s v6 F (T ++ [x]) W7 ∧ Below b W W7 := by
  obtain ⟨h0, h1, h2, h3, h4, h5, h6, h7, h8, h9⟩ := h
  have hsb : ∀ y, s.ownBlock = some y → b + 2 ≤ y ∧ y < W.heap.size := fun y hy => owJ_lt h3 hy
  have htb : ∀ y, t.ownBlock = some y → b + 2 ≤ y ∧ y < W.heap.size := fun y hy => owJ_lt h4 hy
  have k6 : ∀ y, y < W.heap.size → t.ownBlock ≠ some y → w6.heap[y]? = W.heap[y]? := fun y hy hne => hg.block y hy (fun e => hne e.symm)
  have kb1 := k6 (b + 1) h0 (fun e => by have := htb _ e; omega)
  have kb := k6 b (by omega) (fun e => by have := htb _ e; omega)
  have hsz := hg.size
  refine ⟨(World.cell?_of_block (a := ⟨b + 1, 1, none⟩) kb1).trans h2, fun o => (World.frozen?_of_block (a := ⟨b + 1, o, none⟩) kb1).trans (h6 o), fun W7 hW => ?_⟩
  have k7 : ∀ y, y ≠ b + 1 → W7.heap[y]? = w6.heap[y]? := fun y hy => by subst hW; exact Below.heap_setCell _ _ _ _ (by dsimp only; omega)
  have hs7 : W7.heap.size = w6.heap.size := by subst hW; simp [World.setCell]
  have e1 : w6.cell? ⟨b + 1, 1, none⟩ = some t := (World.cell?_of_block (a := ⟨b + 1, 1, none⟩) kb1).trans h2
  have e0 : w6.cell? ⟨b + 1, 0, none⟩ = some s := (World.cell?_of_block (a := ⟨b + 1, 0, none⟩) kb1).trans h1
  have f6 : ∀ o, w6.frozen? ⟨b + 1, o, none⟩ = false := fun o => (World.frozen?_of_block (a := ⟨b + 1, o, none⟩) kb1).trans (h6 o)
  have ho' : OwJ w6 (b + 2) v6 (T ++ [x]) := by
    show w6.ownsRow _ _ _ _ _ _
    rw [List.length_append, List.map_append]
    exact ho
  refine ⟨⟨by omega, ?_, ?_, owJ_keep (owJ_keep (W' := w6) h3 fun y hy e => k6 y (hsb y e).2 (fun e' => h5 y e e')) fun y hy _ => k7 y (by omega), owJ_keep ho' fun y hy _ => k7 y (by omega), ?_, ?_, ?_, ?_, ?_⟩, ?_⟩
  · subst hW; simp [go_sem, e0]
  · subst hW; simp [go_sem, e1]
  · intro y hy
    rcases hob with h | h
    · rw [h]; exact h5 y hy
    · rw [h]
      intro e
      injection e with e
      have := (hsb y hy).2
      omega
  · intro o; subst hW; simp [go_sem, f6 o]
  · exact (World.cell?_of_block (a := ⟨b, 0, none⟩) ((k7 b (by omega)).trans kb)).trans h7
  · exact (World.cell?_of_block (a := ⟨b, 1, none⟩) ((k7 b (by omega)).trans kb)).trans h8
  · intro o; exact (World.frozen?_of_block (a := ⟨b, o, none⟩) ((k7 b (by omega)).trans kb)).trans (h9 o)
  · subst hW
    refine ⟨hg.os, hg.tape, hg.output, by simpa [World.setCell] using hsz, fun i hi => ?_⟩
    exact (Below.heap_setCell _ _ _ _ (by dsimp only; omega)).trans (k6 i (by omega) (fun e => by have := htb _ e; omega))

/-- The reader stands where nothing from its block down has turned. -/
theorem rd_low {w w' : World} {r B : Nat} {p : Int} (h : Rd w r p) (hb : Below B w w') (hr : r < B) : Rd w' r p := by
  obtain ⟨k, n, cap, sp, rfl, hn, hr', hr0, hr1, hfr, hu⟩ := h
  refine ⟨k, n, cap, sp, rfl, hn, Nat.lt_of_lt_of_le hr' hb.size, (hb.cell (p := ⟨r, 0, none⟩) hr).trans hr0, (hb.cell (p := ⟨r, 1, none⟩) hr).trans hr1, (hb.frozen (p := ⟨r, 1, none⟩) hr).trans hfr, ?_⟩
  rcases hu with h0 | ⟨b, off, he, hbr, hu⟩
  · exact Or.inl h0
  · refine Or.inr ⟨b, off, he, hbr, fun i hi => ?_⟩
    obtain ⟨u, hc, hu0, hu1⟩ := hu i hi
    exact ⟨u, (hb.cell (p := ⟨b, off + i, none⟩) (show b < B by omega)).trans hc, hu0, hu1⟩
theorem turned_low {r : Nat} {p K : Int} {w W W' : World} (h : Turned r p K w W) (hb : Below w.heap.size W W') (hr : r < w.heap.size) : Turned r p K w W' := by
  obtain ⟨hg, q, q0, q1, hR⟩ := h
  exact ⟨⟨hb.os.trans hg.os, hb.tape.trans hg.tape, hb.output.trans hg.output, Nat.le_trans hg.size hb.size, fun i hi hne => (hb.block i hi).trans (hg.block i hi hne)⟩, q, q0, q1, rd_low hR hb hr⟩
end Go.Proofs.Ytaiajdeognnndaa
