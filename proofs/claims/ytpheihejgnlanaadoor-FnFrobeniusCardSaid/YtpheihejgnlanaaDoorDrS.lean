/- What the model draws for the laws of chapter 7: bytes, sets, factors; only the reader has turned. -/
import Derived.Test.YtpheihejgnlanaaDoorDrPs
import Derived.Test.YtpheihejgnlanaaDoorSe7
import Derived.Laws.IdiomStrings
import Derived.Laws.MakeOwn
import Derived.Laws.AppendOwn
namespace Go.Proofs.YtpheihejgnlanaaDoor
open Go.RowKit

theorem grown_low {W W' : World} {v : Value} {B e size n : Nat} {xs : List Value} (hown : W.ownsRow B e size v n xs) {C : Nat} (hC : C ≤ B) (hCW : C ≤ W.heap.size) (hg : W.grownBy W' v.ownBlock) : Below C W W' :=
  ⟨hg.os, hg.tape, hg.output, hg.size, fun i hi => hg.block i (Nat.lt_of_lt_of_le hi hCW) (fun e => by have := hown.lt i e.symm; omega)⟩
theorem rd_low {w w' : World} {r B : Nat} {p : Int} (h : Rd w r p) (hr : r < B) (hb : Below B w w') : Rd w' r p := by
  obtain ⟨k, n, cap, sp, rfl, hn, hrw, hr0, hr1, hfr, hu⟩ := h
  refine ⟨k, n, cap, sp, rfl, hn, Nat.lt_of_lt_of_le hrw hb.size, (hb.cell (p := ⟨r, 0, none⟩) hr).trans hr0, (hb.cell (p := ⟨r, 1, none⟩) hr).trans hr1, (hb.frozen (p := ⟨r, 1, none⟩) hr).trans hfr, ?_⟩
  rcases hu with h0 | ⟨b, off, he, hbr, hu⟩
  · exact Or.inl h0
  · refine Or.inr ⟨b, off, he, hbr, fun i hi => ?_⟩
    obtain ⟨u, hc, hu0, hu1⟩ := hu i hi
    exact ⟨u, (hb.cell (p := ⟨b, off + i, none⟩) (by show b < B; omega)).trans hc, hu0, hu1⟩


theorem s2_turned {w w' : World} {r b : Nat} {x y : ByteArray} (h : S2 w b x y) (hg : w.grownBy w' (some r)) (hne : b ≠ r) : S2 w' b x y :=
  ⟨Nat.lt_of_lt_of_le h.1 hg.size, (cell_only hg h.1 hne).trans h.2.1, (cell_only hg h.1 hne).trans h.2.2.1, fun o => (frozen_only hg h.1 hne).trans (h.2.2.2 o)⟩
theorem s2_put1 {W W' : World} {b : Nat} {x y z : ByteArray} (hW : W.setCell ⟨b, 1, none⟩ (.string z) = W') (hx : S2 W b x y) : S2 W' b x z ∧ (∀ c u v, c ≠ b → S2 W c u v → S2 W' c u v) := by
  obtain ⟨x0, c0, c1, fz⟩ := hx
  subst hW
  have hsz : (W.setCell ⟨b, 1, none⟩ (.string z)).heap.size = W.heap.size := by simp [World.setCell]
  refine ⟨⟨by rw [hsz]; exact x0, by simp [go_sem, *], by simp [go_sem, *], fun o => by simp [go_sem, *]⟩, fun c u v hy hc => ?_⟩
  obtain ⟨y0, d0, d1, gz⟩ := hc
  exact ⟨by rw [hsz]; exact y0, by simp [go_sem, *], by simp [go_sem, *], fun o => by simp [go_sem, *]⟩
theorem s2_put0 {W W' : World} {b : Nat} {x y z : ByteArray} (hW : W.setCell ⟨b, 0, none⟩ (.string z) = W') (hx : S2 W b x y) : S2 W' b z y ∧ (∀ c u v, c ≠ b → S2 W c u v → S2 W' c u v) := by
  obtain ⟨x0, c0, c1, fz⟩ := hx
  subst hW
  have hsz : (W.setCell ⟨b, 0, none⟩ (.string z)).heap.size = W.heap.size := by simp [World.setCell]
  refine ⟨⟨by rw [hsz]; exact x0, by simp [go_sem, *], by simp [go_sem, *], fun o => by simp [go_sem, *]⟩, fun c u v hy hc => ?_⟩
  obtain ⟨y0, d0, d1, gz⟩ := hc
  exact ⟨by rw [hsz]; exact y0, by simp [go_sem, *], by simp [go_sem, *], fun o => by simp [go_sem, *]⟩

/-- One of a list of strings. -/
def OfT (r : Nat) (p : Int) (L : List (List UInt8)) (w : World) (e : Ending) (w' : World) : Prop := ∃ x : List UInt8, e = .returned (.string (bs x)) ∧ x ∈ L ∧ Turned r p 1 w w'

def strV (x : List UInt8) : Value := .string (bs x)
theorem rows_cell (w : World) (t : TypeId) : ∀ (L : List (List UInt8)) (i : Nat) (x : List UInt8), L[i]? = some x → (w.alloc (.cells (L.map strV).toArray t)).cell? ⟨w.heap.size, i, none⟩ = some (.string (bs x)) := by
  intro L i x h
  have hi : i < L.length := (List.getElem?_eq_some_iff.1 h).1
  have hx : L[i] = x := (List.getElem?_eq_some_iff.1 h).2
  simp [World.cell?_alloc_new, hi, hx, strV]

/-- Bytes that a call appends to. -/
def byV (x : UInt8) : Value := .int .u8 (x.toNat : Int)
def OwnB (w : World) (B : Nat) (v : Value) (L : List UInt8) : Prop := w.ownsRow B 5 1 v L.length (L.map byV)
theorem bw_new (m : Nat) (hm : m ≤ 1000) : ∃ M : Array Value, (∀ W, (Instr.makeSlice 37 (.int .i64 0) (.int .i64 m)).run Tryd.prog W = .ok (.slice (some ⟨W.heap.size, 0, none⟩) 0 m) (W.alloc (.cells M 5))) ∧ M.size = m := by
  obtain ⟨i0, hi, hz0, hz1, hz2⟩ := info_parts (P := Tryd.prog) (e := 5) (z := .int .u8 0) (size := 1) (bytes := 1) (by kernel_rfl)
  refine ⟨madeCells (Value.int .u8 0).cells (((m : Nat) : Int).toNat * i0.size), fun W => ?_, by rw [size_madeCells, hz1]; simp⟩
  have h := run_make (P := Tryd.prog) W 37 5 i0 (.int .u8 0) Tryd.underlying37 hi hz0 .i64 .i64 0 (m : Int) (by omega) (by omega) (by rw [hz2]; omega) (by omega)
  simpa using h
theorem conv_own {w : World} {B : Nat} {v : Value} {L : List UInt8} (h : OwnB w B v L) (hv : v ≠ .slice none 0 0) : (convert 37 9 v).run Tryd.prog w = .ok (.string (bs L)) w := by
  have h' : w.ownsRow B 5 1 v L.length (L.map byV) := h
  rcases h'.2 with ⟨rfl, _⟩ | ⟨g, cap, cur, rfl, _⟩
  · exact absurd rfl hv
  · exact run_convert_bytes_back (P := Tryd.prog) w 37 9 5 ⟨g, 0, none⟩ cap L Tryd.underlying37 Tryd.underlying5 Tryd.underlying9 fun j hj => by
      have hadd : (⟨g, 0, none⟩ : Addr).add j = ⟨g, j, none⟩ := by unfold Addr.add; split <;> simp_all
      rw [hadd, h'.cellAt j (by omega)]
      simp [byV, hj]
theorem grown_own {w W W' : World} {v : Value} {B e size n r : Nat} {xs : List Value} (h : w.grownBy W (some r)) (hown : W.ownsRow B e size v n xs) (hB : w.heap.size ≤ B) (hg : W.grownBy W' v.ownBlock) : w.grownBy W' (some r) :=
  ⟨hg.os.trans h.os, hg.tape.trans h.tape, hg.output.trans h.output, Nat.le_trans h.size hg.size, fun i hi hne =>
    (hg.block i (Nat.lt_of_lt_of_le hi h.size) (fun e => by have := hown.lt i e.symm; omega)).trans (h.block i hi hne)⟩

def WordT (r : Nat) (p : Int) (low most : Nat) (w : World) (e : Ending) (w' : World) : Prop :=
  ∃ l : List UInt8, e = .returned (.string (bs l)) ∧ (∀ x ∈ l, x = 48 ∨ x = 49) ∧ low ≤ l.length ∧ l.length ≤ most ∧ Turned r p 101 w w'
def WdR (w : World) (r low most : Nat) (p : Int) (v i : Value) (wr : World) : Prop :=
  ∃ (L : List UInt8) (k : Nat) (q : Int), i = .int .i64 k ∧ low ≤ L.length + k ∧ L.length + k ≤ most ∧ OwnB wr w.heap.size v L ∧ v ≠ .slice none 0 0 ∧ (∀ x ∈ L, x = 48 ∨ x = 49) ∧ Rd wr r q ∧ p ≤ q ∧ q + k ≤ p + 101 ∧ w.grownBy wr (some r)

/-- A valid set has been drawn. -/
def SomeS (r : Nat) (p : Int) (w : World) (e : Ending) (w' : World) : Prop := ∃ h l : List UInt8, e = .returned (.agg #[.string (bs h), .string (bs l)]) ∧ svS h l = true ∧ Turned r p 210 w w'
theorem sv_mk {h l : List UInt8} (h1 : ∀ x ∈ h, x = 48 ∨ x = 49) (h2 : ∀ x ∈ l, x = 48 ∨ x = 49) (h3 : h.length ≤ 400) (h4 : 1 ≤ l.length) (h5 : l.length ≤ 240) : svS h l = true := by
  unfold svS
  rw [bitL_iff.2 h1, bitL_iff.2 h2, decide_eq_true h3, decide_eq_true ⟨h4, h5⟩]
  rfl
theorem pr_small {f s : Int} (f0 : 0 ≤ f) (f1 : f ≤ 100) (s0 : 0 ≤ s) (s1 : s ≤ 100) : svS (prR f s).1.1 (prR f s).1.2 = true := by
  obtain ⟨F, rfl⟩ := Int.eq_ofNat_of_zero_le f0
  obtain ⟨S, rfl⟩ := Int.eq_ofNat_of_zero_le s0
  have hbit : ∀ k, ∀ x ∈ List.replicate k (48 : UInt8), x = 48 ∨ x = 49 := fun k x hx => .inl (List.eq_of_mem_replicate hx)
  unfold prR
  rw [decide_eq_true (show (0 : Int) ≤ (F : Int) ∧ (F : Int) ≤ 400 by omega), decide_eq_true (show (0 : Int) ≤ (S : Int) ∧ (S : Int) ≤ 240 by omega), Int.toNat_natCast, Int.toNat_natCast]
  simp only [Bool.and_self, if_true]
  have key : ∀ h l : List UInt8, svS h l = true → svS (resA (atS h l)).1.1 (resA (atS h l)).1.2 = true := fun h l hv => by
    rw [res_valid hv]
    obtain ⟨q1, q2, q3, q4, q5, q6⟩ := svS_parts hv
    obtain ⟨b1, b2, b3⟩ := nf_bits q6 q1 q2
    have hs := nfS_spec (h := h) q6
    exact sv_mk b1 b2 (show (nfS h l).1.length ≤ 400 by omega) (List.length_pos_iff.2 b3) (show (nfS h l).2.length ≤ 240 by omega)
  by_cases hs : S = 0
  · subst hs
    rw [show prA F 0 = atS (List.replicate F 48 ++ [49]) [48] from (funext fun n => pr_at0 F n).symm]
    refine key _ _ (sv_mk (fun x hx => ?_) (by simp) (by simp; omega) (by simp) (by simp))
    rcases List.mem_append.1 hx with h | h
    · exact hbit _ x h
    · exact .inr (by simpa using h)
  · rw [show prA F S = atS (List.replicate F 48) (49 :: List.replicate (S - 1) 48) from (funext fun n => pr_at1 F S n (by omega)).symm]
    refine key _ _ (sv_mk (hbit _) (fun x hx => ?_) (by simp; omega) (by simp) (by simp; omega))
    rcases List.mem_cons.1 hx with h | h
    · exact .inr h
    · exact hbit _ x h

end Go.Proofs.YtpheihejgnlanaaDoor
