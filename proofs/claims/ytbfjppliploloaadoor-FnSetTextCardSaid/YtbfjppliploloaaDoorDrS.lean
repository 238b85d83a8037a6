/- What the model draws for the laws of chapter 7: bytes, sets, factors; only the reader has turned. -/
import Derived.Test.YtbfjppliploloaaDoorDrPs
import Derived.Test.YtbfjppliploloaaDoorSe7
import Derived.Laws.IdiomStrings
import Derived.Laws.MakeOwn
import Derived.Laws.AppendOwn
namespace Go.Proofs.YtbfjppliploloaaDoor
open Go.RowKit

theorem grown_low {W W' : World} {v : Value} {B e size n : Nat} {xs : List Value} (hown : W.ownsRow B e size v n xs) {C : Nat} (hC : C ≤ B) (hCW : C ≤ W.heap.size) (hg : W.grownBy W' v.ownBlock) : Below C W W' :=
  ⟨hg.os, hg.tape, hg.output, hg.size, fun i hi => hg.block i (Nat.lt_of_lt_of_le hi hCW) (fun e => by have := hown.lt i e.symm; omega)⟩
theorem rd_low {w w' : World} {r B : Nat} {p : Int} (h : Rd w r p) (hr : r < B) (hb : Below B w w') : Rd w' r p := by
  obtain ⟨k, n, cap, sp, rfl, hn, hrw, hr0, hr1, hfr, hu⟩ := h
  refine ⟨k, n, cap, sp, rfl, hn, Nat.lt_of_lt_of_le hrw hb.size, (hb.cell (p := ⟨r, 0, none⟩) hr).trans hr0, (hb.cell (p := ⟨r, 1, none⟩) hr).trans hr1, (hb.frozen (p := ⟨r, 1, none⟩) hr).trans hfr, ?_⟩
  rcases hu with h0 | ⟨b, off, he, hbr, hu⟩
  · exact Or.inl h0
  · refine Or.inr ⟨b, off, he, hbr, fun i hi => ?_⟩
    obtain ⟨u, hc, hu0, hu1⟩ := hu i hi
    exact ⟨u, (hb.cell (p := ⟨b, off + i, none⟩) (by show b < B; omega)).trans hc, hu0, hu1⟩


theorem s2_turned {w w' : World} {r b : Nat} {x y : ByteArray} (h : S2 w b x y) (hg : w.grownBy w' (some r)) (hne : b ≠ r) : S2 w' b x y :=
  ⟨Nat.lt_of_lt_of_le h.1 hg.size, (cell_only hg h.1 hne).trans h.2.1, (cell_only hg h.1 hne).trans h.2.2.1, fun o => (frozen_only hg h.1 hne).trans (h.2.2.2 o)⟩
theorem s2_put1 {W W' : World} {b : Nat} {x y z : ByteArray} (hW : W.setCell ⟨b, 1, none⟩ (.string z) = W') (hx : S2 W b x y) : S2 W' b x z ∧ (∀ c u v, c ≠ b → S2 W c u v → S2 W' c u v) := by
  obtain ⟨x0, c0, c1, fz⟩ := hx
  subst hW
  have hsz : (W.setCell ⟨b, 1, none⟩ (.string z)).heap.size = W.heap.size := by simp [World.setCell]
  refine ⟨⟨by rw [hsz]; exact x0, by simp [go_sem, *], by simp [go_sem, *], fun o => by simp [go_sem, *]⟩, fun c u v hy hc => ?_⟩
  obtain ⟨y0, d0, d1, gz⟩ := hc
  exact ⟨by rw [hsz]; exact y0, by simp [go_sem, *], by simp [go_sem, *], fun o => by simp [go_sem, *]⟩
theorem s2_put0 {W W' : World} {b : Nat} {x y z : ByteArray} (hW : W.setCell ⟨b, 0, none⟩ (.string z) = W') (hx : S2 W b x y) : S2 W' b z y ∧ (∀ c u v, c ≠ b → S2 W c u v → S2 W' c u v) := by
  obtain ⟨x0, c0, c1, fz⟩ := hx
  subst hW
  have hsz : (W.setCell ⟨b, 0, none⟩ (.string z)).heap.size = W.heap.size := by simp [World.setCell]
  refine ⟨⟨by rw [hsz]; exact x0, by simp [go_sem, *], by simp [go_sem, *], fun o => by simp [go_sem, *]⟩, fun c u v hy hc => ?_⟩
  obtain ⟨y0, d0, d1, gz⟩ := hc
  exact ⟨by rw [hsz]; exact y0, by simp [go_sem, *], by simp [go_sem, *], fun o => by simp [go_sem, *]⟩

/-- One of a list of strings. -/
def OfT (r : Nat) (p : Int) (L : List (List UInt8)) (w : World) (e : Ending) (w' : World) : Prop := ∃ x : List UInt8, e = .returned (.string (bs x)) ∧ x ∈ L ∧ Turned r p 1 w w'

set_option maxHeartbeats 400000 in
theorem of_t (r bl : Nat) (p : Int) (L : List (List UInt8)) (w : World) (h : Rd w r p) (hp : p ≤ 1000000) (hL : 1 ≤ L.length) (hM : L.length ≤ 1000) (hbl : bl < w.heap.size) (hne : bl ≠ r)
    (hc : ∀ i x, L[i]? = some x → w.cell? ⟨bl, i, none⟩ = some (.string (bs x))) :
    Calls Tryd.prog 19 #[.pointer (some ⟨r, 0, none⟩), .slice (some ⟨bl, 0, none⟩) L.length L.length] w (OfT r p L w) := by
  obtain ⟨N, hN⟩ : ∃ N, N = L.length := ⟨_, rfl⟩
  rw [← hN] at hL hM ⊢
  have HN := Lib.hid hN
  have HC := Lib.hid hc
  clear hN hc
  go_enter Tryd.func19, Tryd.ntmps19
  go_wp2_with fail
  refine (pick_t r p N w h hp).mono ?_
  rintro e w1 ⟨x, rfl, x0, x1, ht⟩
  obtain ⟨i, rfl⟩ := Int.eq_ofNat_of_zero_le x0
  have hi : i < N := by omega
  obtain ⟨y, hy⟩ : ∃ y, L[i]? = some y := ⟨_, List.getElem?_eq_getElem (by rw [← HN.out]; exact hi)⟩
  have hcell : w1.cell? ⟨bl, i, none⟩ = some (.string (bs y)) := (cell_only ht.1 hbl hne).trans (HC.out i y hy)
  have hi' : (i : Int) < (N : Int) := by omega
  have HY := Lib.hid (List.mem_of_getElem? hy)
  have HT := Lib.hid ht
  clear hy x1 ht
  go_wp2
  go_ret
  exact ⟨y, rfl, HY.out, HT.out⟩

def strV (x : List UInt8) : Value := .string (bs x)
theorem rows_cell (w : World) (t : TypeId) : ∀ (L : List (List UInt8)) (i : Nat) (x : List UInt8), L[i]? = some x → (w.alloc (.cells (L.map strV).toArray t)).cell? ⟨w.heap.size, i, none⟩ = some (.string (bs x)) := by
  intro L i x h
  have hi : i < L.length := (List.getElem?_eq_some_iff.1 h).1
  have hx : L[i] = x := (List.getElem?_eq_some_iff.1 h).2
  simp [World.cell?_alloc_new, hi, hx, strV]

/-- of over a list of strings that was made just now. -/
theorem of_new (r : Nat) (p : Int) (L : List (List UInt8)) (N : Nat) (C : Array Value) (w : World) (h : Rd w r p) (hp : p ≤ 1000000) (hN : N = L.length) (hC : C = (L.map strV).toArray) (hL : 1 ≤ L.length) (hM : L.length ≤ 1000) :
    Calls Tryd.prog 19 #[.pointer (some ⟨r, 0, none⟩), .slice (some ⟨w.heap.size, 0, none⟩) N N] (w.alloc (.cells C 9)) (OfT r p L w) := by
  subst hN hC
  have hb : Below w.heap.size w (w.alloc (.cells (L.map strV).toArray 9)) := by go_grown
  have hr : r < w.heap.size := rd_lt h
  exact (of_t r w.heap.size p L _ (rd_on h hb) hp hL hM (by simp) (by omega) (rows_cell w _ L)).mono fun _ _ ⟨x, he, hx, ht⟩ => ⟨x, he, hx, below_turned hb ht⟩

/-- Bytes that a call appends to. -/
def byV (x : UInt8) : Value := .int .u8 (x.toNat : Int)
def OwnB (w : World) (B : Nat) (v : Value) (L : List UInt8) : Prop := w.ownsRow B 5 1 v L.length (L.map byV)
theorem bw_new (m : Nat) (hm : m ≤ 1000) : ∃ M : Array Value, (∀ W, (Instr.makeSlice 22 (.int .i64 0) (.int .i64 m)).run Tryd.prog W = .ok (.slice (some ⟨W.heap.size, 0, none⟩) 0 m) (W.alloc (.cells M 5))) ∧ M.size = m := by
  obtain ⟨i0, hi, hz0, hz1, hz2⟩ := info_parts (P := Tryd.prog) (e := 5) (z := .int .u8 0) (size := 1) (bytes := 1) (by kernel_rfl)
  refine ⟨madeCells (Value.int .u8 0).cells (((m : Nat) : Int).toNat * i0.size), fun W => ?_, by rw [size_madeCells, hz1]; simp⟩
  have h := run_make (P := Tryd.prog) W 22 5 i0 (.int .u8 0) Tryd.underlying22 hi hz0 .i64 .i64 0 (m : Int) (by omega) (by omega) (by rw [hz2]; omega) (by omega)
  simpa using h
theorem conv_own {w : World} {B : Nat} {v : Value} {L : List UInt8} (h : OwnB w B v L) (hv : v ≠ .slice none 0 0) : (convert 22 9 v).run Tryd.prog w = .ok (.string (bs L)) w := by
  have h' : w.ownsRow B 5 1 v L.length (L.map byV) := h
  rcases h'.2 with ⟨rfl, _⟩ | ⟨g, cap, cur, rfl, _⟩
  · exact absurd rfl hv
  · exact run_convert_bytes_back (P := Tryd.prog) w 22 9 5 ⟨g, 0, none⟩ cap L Tryd.underlying22 Tryd.underlying5 Tryd.underlying9 fun j hj => by
      have hadd : (⟨g, 0, none⟩ : Addr).add j = ⟨g, j, none⟩ := by unfold Addr.add; split <;> simp_all
      rw [hadd, h'.cellAt j (by omega)]
      simp [byV, hj]
theorem grown_own {w W W' : World} {v : Value} {B e size n r : Nat} {xs : List Value} (h : w.grownBy W (some r)) (hown : W.ownsRow B e size v n xs) (hB : w.heap.size ≤ B) (hg : W.grownBy W' v.ownBlock) : w.grownBy W' (some r) :=
  ⟨hg.os.trans h.os, hg.tape.trans h.tape, hg.output.trans h.output, Nat.le_trans h.size hg.size, fun i hi hne =>
    (hg.block i (Nat.lt_of_lt_of_le hi h.size) (fun e => by have := hown.lt i e.symm; omega)).trans (h.block i hi hne)⟩

def WordT (r : Nat) (p : Int) (low most : Nat) (w : World) (e : Ending) (w' : World) : Prop :=
  ∃ l : List UInt8, e = .returned (.string (bs l)) ∧ (∀ x ∈ l, x = 48 ∨ x = 49) ∧ low ≤ l.length ∧ l.length ≤ most ∧ Turned r p 101 w w'
def WdR (w : World) (r low most : Nat) (p : Int) (v i : Value) (wr : World) : Prop :=
  ∃ (L : List UInt8) (k : Nat) (q : Int), i = .int .i64 k ∧ low ≤ L.length + k ∧ L.length + k ≤ most ∧ OwnB wr w.heap.size v L ∧ v ≠ .slice none 0 0 ∧ (∀ x ∈ L, x = 48 ∨ x = 49) ∧ Rd wr r q ∧ p ≤ q ∧ q + k ≤ p + 101 ∧ w.grownBy wr (some r)

set_option maxRecDepth 10000 in
set_option maxHeartbeats 1000000 in
theorem l7Word_t (r : Nat) (p lo mo : Int) (low most : Nat) (w : World) (h : Rd w r p) (hp : p ≤ 800000) (hlo : lo = low) (hmo : mo = most) (hlm : low ≤ most) (hm : most ≤ 99) :
    Calls Tryd.prog 32 #[.pointer (some ⟨r, 0, none⟩), .int .i64 lo, .int .i64 mo] w (WordT r p low most w) := by
  subst hlo hmo
  obtain ⟨i0, hi, hz0, hz1, hz2⟩ := info_parts (P := Tryd.prog) (e := 5) (z := .int .u8 0) (size := 1) (bytes := 1) (by kernel_rfl)
  obtain ⟨M, hmk, hMs⟩ := bw_new most (by omega)
  obtain ⟨d, hd⟩ : ∃ d, most - low = d := ⟨_, rfl⟩
  have hw1 : IntKind.i64.wrap ((most : Int) - (low : Int)) = (d : Int) := by rw [IntKind.wrap_i64]; omega
  have hw2 : IntKind.i64.wrap ((d : Int) + 1) = ((d + 1 : Nat) : Int) := by rw [IntKind.wrap_i64]; omega
  have H := Lib.hid h
  have hrw := rd_lt h
  clear h
  go_enter Tryd.func32, Tryd.ntmps32
  go_wp2_with fail
  generalize hW : World.alloc w _ = W
  have hown : OwnB W w.heap.size (.slice (some ⟨w.heap.size, 0, none⟩) 0 most) [] := by
    subst hW
    exact World.ownsRow_made w M most (Nat.le_refl _) (by unfold maxLen; omega) (by omega)
  have hbW : Below w.heap.size w W := by subst hW; go_grown
  have hrW := rd_on H.out hbW
  clear hW hmk hMs
  refine (pick_t r p _ W hrW (by omega)).mono ?_
  rintro e w2 ⟨x, rfl, x0, x1, ht2⟩
  obtain ⟨k, rfl⟩ := Int.eq_ofNat_of_zero_le x0
  have hk4 : k ≤ d := by omega
  have hw3 : IntKind.i64.wrap ((low : Int) + (k : Int)) = ((low + k : Nat) : Int) := by rw [IntKind.wrap_i64]; omega
  have hown2 : OwnB w2 w.heap.size (.slice (some ⟨w.heap.size, 0, none⟩) 0 most) [] := (show W.ownsRow _ _ _ _ _ _ from hown).kept ht2.1 (.inr (by simp [Value.ownBlock]; omega))
  have hg2 : w.grownBy w2 (some r) := only_trans (only_below hbW _) ht2.1
  obtain ⟨_, q, q0, q1, hR2⟩ := ht2
  have HST := Lib.hid (show WdR w r low most p (.slice (some ⟨w.heap.size, 0, none⟩) 0 most) (.int .i64 ((low + k : Nat) : Int)) w2 from ⟨[], low + k, q, rfl, by simp, by simp; omega, hown2, by simp, by simp, hR2, q0, by omega, hg2⟩)
  clear hown hown2 hg2 hR2 hbW x1 hrW q0 q1
  go_wp2_with fail
  go_loopw [7, 8] (fun v i wr => WdR w r low most p v i wr) (fun _ i _ => (intOf i).toNat)
  case atStart => exact HST.out
  case round =>
    obtain ⟨L, k, q, rfl, hL0, hL1, hown, hv, hbits, hRd, q0, q1, hg⟩ := hrel
    clear HST hw1 hw2 hw3
    have HO := Lib.hid hown
    have HRR := Lib.hid hRd
    have HG := Lib.hid hg
    have HV := Lib.hid hv
    have HBI := Lib.hid hbits
    clear hown hRd hg hv hbits
    by_cases hk : k = 0
    · subst hk
      have hcv := conv_own HO.out HV.out
      go_wp2
      go_ret
      exact ⟨L, rfl, HBI.out, by omega, by omega, HG.out, q, q0, by omega, HRR.out⟩
    · have hk' : (0 : Int) < (k : Int) := by omega
      have hkd : decide (0 < k) = true := decide_eq_true (by omega)
      go_wp2_with fail
      refine (pick_t r q 7 wr HRR.out (by omega)).mono ?_
      rintro e w3 ⟨x, rfl, x0, x1, ht3⟩
      obtain ⟨j, rfl⟩ := Int.eq_ofNat_of_zero_le x0
      obtain ⟨y, hy⟩ : ∃ y, ([48, 48, 49, 48, 49, 49, 49] : List UInt8)[j]? = some y := ⟨_, List.getElem?_eq_getElem (show j < ([48, 48, 49, 48, 49, 49, 49] : List UInt8).length by simp; omega)⟩
      have hyb : y = 48 ∨ y = 49 := (show ∀ z ∈ ([48, 48, 49, 48, 49, 49, 49] : List UInt8), z = 48 ∨ z = 49 by decide) y (List.mem_of_getElem? hy)
      have hix : ∀ W, (Instr.index 9 (.string { data := #[48, 48, 49, 48, 49, 49, 49] }) (.int .i64 j)).run Tryd.prog W = .ok (.int .u8 (y.toNat : Int)) W := fun W => run_at (P := Tryd.prog) Tryd.underlying9 hy .i64 W
      have hown3 : w3.ownsRow w.heap.size 5 1 _ L.length (L.map byV) := (show wr.ownsRow w.heap.size 5 1 _ L.length (L.map byV) from HO.out).kept ht3.1 (by
        have hO : wr.ownsRow w.heap.size 5 1 _ L.length (L.map byV) := HO.out
        rcases hO.2 with ⟨rfl, _⟩ | ⟨g, cp, cur, rfl, hbg, _⟩
        · exact .inl rfl
        · exact .inr (by simp [Value.ownBlock]; omega))
      have hg3 : w.grownBy w3 (some r) := only_trans HG.out ht3.1
      have hs3 : w.heap.size ≤ w3.heap.size := hg3.size
      obtain ⟨_, q3, q30, q31, hR3⟩ := ht3
      have HR3 := Lib.hid hR3
      have HG3 := Lib.hid hg3
      have HYB := Lib.hid hyb
      obtain ⟨z, hz⟩ : ∃ z : Int, (y.toNat : Int) = z := ⟨_, rfl⟩
      rw [hz] at hix
      have HZ := Lib.hid hz
      clear hR3 hg3 hy hyb x1 hz
      go_wp2_with (at_builtin; refine wpList_append_own _ rfl _ _ 22 rfl w.heap.size 5 i0 (.int .u8 0) 1 1 Tryd.underlying22 hi hz0 hz1 hz2 rfl (by decide) _ _ _ rfl (hown3.alloc _) ⟨w3.heap.size, 0, none⟩ 1 1 [.int .u8 z] rfl rfl ?c1 ?c2 ?c3 ?c4 ?c5 ?_)
      case c1 =>
        intro j u hj
        match j, hj with
        | 0, hj => simp at hj; subst hj; simp [Addr.add]
      case c2 => intro u hu; simp at hu; subst hu; rfl
      case c3 => unfold maxLen; omega
      case c4 => omega
      case c5 => simp; omega
      · intro v' w4 hown4 hgrow hnone
        have hbA : Below w3.heap.size w3 (w3.alloc (.cells #[.int .u8 z] 5)) := by go_grown
        have hownA := own_below hown3 hbA
        have hszA : w3.heap.size ≤ (w3.alloc (.cells #[.int .u8 z] 5)).heap.size := hbA.size
        have hlow : Below w.heap.size w3 w4 := (hbA.mono hs3).trans (grown_low hownA (Nat.le_refl _) (by omega) hgrow)
        have HN : Hid (OwnB w4 w.heap.size v' (L ++ [y])) := by
          show w4.ownsRow _ _ _ _ _ _
          simpa [byV, HZ.out] using hown4
        have HV' : Hid (v' ≠ .slice none 0 0) := Lib.hid fun e => hnone e
        have HB' : Hid (∀ x ∈ L ++ [y], x = 48 ∨ x = 49) := Lib.hid fun x hx => by
          rcases List.mem_append.1 hx with h | h
          · exact HBI.out x h
          · rw [List.mem_singleton.1 h]; exact HYB.out
        have HR4 := Lib.hid (rd_low HR3.out hrw hlow)
        have HG4 : Hid (w.grownBy w4 (some r)) := Lib.hid ⟨hlow.os.trans HG3.out.os, hlow.tape.trans HG3.out.tape, hlow.output.trans HG3.out.output, Nat.le_trans HG3.out.size hlow.size, fun i hi hne => (hlow.block i hi).trans (HG3.out.block i hi hne)⟩
        clear hown3 hown4 hgrow hbA hownA hlow hnone
        go_wp2
        go_roundw
        case rel => exact ⟨L ++ [y], k - 1, q3, by go_num, by simp; omega, by simp; omega, HN.out, HV'.out, HB'.out, HR4.out, by omega, by omega, HG4.out⟩
        case measure => simp [intOf]; omega

/-- A valid set has been drawn. -/
def SomeS (r : Nat) (p : Int) (w : World) (e : Ending) (w' : World) : Prop := ∃ h l : List UInt8, e = .returned (.agg #[.string (bs h), .string (bs l)]) ∧ svS h l = true ∧ Turned r p 210 w w'
theorem sv_mk {h l : List UInt8} (h1 : ∀ x ∈ h, x = 48 ∨ x = 49) (h2 : ∀ x ∈ l, x = 48 ∨ x = 49) (h3 : h.length ≤ 400) (h4 : 1 ≤ l.length) (h5 : l.length ≤ 240) : svS h l = true := by
  unfold svS
  rw [bitL_iff.2 h1, bitL_iff.2 h2, decide_eq_true h3, decide_eq_true ⟨h4, h5⟩]
  rfl
theorem pr_small {f s : Int} (f0 : 0 ≤ f) (f1 : f ≤ 100) (s0 : 0 ≤ s) (s1 : s ≤ 100) : svS (prR f s).1.1 (prR f s).1.2 = true := by
  obtain ⟨F, rfl⟩ := Int.eq_ofNat_of_zero_le f0
  obtain ⟨S, rfl⟩ := Int.eq_ofNat_of_zero_le s0
  have hbit : ∀ k, ∀ x ∈ List.replicate k (48 : UInt8), x = 48 ∨ x = 49 := fun k x hx => .inl (List.eq_of_mem_replicate hx)
  unfold prR
  rw [decide_eq_true (show (0 : Int) ≤ (F : Int) ∧ (F : Int) ≤ 400 by omega), decide_eq_true (show (0 : Int) ≤ (S : Int) ∧ (S : Int) ≤ 240 by omega), Int.toNat_natCast, Int.toNat_natCast]
  simp only [Bool.and_self, if_true]
  have key : ∀ h l : List UInt8, svS h l = true → svS (resA (atS h l)).1.1 (resA (atS h l)).1.2 = true := fun h l hv => by
    rw [res_valid hv]
    obtain ⟨q1, q2, q3, q4, q5, q6⟩ := svS_parts hv
    obtain ⟨b1, b2, b3⟩ := nf_bits q6 q1 q2
    have hs := nfS_spec (h := h) q6
    exact sv_mk b1 b2 (show (nfS h l).1.length ≤ 400 by omega) (List.length_pos_iff.2 b3) (show (nfS h l).2.length ≤ 240 by omega)
  by_cases hs : S = 0
  · subst hs
    rw [show prA F 0 = atS (List.replicate F 48 ++ [49]) [48] from (funext fun n => pr_at0 F n).symm]
    refine key _ _ (sv_mk (fun x hx => ?_) (by simp) (by simp; omega) (by simp) (by simp))
    rcases List.mem_append.1 hx with h | h
    · exact hbit _ x h
    · exact .inr (by simpa using h)
  · rw [show prA F S = atS (List.replicate F 48) (49 :: List.replicate (S - 1) 48) from (funext fun n => pr_at1 F S n (by omega)).symm]
    refine key _ _ (sv_mk (hbit _) (fun x hx => ?_) (by simp; omega) (by simp) (by simp; omega))
    rcases List.mem_cons.1 hx with h | h
    · exact .inr h
    · exact hbit _ x h

set_option maxRecDepth 10000 in
set_option maxHeartbeats 2000000 in
theorem l7Some_t (r : Nat) (p : Int) (w : World) (h : Rd w r p) (hp : p ≤ 700000) :
    Calls Tryd.prog 17 #[.pointer (some ⟨r, 0, none⟩)] w (SomeS r p w) := by
  have H := Lib.hid h
  have hrw := rd_lt h
  clear h
  go_enter Tryd.func17, Tryd.ntmps17
  go_wp2_with fail
  generalize hW : World.alloc w _ = W
  obtain ⟨hz, hsz, hbW⟩ := s2_new hW
  clear hW
  refine (l7Word_t r p 0 9 0 9 W (rd_on H.out hbW) (by omega) rfl rfl (by omega) (by omega)).mono ?_
  rintro e w1 ⟨a, rfl, ha, _, ha9, ht1⟩
  have hz1 := s2_turned hz ht1.1 (by omega)
  have HT1 := Lib.hid (below_turned hbW ht1)
  obtain ⟨_, q1, q10, q11, hR1⟩ := ht1
  have HR1 := Lib.hid hR1
  clear hR1 hz hbW
  go_wp2_with fail
  refine (l7Word_t r q1 1 6 1 6 w1 HR1.out (by omega) rfl rfl (by omega) (by omega)).mono ?_
  rintro e w2 ⟨b, rfl, hb, hb1, hb6, ht2⟩
  have hz2 := s2_turned hz1 ht2.1 (by omega)
  have HT2 := Lib.hid (turned_two HT1.out HR1.out ht2 q10 q11)
  obtain ⟨_, q2, q20, q21, hR2⟩ := ht2
  have hR2' := hR2
  clear hR2 hz1
  have HSV := Lib.hid (sv_mk ha hb (by omega) hb1 (by omega))
  have HA := Lib.hid ha
  have HAL := Lib.hid ha9
  clear ha hb
  go_upto_region 2 with fail
  generalize hW : World.alloc w2 _ = W3
  obtain ⟨hx, hsx, hbx⟩ := s2_new hW
  have hz3 := s2_on hz2 hbx
  have HT3 := Lib.hid (turned_below HT2.out hbx)
  have HR3 := Lib.hid (rd_on hR2' hbx)
  have hne : w.heap.size ≠ w2.heap.size := by have := hz2.1; omega
  have hsw2 : w.heap.size ≤ w2.heap.size := Nat.le_of_lt hz2.1
  have hrw2 : r < w2.heap.size := by omega
  clear hW hbx hR2' hz2
  go_wp2_with fail
  refine (pick_t r q2 8 W3 HR3.out (by omega)).mono ?_
  rintro e w4 ⟨x, rfl, x0, x1, ht4⟩
  have hx4 := s2_turned hx ht4.1 (by omega)
  have hz4 := s2_turned hz3 ht4.1 (by omega)
  have HT4 := Lib.hid (turned_two HT3.out HR3.out ht4 (by omega) (by omega))
  obtain ⟨_, q4, q40, q41, hR4⟩ := ht4
  have HR4 := Lib.hid hR4
  have hsz4 := hx4.1
  clear hR4 hz3 hx
  by_cases hx0 : x = 0
  · subst hx0
    go_wp2_with fail
    refine (of_new r q4 [[48], [49], [48, 48], [48, 49, 48, 49]] 4 _ w4 HR4.out (by omega) rfl rfl (by simp) (by simp)).mono ?_
    rintro e w5 ⟨y, rfl, hy, ht5⟩
    have hx5 := s2_turned hx4 ht5.1 (by omega)
    have hz5 := s2_turned hz4 ht5.1 (by omega)
    have HT5 := Lib.hid (turned_two HT4.out HR4.out ht5 (by omega) (by omega))
    have HY := Lib.hid (sv_mk HA.out (show ∀ u ∈ y, u = 48 ∨ u = 49 by simp at hy; rcases hy with rfl | rfl | rfl | rfl <;> simp) (by omega) (show 1 ≤ y.length by simp at hy; rcases hy with rfl | rfl | rfl | rfl <;> simp) (show y.length ≤ 240 by simp at hy; rcases hy with rfl | rfl | rfl | rfl <;> simp))
    clear hx4 hz4 hy ht5
    obtain ⟨x0, x1, x2, x3⟩ := id hx5
    go_upto_region 7 with fail
    generalize hW : World.setCell _ _ _ = W6
    obtain ⟨hx6, ho6⟩ := s2_put1 hW hx5
    have hz6 := ho6 _ _ _ hne hz5
    have HT6 : Hid (Turned r p _ w W6) := Lib.hid (by subst hW; exact turned_put HT5.out hrw hsw2)
    clear hW ho6 x0 x1 x2 x3
    obtain ⟨x0, x1, x2, x3⟩ := id hx6
    obtain ⟨z0, z1, z2, z3⟩ := id hz6
    go_wp2
    generalize hW8 : World.setCell _ _ _ = W8
    obtain ⟨⟨_, r1, r2, _⟩, _, _, _⟩ := s2_put hW8 _ _ hz6
    refine bodyPost_ret (v := .agg #[.string (bs a), .string (bs y)]) (by simp [results, Tryd.results17, go_sem, r1, r2]) rfl ⟨a, y, rfl, HY.out, ?_⟩
    subst hW8
    exact turned_more (turned_put (turned_put HT6.out hrw (Nat.le_refl _)) hrw (Nat.le_refl _)) (by omega)
  · have hxe : (x == 0) = false := by simpa using hx0
    by_cases hx1 : x = 1
    · subst hx1
      go_wp2_with fail
      refine (pick_t r q4 9 w4 HR4.out (by omega)).mono ?_
      rintro e w5 ⟨f, rfl, f0, f1, ht5⟩
      have hx5 := s2_turned hx4 ht5.1 (by omega)
      have hz5 := s2_turned hz4 ht5.1 (by omega)
      have HT5 := Lib.hid (turned_two HT4.out HR4.out ht5 (by omega) (by omega))
      obtain ⟨_, q5, q50, q51, hR5⟩ := ht5
      have HR5 := Lib.hid hR5
      clear hx4 hz4 hR5
      go_wp2_with fail
      refine (pick_t r q5 7 w5 HR5.out (by omega)).mono ?_
      rintro e w6 ⟨s, rfl, s0, s1, ht6⟩
      have hx6 := s2_turned hx5 ht6.1 (by omega)
      have hz6 := s2_turned hz5 ht6.1 (by omega)
      have HT6 := Lib.hid (turned_two HT5.out HR5.out ht6 (by omega) (by omega))
      have HPS := Lib.hid (pr_small f0 (show f ≤ 100 by omega) s0 (show s ≤ 100 by omega))
      have HPR := Lib.hid fun w => specProgressionSet_any f s w (by omega) (by omega) (by omega) (by omega)
      obtain ⟨R, hR⟩ : ∃ R, prR f s = R := ⟨_, rfl⟩
      obtain ⟨⟨X, Y⟩, bb⟩ := R
      rw [hR] at HPS HPR
      clear hx5 hz5 ht6 f0 f1 s0 s1 hR
      go_wp2_with fail
      refine (HPR.out _).mono ?_
      rintro e w7 ⟨rfl, hb7⟩
      have hx7 := s2_on hx6 hb7
      have hz7 := s2_on hz6 hb7
      have HT7 := Lib.hid (turned_below HT6.out hb7)
      clear hx6 hz6 hb7
      obtain ⟨x0, x1, x2, x3⟩ := id hx7
      go_upto_region 7 with fail
      generalize hW : World.setCell _ _ _ = W8
      obtain ⟨hx8, _, ho8, _⟩ := s2_put hW _ _ hx7
      have hz8 := ho8 _ _ _ hne hz7
      have HT8 : Hid (Turned r p _ w W8) := Lib.hid (by subst hW; exact turned_put (turned_put HT7.out hrw hsw2) hrw hsw2)
      clear hW ho8 x0 x1 x2 x3
      obtain ⟨x0, x1, x2, x3⟩ := id hx8
      obtain ⟨z0, z1, z2, z3⟩ := id hz8
      go_wp2
      generalize hW9 : World.setCell _ _ _ = W9
      obtain ⟨⟨_, r1, r2, _⟩, _, _, _⟩ := s2_put hW9 _ _ hz8
      refine bodyPost_ret (v := .agg #[.string (bs X), .string (bs Y)]) (by simp [results, Tryd.results17, go_sem, r1, r2]) rfl ⟨X, Y, rfl, HPS.out, ?_⟩
      subst hW9
      exact turned_more (turned_put (turned_put HT8.out hrw (Nat.le_refl _)) hrw (Nat.le_refl _)) (by omega)
    · have hxe1 : (x == 1) = false := by simpa using hx1
      obtain ⟨x0, x1, x2, x3⟩ := id hx4
      obtain ⟨z0, z1, z2, z3⟩ := id hz4
      go_wp2
      generalize hW9 : World.setCell _ _ _ = W9
      obtain ⟨⟨_, r1, r2, _⟩, _, _, _⟩ := s2_put hW9 _ _ hz4
      refine bodyPost_ret (v := .agg #[.string (bs a), .string (bs b)]) (by simp [results, Tryd.results17, go_sem, r1, r2]) rfl ⟨a, b, rfl, HSV.out, ?_⟩
      subst hW9
      exact turned_more (turned_put (turned_put HT4.out hrw (Nat.le_refl _)) hrw (Nat.le_refl _)) (by omega)

end Go.Proofs.YtbfjppliploloaaDoor
