/- The program's setOf, over any closure. -/
import Derived.Test.YtpheihejgnlanaaDoorSf7
import Derived.Laws.MakeOwn
import Derived.Laws.IdiomStrings
import Derived.Laws.EntriesVeiled
namespace Go.Proofs.YtpheihejgnlanaaDoor
open Go.RowKit

/-- A row of bytes in a block, of which k are known. -/
def BR (W : World) (b : Nat) (g : Nat → UInt8) (m k : Nat) : Prop := ∃ c, W.heap[b]? = some (.cells c 5 (0, 0)) ∧ c.size = m ∧ ∀ i, i < k → c[i]? = some (.int .u8 ((g i).toNat : Int))
theorem br_on {W w' : World} {b m k : Nat} {g : Nat → UInt8} (h : BR W b g m k) (hb : Below W.heap.size W w') : BR w' b g m k := by
  obtain ⟨c, h1, h2, h3⟩ := h
  exact ⟨c, row_on h1 hb, h2, h3⟩
theorem br_any {W : World} {b m k j : Nat} {g : Nat → UInt8} {v : Value} (h : BR W b g m k) (hj : k ≤ j) : BR (W.setCell ⟨b, j, none⟩ v) b g m k := by
  obtain ⟨c, h1, h2, h3⟩ := h
  refine ⟨_, heap_setCell_same _ _ _ _ _ _ h1, by simpa using h2, fun i hi => ?_⟩
  rw [Array.getElem?_setIfInBounds_ne (by omega)]
  exact h3 i hi
theorem br_put {W : World} {b m k : Nat} {g : Nat → UInt8} {z : Int} (h : BR W b g m k) (hk : k < m) (hz : z = ((g k).toNat : Int)) : BR (W.setCell ⟨b, k, none⟩ (.int .u8 z)) b g m (k + 1) := by
  obtain ⟨c, h1, h2, h3⟩ := h
  refine ⟨_, heap_setCell_same _ _ _ _ _ _ h1, by simpa using h2, fun i hi => ?_⟩
  by_cases e : i = k
  · subst e
    rw [Array.getElem?_setIfInBounds_self_of_lt (by omega), hz]
  · rw [Array.getElem?_setIfInBounds_ne (by omega)]
    exact h3 i (by omega)
theorem br_cell {W : World} {b m k j : Nat} {g : Nat → UInt8} (h : BR W b g m k) (hj : j < m) : (∃ v, W.cell? ⟨b, j, none⟩ = some v) ∧ W.frozen? ⟨b, j, none⟩ = false ∧ b < W.heap.size := by
  obtain ⟨c, h1, h2, h3⟩ := h
  refine ⟨?_, frozen_of_row _ _ _ _ _ h1, ?_⟩
  · rw [cell_of_row _ _ _ _ _ _ h1]
    exact ⟨_, Array.getElem?_eq_getElem (by omega)⟩
  · rcases Nat.lt_or_ge b W.heap.size with q | q
    · exact q
    · rw [Array.getElem?_eq_none q] at h1; cases h1
/-- A row of bytes, all known. -/
def RowB (W : World) (b : Nat) (l : List UInt8) : Prop := b < W.heap.size ∧ ∀ i x, l[i]? = some x → W.cell? ⟨b, i, none⟩ = some (.int .u8 (x.toNat : Int))
theorem rowb_on {W w' : World} {b : Nat} {l : List UInt8} (h : RowB W b l) (hb : Below W.heap.size W w') : RowB w' b l :=
  ⟨Nat.lt_of_lt_of_le h.1 hb.size, fun i x hx => ((bcell hb).1 b i h.1).trans (h.2 i x hx)⟩
theorem br_row {W : World} {b m : Nat} {g : Nat → UInt8} (h : BR W b g m m) : RowB W b ((List.range m).map g) := by
  have hb : b < W.heap.size := by
    obtain ⟨c, h1, _⟩ := h
    rcases Nat.lt_or_ge b W.heap.size with q | q
    · exact q
    · rw [Array.getElem?_eq_none q] at h1; cases h1
  refine ⟨hb, fun i x hx => ?_⟩
  obtain ⟨c, h1, h2, h3⟩ := h
  have hi : i < m := by simpa using (List.getElem?_eq_some_iff.1 hx).1
  rw [cell_of_row _ _ _ _ _ _ h1, h3 i hi]
  rw [List.getElem?_map, List.getElem?_range hi] at hx
  rw [← Option.some.inj hx]
/-- A new row of zeros. -/
theorem br_new (m : Nat) (hm : m ≤ 100000000) : ∃ M : Array Value, (∀ W, (Instr.makeSlice 37 (.int .i64 m) (.int .i64 m)).run Tryd.prog W = .ok (.slice (some ⟨W.heap.size, 0, none⟩) m m) (W.alloc (.cells M 5))) ∧ M.size = m := by
  obtain ⟨i0, hi, hz0, hz1, hz2⟩ := info_parts (P := Tryd.prog) (e := 5) (z := .int .u8 0) (size := 1) (bytes := 1) (by kernel_rfl)
  refine ⟨madeCells (Value.int .u8 0).cells (((m : Nat) : Int).toNat * i0.size), fun W => ?_, by rw [size_madeCells, hz1]; simp⟩
  have h := run_make (P := Tryd.prog) W 37 5 i0 (.int .u8 0) Tryd.underlying37 hi hz0 .i64 .i64 (m : Int) (m : Int) (by omega) (by omega) (by rw [hz2]; omega) (by omega)
  simpa using h
theorem slice_upto (b k m : Nat) (hk : k ≤ m) (W : World) : (Instr.slice 37 (.slice (some ⟨b, 0, none⟩) m m) none (some (.int .i64 k)) none).run Tryd.prog W = .ok (.slice (some ⟨b, 0, none⟩) k m) W := by
  simp [go_sem, hk]
theorem slice_from (b k m : Nat) (hk : k < m) (W : World) : (Instr.slice 37 (.slice (some ⟨b, 0, none⟩) m m) (some (.int .i64 k)) none none).run Tryd.prog W = .ok (.slice (some ⟨b, k, none⟩) (m - k) (m - k)) W := by
  simp [go_sem, Nat.le_of_lt hk, show ¬ m = k by omega]
/-- A row's parts as strings. -/
theorem conv_upto {W : World} {b k c : Nat} {l x : List UInt8} (h : RowB W b l) (hk : k ≤ l.length) (hx : l.take k = x) :
    (convert 37 9 (.slice (some ⟨b, 0, none⟩) k c)).run Tryd.prog W = .ok (.string (bs x)) W := by
  have hl : x.length = k := by rw [← hx, List.length_take]; omega
  have := run_convert_bytes_back (P := Tryd.prog) W 37 9 5 ⟨b, 0, none⟩ c x Tryd.underlying37 Tryd.underlying5 Tryd.underlying9 fun j hj => by
    have hadd : (⟨b, 0, none⟩ : Addr).add j = ⟨b, j, none⟩ := by unfold Addr.add; split <;> simp_all
    rw [hadd, h.2 j x[j] (by rw [← List.getElem?_eq_getElem hj, ← hx, List.getElem?_take_of_lt (by omega)])]
  rw [hl] at this
  exact this
theorem conv_from {W : World} {b k n c : Nat} {l x : List UInt8} (h : RowB W b l) (hk : k + n = l.length) (hx : l.drop k = x) :
    (convert 37 9 (.slice (some ⟨b, k, none⟩) n c)).run Tryd.prog W = .ok (.string (bs x)) W := by
  have hl : x.length = n := by rw [← hx, List.length_drop]; omega
  have := run_convert_bytes_back (P := Tryd.prog) W 37 9 5 ⟨b, k, none⟩ c x Tryd.underlying37 Tryd.underlying5 Tryd.underlying9 fun j hj => by
    have hadd : (⟨b, k, none⟩ : Addr).add j = ⟨b, k + j, none⟩ := by unfold Addr.add; split <;> simp_all
    rw [hadd, h.2 (k + j) x[j] (by rw [← List.getElem?_eq_getElem hj, ← hx, List.getElem?_drop])]
  rw [hl] at this
  exact this
/-- A function is entered. -/
def EnF (n : Nat) : Prop := ∀ (args : Array Value) (w : World), Sem.run Tryd.prog (callFunc n args) w = .ok (.enter n args) w
/-- What a closure answers in each world above this one. -/
def ClF (n : Nat) (caps : Array Value) (f : Nat → Bool) (m : Nat) (w : World) : Prop := ∀ W, Below w.heap.size w W → ∀ k, k < m → Calls Tryd.prog n (#[.int .i64 k] ++ caps) W fun e w2 => e = .returned (.bool (f k)) ∧ Below W.heap.size W w2
theorem rng_take (f : Nat → Bool) (N p : Nat) : ((List.range (N + p)).map fun i => bitS (f i)).take N = rawH (fun n => bitS (f n)) N ∧ ((List.range (N + p)).map fun i => bitS (f i)).drop N = rawL (fun n => bitS (f n)) N p :=
  raw_take (by simp) fun n hn => by rw [List.getD_eq_getElem?_getD, List.getElem?_map, List.getElem?_range hn]; rfl

theorem cl_on {n m : Nat} {caps : Array Value} {f : Nat → Bool} {w w0 : World} (h : ClF n caps f m w) (hb : Below w.heap.size w w0) : ClF n caps f m w0 := fun W hW => h W (below_on hb hW)

set_option maxRecDepth 10000 in
set_option maxHeartbeats 4000000 in
theorem wordOf_any (F : Nat) (caps : Array Value) (f : Nat → Bool) (N p : Nat) (w : World) (EN : EnF F) (hp : 0 < p) (hb : N + p ≤ 1000000) (HC : ClF F caps f (N + p) w) :
    Calls Tryd.prog 83 #[.int .i64 N, .int .i64 p, .func (.func F) #[] caps] w fun e w' => e = .returned (.agg #[.string (bs (rawH (fun n => bitS (f n)) N)), .string (bs (rawL (fun n => bitS (f n)) N p))]) ∧ Below w.heap.size w w' := by
  obtain ⟨HT, LT⟩ := rng_take f N p
  obtain ⟨H, hH⟩ : ∃ H, rawH (fun n => bitS (f n)) N = H := ⟨_, rfl⟩
  obtain ⟨L, hL⟩ : ∃ L, rawL (fun n => bitS (f n)) N p = L := ⟨_, rfl⟩
  rw [hH] at HT
  rw [hL] at LT
  rw [hH, hL]
  obtain ⟨m, hm⟩ : ∃ m, N + p = m := ⟨_, rfl⟩
  rw [hm] at hb HC HT LT
  have hNm : N < m := by omega
  have hmp : m - N = p := by omega
  obtain ⟨M, hmk, hMs⟩ := br_new m (by omega)
  have HLN : Hid (((List.range m).map fun i => bitS (f i)).length = m) := Lib.hid (by simp)
  generalize hl : ((List.range m).map fun i => bitS (f i)) = l at HT LT HLN
  have hw1 : IntKind.i64.wrap ((N : Int) + (p : Int)) = (m : Int) := by rw [IntKind.wrap_i64]; omega
  have HCC := Lib.hid HC
  have HHT := Lib.hid HT
  have HLT := Lib.hid LT
  have HHL := Lib.hid hl
  have HMS := Lib.hid hMs
  have HMP := Lib.hid hmp
  clear hH hL HC HT LT hl hp hm hMs hmp
  go_enter Tryd.func83, Tryd.ntmps83
  go_wp2_with fail
  generalize hW0 : World.alloc w _ = W0
  obtain ⟨hz, hsz, hw0⟩ := s2_new hW0
  clear hW0
  generalize hW : World.alloc W0 _ = W
  obtain ⟨hr0, hs0, hwW⟩ := heap_last hW
  clear hW
  rw [hsz] at hr0
  have HBR : Hid (BR W (w.heap.size + 1) (fun i => bitS (f i)) m 0) := Lib.hid ⟨M, hr0, HMS.out, fun i h => absurd h (by omega)⟩
  have HZ := Lib.hid (s2_on hz hwW)
  have HB := Lib.hid (below_on hw0 hwW)
  clear hz hsz hr0 hs0 hw0 hwW hmk
  go_loopw [15] (fun i wr => ∃ k : Nat, i = .int .i64 k ∧ k ≤ m ∧ BR wr (w.heap.size + 1) (fun i => bitS (f i)) m k ∧ S2 wr w.heap.size ⟨#[]⟩ ⟨#[]⟩ ∧ Below w.heap.size w wr) (fun i _ => m - (intOf i).toNat)
  case atStart => exact ⟨0, rfl, Nat.zero_le _, HBR.out, HZ.out, HB.out⟩
  case round =>
    obtain ⟨k, rfl, hk, hbr, hz, hb⟩ := hrel
    have HZ2 := Lib.hid hz
    have HB2 := Lib.hid hb
    have HBR2 := Lib.hid hbr
    clear hz hb
    by_cases hlt : k < m
    · have hk' : (k : Int) < (m : Int) := by omega
      have hwk : IntKind.i64.wrap ((k : Int) + 1) = ((k + 1 : Nat) : Int) := by rw [IntKind.wrap_i64]; omega
      obtain ⟨⟨v0, hv0⟩, hf0, hbl⟩ := br_cell hbr hlt
      clear hbr
      go_wp2_with fail
      generalize hW2 : World.setCell _ _ _ = W2
      have hbr2 : BR W2 (w.heap.size + 1) (fun i => bitS (f i)) m k := by subst hW2; exact br_any HBR2.out (Nat.le_refl _)
      have hbr3 : f k = false → BR W2 (w.heap.size + 1) (fun i => bitS (f i)) m (k + 1) := fun e => by subst hW2; exact br_put HBR2.out hlt (by simp [e, bitS])
      have hz2 : S2 W2 w.heap.size ⟨#[]⟩ ⟨#[]⟩ := by
        obtain ⟨z0, z1, z2, z3⟩ := HZ2.out
        subst hW2
        exact ⟨by simp [World.setCell]; exact z0, by simp [go_sem, *], by simp [go_sem, *], fun o => by simp [go_sem, *]⟩
      have hb2 : Below w.heap.size w W2 := by subst hW2; exact HB2.out.setCell (Nat.le_succ _) _
      clear hW2 hv0 hf0 hbl
      rw [EN, Oper.upon_enter]
      refine (HCC.out W2 hb2 k hlt).mono ?_
      rintro e w3 ⟨rfl, hb3⟩
      have hz3 := s2_on hz2 hb3
      have HB3 := Lib.hid (below_on hb2 hb3)
      have HZ3 := Lib.hid hz3
      have hbr4 := br_on hbr2 hb3
      obtain ⟨⟨v1, hv1⟩, hf1, hbl1⟩ := br_cell hbr4 hlt
      have HBR4 := Lib.hid hbr4
      have HBR5 : Hid (f k = false → BR w3 (w.heap.size + 1) (fun i => bitS (f i)) m (k + 1)) := Lib.hid fun e => br_on (hbr3 e) hb3
      clear hbr2 hbr3 hz2 hb2 hz3 hb3 hbr4
      cases hfk : f k with
      | true =>
        have HFK := Lib.hid hfk
        clear hfk
        go_wp2
        go_roundw
        case rel =>
          refine ⟨k + 1, rfl, by omega, br_put HBR4.out hlt (by simp [HFK.out, bitS]), ?_, HB3.out.setCell (Nat.le_succ _) _⟩
          obtain ⟨z0, z1, z2, z3⟩ := HZ3.out
          exact ⟨by simp [World.setCell]; exact z0, by simp [go_sem, *], by simp [go_sem, *], fun o => by simp [go_sem, *]⟩
        case measure => simp [intOf]; omega
      | false =>
        have HFK := Lib.hid hfk
        clear hfk
        go_wp2
        go_roundw
        case rel => exact ⟨k + 1, rfl, by omega, HBR5.out HFK.out, HZ3.out, HB3.out⟩
        case measure => simp [intOf]; omega
    · have hk' : ¬ (k : Int) < (m : Int) := by omega
      obtain rfl : k = m := by omega
      have hrow0 := br_row hbr
      rw [HHL.out] at hrow0
      have hrow : RowB wr.drew (w.heap.size + 1) l := rowb_on hrow0 (by go_grown)
      have hsl1 := slice_upto (w.heap.size + 1) N k (Nat.le_of_lt hNm)
      have hsl2 := slice_from (w.heap.size + 1) N k hNm
      rw [HMP.out] at hsl2
      have hcv1 : (convert 37 9 (.slice (some ⟨w.heap.size + 1, 0, none⟩) N k)).run Tryd.prog wr.drew = .ok (.string (bs H)) wr.drew := conv_upto hrow (by rw [HLN.out]; omega) HHT.out
      have hcv2 : (convert 37 9 (.slice (some ⟨w.heap.size + 1, N, none⟩) p p)).run Tryd.prog wr.drew = .ok (.string (bs L)) wr.drew := conv_from hrow (by rw [HLN.out, ← HMP.out]; omega) HLT.out
      clear hbr hrow hrow0
      obtain ⟨c0, c1, c2, c3⟩ := id HZ2.out
      go_wp2_with fail
      go_region
      go_wp2
      generalize hW8 : World.setCell _ _ _ = W8
      obtain ⟨⟨_, r1, r2, _⟩, _, _, hb8⟩ := s2_put hW8 _ _ HZ2.out
      refine bodyPost_ret (v := .agg #[.string (bs H), .string (bs L)]) (by simp [results, Tryd.results83, go_sem, r1, r2]) rfl ⟨rfl, ?_⟩
      exact below_on (hb8 w HB2.out (Nat.le_refl _)) (by go_grown)

set_option maxHeartbeats 1000000 in
theorem setOf_any (F : Nat) (caps : Array Value) (f : Nat → Bool) (N p : Nat) (w : World) (EN : EnF F) (hp : 0 < p) (hb : N + p ≤ 1000000) (HC : ClF F caps f (N + p) w) :
    Calls Tryd.prog 51 #[.int .i64 N, .int .i64 p, .func (.func F) #[] caps] w fun e w' => e = .returned (.tuple #[.agg #[.string (bs (resA (atS (rawH (fun n => bitS (f n)) N) (rawL (fun n => bitS (f n)) N p))).1.1), .string (bs (resA (atS (rawH (fun n => bitS (f n)) N) (rawL (fun n => bitS (f n)) N p))).1.2)], .bool (resA (atS (rawH (fun n => bitS (f n)) N) (rawL (fun n => bitS (f n)) N p))).2]) ∧ Below w.heap.size w w' := by
  have HWD := Lib.hid fun w0 h0 => wordOf_any F caps f N p w0 EN hp hb (cl_on HC h0)
  obtain ⟨b1, b2⟩ := raw_bits (f := f) (N := N) (p := p)
  obtain ⟨H, hH⟩ : ∃ H, rawH (fun n => bitS (f n)) N = H := ⟨_, rfl⟩
  obtain ⟨L, hL⟩ : ∃ L, rawL (fun n => bitS (f n)) N p = L := ⟨_, rfl⟩
  have hHl : H.length = N := by rw [← hH]; simp [rawH]
  have hLl : L.length = p := by rw [← hL]; simp [rawL]
  have hL0 : L ≠ [] := fun e => by rw [e] at hLl; simp at hLl; omega
  rw [hH] at b1
  rw [hL] at b2
  rw [hH, hL] at HWD ⊢
  have HRD := Lib.hid fun w => reduced_any H L w hL0 b1 b2 (by omega) (by omega)
  have HY := Lib.hid (res_yes hL0 b1 b2)
  have HO := Lib.hid (res_no hL0 b1 b2)
  obtain ⟨_, _, q1, q2, _⟩ := nfS_spec (h := H) hL0
  have HV := Lib.hid fun w => SetValid_any (nfS H L).1 (nfS H L).2 w (by omega) (by omega)
  obtain ⟨A, hA⟩ : ∃ A, (nfS H L).1 = A := ⟨_, rfl⟩
  obtain ⟨B, hB⟩ : ∃ B, (nfS H L).2 = B := ⟨_, rfl⟩
  have HP : Hid (nfS H L = (A, B)) := Lib.hid (by rw [← hA, ← hB])
  obtain ⟨v, hv⟩ : ∃ v, svS A B = v := ⟨_, rfl⟩
  rw [hA, hB] at HRD HY HO HV
  rw [hv] at HY HO HV
  clear q1 q2 hH hL hHl hLl hL0 b1 b2 hA hB hv HC hp hb EN
  go_enter Tryd.func51, Tryd.ntmps51
  go_wp2_with fail
  generalize hW0 : World.alloc w _ = W0
  obtain ⟨hz, _, hw0⟩ := s2_new hW0
  clear hW0
  refine (HWD.out _ hw0).mono ?_
  rintro e w1 ⟨rfl, hb1⟩
  have hz1 := s2_on hz hb1
  have k1 := below_on hw0 hb1
  clear hz hw0 hb1
  go_wp2_with fail
  refine (HRD.out _).mono ?_
  rintro e w2 ⟨rfl, hb2⟩
  have hz2 := s2_on hz1 hb2
  have k2 := below_on k1 hb2
  clear hz1 k1 hb2
  go_upto_region 2 with fail
  generalize hW : World.alloc w2 _ = W3
  obtain ⟨hx, _, hb3⟩ := s2_new hW
  have hz3 := s2_on hz2 hb3
  have k3 := below_on k2 hb3
  clear hW hz2 k2 hb3
  obtain ⟨x0, x1, x2, x3⟩ := id hx
  go_wp2_with fail
  refine (HV.out _).mono ?_
  rintro e w4 ⟨rfl, hb4⟩
  have hx4 := s2_on hx hb4
  have hz4 := s2_on hz3 hb4
  have k4 := below_on k3 hb4
  clear x0 x1 x2 x3 hx hz3 k3 hb4
  obtain ⟨a0, a1, a2, a3⟩ := id hx4
  obtain ⟨c0, c1, c2, c3⟩ := id hz4
  cases v with
  | true =>
    have HF := Lib.hid (HY.out rfl)
    go_wp2
    generalize hW8 : World.setCell _ _ _ = W8
    obtain ⟨⟨_, r1, r2, _⟩, _, _, hb8⟩ := s2_put hW8 _ _ hz4
    refine bodyPost_ret (v := .tuple #[.agg #[.string (bs (((A, B), true)).1.1), .string (bs (((A, B), true)).1.2)], .bool (((A, B), true)).2]) (by simp [results, Tryd.results51, go_sem, r1, r2]) rfl ⟨by rw [HF.out, HP.out], ?_⟩
    exact hb8 w k4 (Nat.le_refl _)
  | false =>
    have HF := Lib.hid (HO.out rfl)
    go_wp2
    generalize hW8 : World.setCell _ _ _ = W8
    obtain ⟨⟨_, r1, r2, _⟩, _, _, hb8⟩ := s2_put hW8 _ _ hz4
    refine bodyPost_ret (v := .tuple #[.agg #[.string ⟨#[]⟩, .string ⟨#[]⟩], .bool false]) (by simp [results, Tryd.results51, go_sem, r1, r2]) rfl ⟨by rw [HF.out]; rfl, ?_⟩
    exact hb8 w k4 (Nat.le_refl _)
end Go.Proofs.YtpheihejgnlanaaDoor
