/- What the model draws as a term that is valid; one of a list of strings; the argument of ParseTerm. -/
import Derived.Test.YtjbbknbnknhjhaaDoorDraw6
import Derived.Test.YtjbbknbnknhjhaaDoorTxD
namespace Go.Proofs.YtjbbknbnknhjhaaDoor
open Go.RowKit

theorem opened_below {w w1 w2 : World} {r : Nat} {p K : Int} (hb : Below w.heap.size w w1) (hr : w.heap.size ≤ r) (ht : Turned r p K w1 w2) : Below w.heap.size w w2 :=
  hb.trans (below_only ht.1 hb.size hr)

def TermV (r : Nat) (p K : Int) (w : World) (e : Ending) (w' : World) : Prop := ∃ a b c d n : Int, e = .returned (.agg #[.int .i64 a, .int .i64 b, .int .i64 c, .int .i64 d, .int .i64 n]) ∧ tvB a b c d n = true ∧ Turned r p K w w'

theorem tv_of {a b c d n : Int} (ha : -100 ≤ a ∧ a ≤ 100) (hb : -100 ≤ b ∧ b ≤ 100) (hc : -100 ≤ c ∧ c ≤ 100) (hd : -100 ≤ d ∧ d ≤ 100) (hn : -10000 ≤ n ∧ n ≤ 10000) : tvB a b c d n = true := by
  simp only [tvB, wlB, Bool.and_eq_true, decide_eq_true_eq]
  omega

theorem c5_storev {W : World} {bl o : Nat} {v : Int} (h : ∃ a b c d n : Int, C5 W bl a b c d n ∧ tvB a b c d n = true) (ho : o < 4) (hv : -100 ≤ v ∧ v ≤ 100) : ∃ a b c d n : Int, C5 (W.setCell ⟨bl, o, none⟩ (.int .i64 v)) bl a b c d n ∧ tvB a b c d n = true := by
  obtain ⟨a, b, c, d, n, ⟨h0, h1, h2, h3, h4, h5⟩, ht⟩ := h
  obtain ⟨ta, tb, tc, td, tn⟩ := tv_bd ht
  have hs : bl < (W.setCell ⟨bl, o, none⟩ (.int .i64 v)).heap.size := by simpa [World.setCell] using h0
  by_cases e0 : o = 0
  · subst e0; exact ⟨v, b, c, d, n, ⟨hs, by simp [go_sem, *], by simp [go_sem, *], by simp [go_sem, *], by simp [go_sem, *], by simp [go_sem, *]⟩, tv_of hv tb tc td tn⟩
  · by_cases e1 : o = 1
    · subst e1; exact ⟨a, v, c, d, n, ⟨hs, by simp [go_sem, *], by simp [go_sem, *], by simp [go_sem, *], by simp [go_sem, *], by simp [go_sem, *]⟩, tv_of ta hv tc td tn⟩
    · by_cases e2 : o = 2
      · subst e2; exact ⟨a, b, v, d, n, ⟨hs, by simp [go_sem, *], by simp [go_sem, *], by simp [go_sem, *], by simp [go_sem, *], by simp [go_sem, *]⟩, tv_of ta tb hv td tn⟩
      · obtain rfl : o = 3 := by omega
        exact ⟨a, b, c, v, n, ⟨hs, by simp [go_sem, *], by simp [go_sem, *], by simp [go_sem, *], by simp [go_sem, *], by simp [go_sem, *]⟩, tv_of ta tb tc hv tn⟩

def LV (w : World) (r : Nat) (p K : Int) (z bl : Nat) (W : World) : Prop :=
  (∃ a b c d n : Int, C5 W bl a b c d n ∧ tvB a b c d n = true) ∧ Hid (∀ o, W.frozen? ⟨bl, o, none⟩ = false) ∧ C5 W z 0 0 0 0 0 ∧ Hid (∀ o, W.frozen? ⟨z, o, none⟩ = false) ∧ Turned r p K w W ∧ r ≠ bl ∧ r ≠ z ∧ z ≠ bl ∧ w.heap.size ≤ bl ∧ r < w.heap.size

theorem lv_call {w W W' : World} {r z bl : Nat} {p q K K' : Int} (h : LV w r p K z bl W) (ht : Turned r q K' W W') (hR : Rd W r q) (q0 : p ≤ q) (q1 : q ≤ p + K) : LV w r p (K + K') z bl W' := by
  obtain ⟨⟨a, b, c, d, n, h5, htv⟩, hf, hz, hfz, h1, e1, e2, e3, e4, e5⟩ := h
  exact ⟨⟨a, b, c, d, n, c5_only h5 ht.1 (Ne.symm e1), htv⟩, fz_only hf ht.1 h5.1 (Ne.symm e1), c5_only hz ht.1 (Ne.symm e2), fz_only hfz ht.1 hz.1 (Ne.symm e2), turned_two h1 hR ht q0 q1, e1, e2, e3, e4, e5⟩

theorem lv_store {w W : World} {r z bl o : Nat} {p K v : Int} (h : LV w r p K z bl W) (ho : o < 4) (hv : -100 ≤ v ∧ v ≤ 100) : LV w r p K z bl (W.setCell ⟨bl, o, none⟩ (.int .i64 v)) := by
  obtain ⟨h5, hf, hz, hfz, h1, e1, e2, e3, e4, e5⟩ := h
  refine ⟨c5_storev h5 ho hv, fun i => by simp [go_sem, hf.out i], ?_, fun i => by simp [go_sem, hfz.out i], turned_put h1 e5 e4, e1, e2, e3, e4, e5⟩
  obtain ⟨g0, g1, g2, g3, g4, g5⟩ := hz
  exact ⟨by simpa [World.setCell] using g0, (cell_far e3).trans g1, (cell_far e3).trans g2, (cell_far e3).trans g3, (cell_far e3).trans g4, (cell_far e3).trans g5⟩

theorem lv_more {w W : World} {r z bl : Nat} {p K K' : Int} (h : LV w r p K z bl W) (hK : K ≤ K') : LV w r p K' z bl W := by
  obtain ⟨h5, hf, hz, hfz, h1, e⟩ := h
  exact ⟨h5, hf, hz, hfz, turned_more h1 hK, e⟩

theorem lv_rd {w W : World} {r z bl : Nat} {p K : Int} (h : LV w r p K z bl W) : ∃ q, p ≤ q ∧ q ≤ p + K ∧ Rd W r q := by
  obtain ⟨_, _, _, _, ⟨_, q, q0, q1, hR⟩, _⟩ := h
  exact ⟨q, q0, q1, hR⟩

def LVn (w : World) (r : Nat) (p : Int) (z bl : Nat) (v : Value) (W : World) : Prop := ∃ k : Nat, k ≤ 3 ∧ v = .int .i64 k ∧ LV w r p (8 - 2 * k) z bl W

set_option maxHeartbeats 300000 in
theorem l1Some_v (r : Nat) (p : Int) (w : World) (h : Rd w r p) (hp : p ≤ 800000) :
    Calls Tryd.prog 30 #[.pointer (some ⟨r, 0, none⟩)] w (TermV r p 8 w) := by
  have hr := rd_lt h
  have H := Lib.hid h
  clear h
  go_enter Tryd.func30, Tryd.ntmps30
  go_wp2_with fail
  generalize hW : w.alloc (.cells #[.int .i64 0, .int .i64 0, .int .i64 0, .int .i64 0, .int .i64 0] 24) = W
  have hz : C5 W w.heap.size 0 0 0 0 0 := by subst hW; exact (by refine ⟨?_, ?_, ?_, ?_, ?_, ?_⟩ <;> first | (simp [go_sem]; done) | (simp; omega))
  have fz : Hid (∀ o, W.frozen? ⟨w.heap.size, o, none⟩ = false) := by intro o; subst hW; simp [go_sem]
  have hb0 : Below w.heap.size w W := by subst hW; go_grown
  clear hW
  refine (pick_t r p 31 W (rd_on H.out hb0) (by omega)).mono ?_
  rintro e w1 ⟨x, rfl, x0, x1, ht1⟩
  have hx31 : x ≤ 31 := by omega
  have HT := Lib.hid (below_turned hb0 ht1)
  have hz1 := c5_only hz ht1.1 (by omega)
  have fz1 := fz_only fz ht1.1 hz.1 (by omega)
  have hs1 : W.heap.size ≤ w1.heap.size := ht1.1.size
  obtain ⟨_, q, q0, q1, hR1⟩ := ht1
  have HR := Lib.hid hR1
  clear hR1 x1
  go_wp2_with fail
  generalize hW2 : w1.alloc (.cells #[.int .i64 0, .int .i64 0, .int .i64 0, .int .i64 0, .int .i64 (x - 15)] 3) = W2
  have hls : LV w r p 1 w.heap.size w1.heap.size W2 := by
    have hb : Below w1.heap.size w1 W2 := by subst hW2; go_grown
    exact ⟨⟨0, 0, 0, 0, x - 15, by subst hW2; exact (by refine ⟨?_, ?_, ?_, ?_, ?_, ?_⟩ <;> first | (simp [go_sem]; done) | (simp; omega)), tv_of ⟨by omega, by omega⟩ ⟨by omega, by omega⟩ ⟨by omega, by omega⟩ ⟨by omega, by omega⟩ ⟨by have := x0; omega, by have := hx31; omega⟩⟩, by intro o; subst hW2; simp [go_sem], c5_on hz1 hb, fun o => ((bcell hb).2 _ o hz1.1).trans (fz1.out o), turned_below HT.out hb, by have := hz.1; omega, by omega, by have := hz.1; omega, by have := hz.1; omega, hr⟩
  have hR2 : Rd W2 r q := rd_on HR.out (by subst hW2; go_grown)
  have hsz : w1.heap.size + 1 = W2.heap.size := by subst hW2; simp
  rw [hsz]
  clear hW2 hsz
  refine (num_new r q [2, 1, 3, 0] 4 _ W2 hR2 (by omega) rfl rfl (by simp) (by simp)).mono ?_
  rintro e w2 ⟨n, rfl, hn, ht2⟩
  have hls2 := lv_call hls ht2 hR2 (by omega) (by omega)
  have hn' : 0 ≤ n ∧ n ≤ 3 := by simp at hn; omega
  obtain ⟨N, rfl⟩ := Int.eq_ofNat_of_zero_le hn'.1
  have HL := Lib.hid hls2
  clear hls hls2 ht2 hR2 hn
  go_wp2
  go_loopw [4] (fun nv Wl => LVn w r p w.heap.size w1.heap.size nv Wl) (fun nv _ => (intOf nv).toNat)
  case atStart => exact ⟨N, by omega, rfl, lv_more HL.out (by omega)⟩
  case round =>
    obtain ⟨k, hk, rfl, hl⟩ := hrel
    by_cases hk0 : k = 0
    · subst hk0
      obtain ⟨⟨a, b, c, d, m, h5, htv⟩, _, hzz, fzz, ht, _, _, _, _, _⟩ := hl
      have HTT := Lib.hid ht
      have HTV := Lib.hid htv
      clear ht htv
      go_wp2_with fail
      refine (l1Term_any a b c d m _ _ h5).mono ?_
      rintro e w4 ⟨rfl, hb4⟩
      obtain ⟨z0, z1, z2, z3, z4, z5⟩ := c5_on hzz hb4
      have fz4 := fz_on hzz fzz hb4
      have HT4 := Lib.hid (turned_below HTT.out hb4)
      go_wp2
      refine bodyPost_ret (v := .agg #[.int .i64 a, .int .i64 b, .int .i64 c, .int .i64 d, .int .i64 m]) (by simp [results, Tryd.results30, go_sem, z1, z2, z3, z4, z5]) rfl ⟨a, b, c, d, m, rfl, HTV.out, ?_⟩
      repeat (first | (with_reducible refine turned_put ?_ hr (by omega)) | exact turned_more HT4.out (by omega))
    · have hk1 : (0 : Int) < (k : Int) := by omega
      obtain ⟨q2, p0, p1, hR3⟩ := lv_rd hl
      have HL0 := Lib.hid hl
      clear hl
      go_wp2_with fail
      refine (num_new r q2 [0, 1, 2, 0, 1, 3] 6 _ wr hR3 (by omega) rfl rfl (by simp) (by simp)).mono ?_
      rintro e w4 ⟨i, rfl, hi, ht4⟩
      have HL4 := Lib.hid (lv_call HL0.out ht4 hR3 p0 p1)
      clear ht4
      obtain ⟨q3, p2, p3, hR4⟩ := lv_rd HL4.out
      go_wp2_with fail
      refine (num_new r q3 [1, -1, 2, -2, 3, -3, 4, 6] 8 _ w4 hR4 (by omega) rfl rfl (by simp) (by simp)).mono ?_
      rintro e w5 ⟨v, rfl, hv, ht5⟩
      have HVV := Lib.hid (show -100 ≤ v ∧ v ≤ 100 by simp at hv; omega)
      clear hv
      have hl5 := lv_call HL4.out ht5 hR4 p2 p3
      have HL5 := Lib.hid (lv_more hl5 (show 8 - 2 * (k : Int) + 1 + 1 ≤ 8 - 2 * ((k - 1 : Nat) : Int) by omega))
      obtain ⟨⟨a, b, c, d, m, ⟨g0, g1, g2, g3, g4, g5⟩, _⟩, fb, _⟩ := hl5
      have fb5 := fb.out
      have hi' : i = 0 ∨ i = 1 ∨ i = 2 ∨ i = 3 := by simp at hi; omega
      clear hi ht5 fb hR4 hR3
      rcases hi' with rfl | rfl | rfl | rfl
      all_goals
        go_wp2
        exact ⟨⟨k - 1, by omega, by go_num, lv_store HL5.out (by decide) HVV.out⟩, by simp [intOf]; omega⟩

/-- One of a list of strings. -/
def OfT (r : Nat) (p : Int) (L : List (List UInt8)) (w : World) (e : Ending) (w' : World) : Prop := ∃ x : List UInt8, e = .returned (.string (bs x)) ∧ x ∈ L ∧ Turned r p 1 w w'

set_option maxHeartbeats 400000 in
theorem of_t (r bl : Nat) (p : Int) (L : List (List UInt8)) (w : World) (h : Rd w r p) (hp : p ≤ 1000000) (hL : 1 ≤ L.length) (hM : L.length ≤ 1000) (hbl : bl < w.heap.size) (hne : bl ≠ r)
    (hc : ∀ i x, L[i]? = some x → w.cell? ⟨bl, i, none⟩ = some (.string (bs x))) :
    Calls Tryd.prog 32 #[.pointer (some ⟨r, 0, none⟩), .slice (some ⟨bl, 0, none⟩) L.length L.length] w (OfT r p L w) := by
  obtain ⟨N, hN⟩ : ∃ N, N = L.length := ⟨_, rfl⟩
  rw [← hN] at hL hM ⊢
  have HN := Lib.hid hN
  have HC := Lib.hid hc
  clear hN hc
  go_enter Tryd.func32, Tryd.ntmps32
  go_wp2_with fail
  refine (pick_t r p N w h hp).mono ?_
  rintro e w1 ⟨x, rfl, x0, x1, ht⟩
  obtain ⟨i, rfl⟩ := Int.eq_ofNat_of_zero_le x0
  have hi : i < N := by omega
  obtain ⟨y, hy⟩ : ∃ y, L[i]? = some y := ⟨_, List.getElem?_eq_getElem (by rw [← HN.out]; exact hi)⟩
  have hcell : w1.cell? ⟨bl, i, none⟩ = some (.string (bs y)) := (cell_only ht.1 hbl hne).trans (HC.out i y hy)
  have hi' : (i : Int) < (N : Int) := by omega
  have HY := Lib.hid (List.mem_of_getElem? hy)
  have HT := Lib.hid ht
  clear hy x1 ht
  go_wp2
  go_ret
  exact ⟨y, rfl, HY.out, HT.out⟩

set_option maxHeartbeats 400000 in
theorem DrawFormatTerm_t (sp : Option Addr) (n cap : Nat) (w : World) (h : Code w sp n cap) :
    Calls Tryd.prog 5 #[.slice sp n cap] w (SomeTerm w) := by
  have H := Lib.hid h
  clear h
  go_enter Tryd.func5, Tryd.ntmps5
  go_wp2_with fail
  generalize hW : w.alloc (.cells #[.int .i64 0, .int .i64 0, .int .i64 0, .int .i64 0, .int .i64 0] 24) = W
  have hz : C5 W w.heap.size 0 0 0 0 0 := by subst hW; exact (by refine ⟨?_, ?_, ?_, ?_, ?_, ?_⟩ <;> first | (simp [go_sem]; done) | (simp; omega))
  have fz : Hid (∀ o, W.frozen? ⟨w.heap.size, o, none⟩ = false) := by intro o; subst hW; simp [go_sem]
  have hb0 : Below w.heap.size w W := by subst hW; go_grown
  clear hW
  refine (l17Open_t sp n cap W (code_on H.out hb0)).mono ?_
  rintro e w1 ⟨r, rfl, hr, hR, hb1⟩
  have HR := Lib.hid hR
  clear hR
  go_wp2_with fail
  refine (l1Open_t r 0 w1 HR.out (by omega)).mono ?_
  rintro e w2 ⟨a, b, c, d, m, rfl, ht⟩
  have hb2 : Below W.heap.size W w2 := hb1.trans (below_only ht.1 hb1.size hr)
  obtain ⟨z0, z1, z2, z3, z4, z5⟩ := c5_on hz hb2
  have fz2 := fz_on hz fz hb2
  clear ht
  go_wp2
  refine bodyPost_ret (v := .agg #[.int .i64 a, .int .i64 b, .int .i64 c, .int .i64 d, .int .i64 m]) (by simp [results, Tryd.results5, go_sem, z1, z2, z3, z4, z5]) rfl ⟨a, b, c, d, m, rfl, ?_⟩
  have hbb := below_on hb0 hb2
  go_grown

theorem eight_at {w : World} {b : Nat} {x0 x1 x2 x3 x4 x5 x6 x7 : List UInt8} (h0 : w.cell? ⟨b, 0, none⟩ = some (.string (bs x0))) (h1 : w.cell? ⟨b, 1, none⟩ = some (.string (bs x1))) (h2 : w.cell? ⟨b, 2, none⟩ = some (.string (bs x2))) (h3 : w.cell? ⟨b, 3, none⟩ = some (.string (bs x3))) (h4 : w.cell? ⟨b, 4, none⟩ = some (.string (bs x4))) (h5 : w.cell? ⟨b, 5, none⟩ = some (.string (bs x5))) (h6 : w.cell? ⟨b, 6, none⟩ = some (.string (bs x6))) (h7 : w.cell? ⟨b, 7, none⟩ = some (.string (bs x7))) :
    ∀ (i : Nat) s, ([x0, x1, x2, x3, x4, x5, x6, x7] : List (List UInt8))[i]? = some s → w.cell? ⟨b, i, none⟩ = some (.string (bs s)) := by
  intro i s hs
  match i, hs with
  | 0, hs => simp at hs; subst hs; exact h0
  | 1, hs => simp at hs; subst hs; exact h1
  | 2, hs => simp at hs; subst hs; exact h2
  | 3, hs => simp at hs; subst hs; exact h3
  | 4, hs => simp at hs; subst hs; exact h4
  | 5, hs => simp at hs; subst hs; exact h5
  | 6, hs => simp at hs; subst hs; exact h6
  | 7, hs => simp at hs; subst hs; exact h7

theorem tf_sz {a b c d n : Int} (h : tvB a b c d n = true) : 1 ≤ (tfL a b c d n).length ∧ (tfL a b c d n).length ≤ 116 := by
  have h1 := ft_len (L := [a, b, c, d, n]) (ft_bd h) 5
  unfold tfL
  rw [if_pos h]
  split
  · simp
  · rename_i hne
    have := List.length_pos_iff.2 hne
    omega

end Go.Proofs.YtjbbknbnknhjhaaDoor
