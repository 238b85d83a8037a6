/- What the model draws as a term: l1Some, l1Open. -/
import Derived.Test.YtjbbknbnknhjhaaDoorDraw4
namespace Go.Proofs.YtjbbknbnknhjhaaDoor
open Go.RowKit

/-- While l1Some fills its list: the list, the box of its result, and that only the reader has turned. -/
def LS (w : World) (r : Nat) (p K : Int) (z bl : Nat) (W : World) : Prop :=
  (∃ a b c d n : Int, C5 W bl a b c d n) ∧ Hid (∀ o, W.frozen? ⟨bl, o, none⟩ = false) ∧ C5 W z 0 0 0 0 0 ∧ Hid (∀ o, W.frozen? ⟨z, o, none⟩ = false) ∧ Turned r p K w W ∧ r ≠ bl ∧ r ≠ z ∧ z ≠ bl ∧ w.heap.size ≤ bl ∧ r < w.heap.size

theorem ls_call {w W W' : World} {r z bl : Nat} {p q K K' : Int} (h : LS w r p K z bl W) (ht : Turned r q K' W W') (hR : Rd W r q) (q0 : p ≤ q) (q1 : q ≤ p + K) : LS w r p (K + K') z bl W' := by
  obtain ⟨⟨a, b, c, d, n, h5⟩, hf, hz, hfz, h1, e1, e2, e3, e4, e5⟩ := h
  exact ⟨⟨a, b, c, d, n, c5_only h5 ht.1 (Ne.symm e1)⟩, fz_only hf ht.1 h5.1 (Ne.symm e1), c5_only hz ht.1 (Ne.symm e2), fz_only hfz ht.1 hz.1 (Ne.symm e2), turned_two h1 hR ht q0 q1, e1, e2, e3, e4, e5⟩

theorem ls_store {w W : World} {r z bl o : Nat} {p K v : Int} (h : LS w r p K z bl W) : LS w r p K z bl (W.setCell ⟨bl, o, none⟩ (.int .i64 v)) := by
  obtain ⟨h5, hf, hz, hfz, h1, e1, e2, e3, e4, e5⟩ := h
  refine ⟨c5_store h5, fun i => by simp [go_sem, hf.out i], ?_, fun i => by simp [go_sem, hfz.out i], turned_put h1 e5 e4, e1, e2, e3, e4, e5⟩
  obtain ⟨g0, g1, g2, g3, g4, g5⟩ := hz
  exact ⟨by simpa [World.setCell] using g0, (cell_far e3).trans g1, (cell_far e3).trans g2, (cell_far e3).trans g3, (cell_far e3).trans g4, (cell_far e3).trans g5⟩

theorem ls_more {w W : World} {r z bl : Nat} {p K K' : Int} (h : LS w r p K z bl W) (hK : K ≤ K') : LS w r p K' z bl W := by
  obtain ⟨h5, hf, hz, hfz, h1, e⟩ := h
  exact ⟨h5, hf, hz, hfz, turned_more h1 hK, e⟩

theorem ls_rd {w W : World} {r z bl : Nat} {p K : Int} (h : LS w r p K z bl W) : ∃ q, p ≤ q ∧ q ≤ p + K ∧ Rd W r q := by
  obtain ⟨_, _, _, _, ⟨_, q, q0, q1, hR⟩, _⟩ := h
  exact ⟨q, q0, q1, hR⟩

def LSn (w : World) (r : Nat) (p : Int) (z bl : Nat) (v : Value) (W : World) : Prop := ∃ k : Nat, k ≤ 3 ∧ v = .int .i64 k ∧ LS w r p (8 - 2 * k) z bl W

set_option maxHeartbeats 300000 in
theorem l1Some_t (r : Nat) (p : Int) (w : World) (h : Rd w r p) (hp : p ≤ 800000) :
    Calls Tryd.prog 30 #[.pointer (some ⟨r, 0, none⟩)] w (TermT r p 8 w) := by
  have hr := rd_lt h
  have H := Lib.hid h
  clear h
  go_enter Tryd.func30, Tryd.ntmps30
  go_wp2_with fail
  generalize hW : w.alloc (.cells #[.int .i64 0, .int .i64 0, .int .i64 0, .int .i64 0, .int .i64 0] 24) = W
  have hz : C5 W w.heap.size 0 0 0 0 0 := by subst hW; exact (by refine ⟨?_, ?_, ?_, ?_, ?_, ?_⟩ <;> first | (simp [go_sem]; done) | (simp; omega))
  have fz : Hid (∀ o, W.frozen? ⟨w.heap.size, o, none⟩ = false) := by intro o; subst hW; simp [go_sem]
  have hb0 : Below w.heap.size w W := by subst hW; go_grown
  clear hW
  refine (pick_t r p 31 W (rd_on H.out hb0) (by omega)).mono ?_
  rintro e w1 ⟨x, rfl, x0, x1, ht1⟩
  have hx31 : x ≤ 31 := by omega
  have HT := Lib.hid (below_turned hb0 ht1)
  have hz1 := c5_only hz ht1.1 (by omega)
  have fz1 := fz_only fz ht1.1 hz.1 (by omega)
  have hs1 : W.heap.size ≤ w1.heap.size := ht1.1.size
  obtain ⟨_, q, q0, q1, hR1⟩ := ht1
  have HR := Lib.hid hR1
  clear hR1 x1
  go_wp2_with fail
  generalize hW2 : w1.alloc (.cells #[.int .i64 0, .int .i64 0, .int .i64 0, .int .i64 0, .int .i64 (x - 15)] 3) = W2
  have hls : LS w r p 1 w.heap.size w1.heap.size W2 := by
    have hb : Below w1.heap.size w1 W2 := by subst hW2; go_grown
    exact ⟨⟨0, 0, 0, 0, x - 15, by subst hW2; exact (by refine ⟨?_, ?_, ?_, ?_, ?_, ?_⟩ <;> first | (simp [go_sem]; done) | (simp; omega))⟩, by intro o; subst hW2; simp [go_sem], c5_on hz1 hb, fun o => ((bcell hb).2 _ o hz1.1).trans (fz1.out o), turned_below HT.out hb, by have := hz.1; omega, by omega, by have := hz.1; omega, by have := hz.1; omega, hr⟩
  have hR2 : Rd W2 r q := rd_on HR.out (by subst hW2; go_grown)
  have hsz : w1.heap.size + 1 = W2.heap.size := by subst hW2; simp
  rw [hsz]
  clear hW2 hsz
  refine (num_new r q [2, 1, 3, 0] 4 _ W2 hR2 (by omega) rfl rfl (by simp) (by simp)).mono ?_
  rintro e w2 ⟨n, rfl, hn, ht2⟩
  have hls2 := ls_call hls ht2 hR2 (by omega) (by omega)
  have hn' : 0 ≤ n ∧ n ≤ 3 := by simp at hn; omega
  obtain ⟨N, rfl⟩ := Int.eq_ofNat_of_zero_le hn'.1
  have HL := Lib.hid hls2
  clear hls hls2 ht2 hR2 hn
  go_wp2
  go_loopw [4] (fun nv Wl => LSn w r p w.heap.size w1.heap.size nv Wl) (fun nv _ => (intOf nv).toNat)
  case atStart => exact ⟨N, by omega, rfl, ls_more HL.out (by omega)⟩
  case round =>
    obtain ⟨k, hk, rfl, hl⟩ := hrel
    by_cases hk0 : k = 0
    · subst hk0
      obtain ⟨⟨a, b, c, d, m, h5⟩, _, hzz, fzz, ht, _, _, _, _, _⟩ := hl
      have HTT := Lib.hid ht
      clear ht
      go_wp2_with fail
      refine (l1Term_any a b c d m _ _ h5).mono ?_
      rintro e w4 ⟨rfl, hb4⟩
      obtain ⟨z0, z1, z2, z3, z4, z5⟩ := c5_on hzz hb4
      have fz4 := fz_on hzz fzz hb4
      have HT4 := Lib.hid (turned_below HTT.out hb4)
      go_wp2
      refine bodyPost_ret (v := .agg #[.int .i64 a, .int .i64 b, .int .i64 c, .int .i64 d, .int .i64 m]) (by simp [results, Tryd.results30, go_sem, z1, z2, z3, z4, z5]) rfl ⟨a, b, c, d, m, rfl, ?_⟩
      repeat (first | (with_reducible refine turned_put ?_ hr (by omega)) | exact turned_more HT4.out (by omega))
    · have hk1 : (0 : Int) < (k : Int) := by omega
      obtain ⟨q2, p0, p1, hR3⟩ := ls_rd hl
      have HL0 := Lib.hid hl
      clear hl
      go_wp2_with fail
      refine (num_new r q2 [0, 1, 2, 0, 1, 3] 6 _ wr hR3 (by omega) rfl rfl (by simp) (by simp)).mono ?_
      rintro e w4 ⟨i, rfl, hi, ht4⟩
      have HL4 := Lib.hid (ls_call HL0.out ht4 hR3 p0 p1)
      clear ht4
      obtain ⟨q3, p2, p3, hR4⟩ := ls_rd HL4.out
      go_wp2_with fail
      refine (num_new r q3 [1, -1, 2, -2, 3, -3, 4, 6] 8 _ w4 hR4 (by omega) rfl rfl (by simp) (by simp)).mono ?_
      rintro e w5 ⟨v, rfl, _, ht5⟩
      have hl5 := ls_call HL4.out ht5 hR4 p2 p3
      have HL5 := Lib.hid (ls_more hl5 (show 8 - 2 * (k : Int) + 1 + 1 ≤ 8 - 2 * ((k - 1 : Nat) : Int) by omega))
      obtain ⟨⟨a, b, c, d, m, g0, g1, g2, g3, g4, g5⟩, fb, _⟩ := hl5
      have fb5 := fb.out
      have hi' : i = 0 ∨ i = 1 ∨ i = 2 ∨ i = 3 := by simp at hi; omega
      clear hi ht5 fb hR4 hR3
      rcases hi' with rfl | rfl | rfl | rfl
      all_goals
        go_wp2
        exact ⟨⟨k - 1, by omega, by go_num, ls_store HL5.out⟩, by simp [intOf]; omega⟩

end Go.Proofs.YtjbbknbnknhjhaaDoor
