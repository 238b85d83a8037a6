/- Lists of steps as an argument: contracts of szStepS, toStepS and eqStepS. -/
import Derived.Test.YtbppcpaodfjpkaaDoorToI
import Derived.Test.YtbppcpaodfjpkaaDoorFormA
import Derived.Deep.RegionWith
namespace Go.Proofs.YtbppcpaodfjpkaaDoor
open Go.RowKit

theorem ret_iS {k : IntKind} {a b : Int} (h : a = b) : Ending.returned (.int k a) = .returned (.int k b) := by rw [h]
/-- The two lists of a step. -/
structure SpD where
  (f t : List Int)
/-- A step lies in two cells, an argument. -/
def SRow (w : World) (b o : Nat) (x : SpD) : Prop := ∃ s t, w.cell? ⟨b, o, none⟩ = some s ∧ w.cell? ⟨b, o + 1, none⟩ = some t ∧ RdJ w s x.f ∧ RdJ w t x.t
theorem srow_on {w w' : World} {b o : Nat} {x : SpD} (h : SRow w b o x) (hl : b < w.heap.size) (hb : Below w.heap.size w w') : SRow w' b o x := by
  obtain ⟨s, t, h1, h2, h3, h4⟩ := h
  exact ⟨s, t, (hb.cell (p := ⟨b, o, none⟩) hl).trans h1, (hb.cell (p := ⟨b, o + 1, none⟩) hl).trans h2, rdJ_on h3 hb, rdJ_on h4 hb⟩
/-- The slice v, an argument, reads as the steps LL. -/
def RdSG (w : World) (v : Value) (LL : List SpD) : Prop :=
  ∃ sp cap, v = .slice sp LL.length cap ∧ LL.length ≤ cap ∧ cap ≤ maxLen ∧ (LL.length = 0 ∨ ∃ b o, sp = some ⟨b, o, none⟩ ∧ b < w.heap.size ∧ ∀ i x, LL[i]? = some x → SRow w b (o + i * 2) x)
theorem rdSG_on {w w' : World} {v : Value} {LL : List SpD} (h : RdSG w v LL) (hb : Below w.heap.size w w') : RdSG w' v LL := by
  obtain ⟨sp, cap, hv, h1, h2, hc⟩ := h
  exact ⟨sp, cap, hv, h1, h2, hc.imp id fun ⟨b, o, e, hlt, hc⟩ => ⟨b, o, e, Nat.lt_of_lt_of_le hlt hb.size, fun i x hx => srow_on (hc i x hx) hlt hb⟩⟩
/-- A step of the program's, its lists behind block B. -/
def SRowb (w : World) (B b o : Nat) (x : SpD) : Prop := ∃ s t, w.cell? ⟨b, o, none⟩ = some s ∧ w.cell? ⟨b, o + 1, none⟩ = some t ∧ RdJb w B s x.f ∧ RdJb w B t x.t
theorem srowb_on {w w' : World} {B b o : Nat} {x : SpD} (h : SRowb w B b o x) (hl : b < w.heap.size) (hb : Below w.heap.size w w') : SRowb w' B b o x := by
  obtain ⟨s, t, h1, h2, h3, h4⟩ := h
  exact ⟨s, t, (hb.cell (p := ⟨b, o, none⟩) hl).trans h1, (hb.cell (p := ⟨b, o + 1, none⟩) hl).trans h2, rdJb_on h3 hb, rdJb_on h4 hb⟩
/-- The slice v reads as the steps LL, whose lists lie in blocks behind its own. -/
def RdSS (w : World) (v : Value) (LL : List SpD) : Prop :=
  ∃ sp cap, v = .slice sp LL.length cap ∧ (LL.length = 0 ∨ ∃ b, sp = some ⟨b, 0, none⟩ ∧ b < w.heap.size ∧ ∀ i x, LL[i]? = some x → SRowb w (b + 1) b (i * 2) x)
theorem readsSS_on {w w' : World} {v : Value} {LL : List SpD} (h : RdSS w v LL) (hb : Below w.heap.size w w') : RdSS w' v LL := by
  obtain ⟨sp, cap, hv, hc⟩ := h
  exact ⟨sp, cap, hv, hc.imp id fun ⟨b, e, hlt, hc⟩ => ⟨b, e, Nat.lt_of_lt_of_le hlt hb.size, fun i x hx => srowb_on (hc i x hx) hlt hb⟩⟩
theorem RdSS.slice {w : World} {v : Value} {LL : List SpD} (h : RdSS w v LL) : ∃ a n c, v = .slice a n c := by
  obtain ⟨sp, cap, e, _⟩ := h
  exact ⟨_, _, _, e⟩

/-- How many numbers steps have. -/
def smS (LL : List SpD) : Nat := (LL.map fun x => x.f.length + x.t.length).sum
theorem smS_take {LL : List SpD} {k : Nat} {x : SpD} (h : LL[k]? = some x) : smS (LL.take (k + 1)) = smS (LL.take k) + (x.f.length + x.t.length) := by
  have e : LL.take (k + 1) = LL.take k ++ [x] := by
    rw [List.take_add_one, h]
    rfl
  unfold smS
  rw [e, List.map_append, List.sum_append]
  simp
theorem smS_le (LL : List SpD) (k : Nat) : smS (LL.take k) ≤ smS LL := by
  have e : smS LL = smS (LL.take k) + smS (LL.drop k) := by
    unfold smS
    rw [← List.sum_append, ← List.map_append, List.take_append_drop]
  omega
theorem smS_at {LL : List SpD} {k : Nat} {x : SpD} (h : LL[k]? = some x) : x.f.length + x.t.length ≤ smS LL := by
  have h1 := smS_take h
  have h2 := smS_le LL (k + 1)
  omega
def spS (LL : List SpD) : Nat := LL.length + smS LL

theorem szIntS_to (v : Value) (L : List Int) (w : World) (l : Nat) (hl0 : l ≤ 1048576) (h : RdJ w v L) :
    Calls Tryd.prog 58 #[v, .int .i64 l] w fun e w' => e = .returned (.int .i64 (szI L.length l)) ∧ w = w' := by
  obtain ⟨sp, cap, rfl, h1, h2, _⟩ := h
  unfold maxLen at h2
  obtain ⟨n, hn⟩ : ∃ n, L.length = n := ⟨_, rfl⟩
  rw [hn] at h1 ⊢
  clear hn
  by_cases hl : n ≤ l
  · rw [szI_pos hl]
    have hz2 : ¬ ((l : Int) - (n : Int)) < 0 := by omega
    go_enter Tryd.func58, Tryd.ntmps58
    go_wp2
    go_ret
    exact ⟨ret_iS (by omega), rfl⟩
  · rw [szI_neg (by omega)]
    have hz2 : ((l : Int) - (n : Int)) < 0 := by omega
    go_enter Tryd.func58, Tryd.ntmps58
    go_wp2
    go_ret
    exact ⟨rfl, rfl⟩

theorem szStep_to (s t : Value) (x : SpD) (w : World) (l : Nat) (hl0 : l ≤ 1048576) (hs : RdJ w s x.f) (ht : RdJ w t x.t) :
    Calls Tryd.prog 37 #[.agg #[s, t], .int .i64 l] w fun e w' => e = .returned (.int .i64 (szI (x.f.length + x.t.length) l)) ∧ Below w.heap.size w w' := by
  have HS := Lib.hid hs
  have HT := Lib.hid ht
  obtain ⟨sa, sn, sc, rfl⟩ := hs.slice
  obtain ⟨ta, tn, tc, rfl⟩ := ht.slice
  clear hs ht
  go_enter Tryd.func37, Tryd.ntmps37
  go_wp2_with fail
  generalize hW : World.alloc _ _ = W
  have hw : Below w.heap.size w W := by subst hW; go_grown
  have hx0 : W.cell? ⟨w.heap.size, 0, none⟩ = some (.slice sa sn sc) := by subst hW; simp [go_sem]
  have hx1 : W.cell? ⟨w.heap.size, 1, none⟩ = some (.slice ta tn tc) := by subst hW; simp [go_sem]
  clear hW
  refine (szIntS_to _ x.f _ l hl0 (rdJ_on HS.out hw)).mono ?_
  rintro e w1 ⟨rfl, rfl⟩
  by_cases h1 : x.f.length ≤ l
  · obtain ⟨m, hm⟩ : ∃ m : Nat, l - x.f.length = m := ⟨_, rfl⟩
    rw [szI_pos h1, hm]
    have hm0 : ¬ (m : Int) < 0 := by omega
    have HE := Lib.hid (show szI (x.f.length + x.t.length) l = szI x.t.length m by rw [← hm, szI_step h1])
    have hm1 : m ≤ 1048576 := by omega
    clear h1 hm
    go_wp2_with fail
    refine (szIntS_to _ x.t _ m hm1 (rdJ_on HT.out hw)).mono ?_
    rintro e w2 ⟨rfl, rfl⟩
    by_cases h2 : x.t.length ≤ m
    · obtain ⟨d, hd⟩ : ∃ d : Nat, m - x.t.length = d := ⟨_, rfl⟩
      rw [szI_pos h2, hd] at HE ⊢
      have hd0 : ¬ (d : Int) < 0 := by omega
      clear h2 hd
      go_wp2
      go_ret
      exact ⟨ret_iS HE.out.symm, hw⟩
    · rw [szI_neg (show m < x.t.length by omega)] at HE ⊢
      clear h2
      go_wp2
      go_ret
      exact ⟨ret_iS HE.out.symm, hw⟩
  · rw [szI_neg (show l < x.f.length by omega)]
    have HE := Lib.hid (show szI (x.f.length + x.t.length) l = -1 from szI_neg (by omega))
    clear h1
    go_wp2
    go_ret
    exact ⟨ret_iS HE.out.symm, hw⟩

set_option maxHeartbeats 1000000 in
theorem szStepS_is (v : Value) (LL : List SpD) (w : World) (h : RdSG w v LL) :
    Calls Tryd.prog 16 #[v, .int .i64 1048576] w fun e w' => e = .returned (.int .i64 (szI (spS LL) 1048576)) ∧ Below w.heap.size w w' := by
  obtain ⟨sp, cap, rfl, h1, h2, hc⟩ := h
  unfold maxLen at h2
  obtain ⟨n, hn⟩ : ∃ n, LL.length = n := ⟨_, rfl⟩
  obtain ⟨S, hS⟩ : ∃ S, spS LL = S := ⟨_, rfl⟩
  have HS := Lib.hid hS
  have HN := Lib.hid hn
  have HC := Lib.hid hc
  rw [hS]
  rw [hn] at h1 ⊢
  have hSn : n ≤ S := by rw [← hS, ← hn]; exact Nat.le_add_right _ _
  clear hn hc hS
  by_cases hl : n ≤ 1048576
  · go_enter Tryd.func16, Tryd.ntmps16
    go_wp2
    go_loopw [1, 5] (fun l i wr => ∃ k m : Nat, l = .int .i64 m ∧ i = .int .i64 k ∧ k ≤ n ∧ n + smS (LL.take k) + m = 1048576 ∧ Below w.heap.size w wr) (fun _ i _ => n - (intOf i).toNat)
    case atStart => exact ⟨0, 1048576 - n, by go_num, rfl, by omega, by simp [smS]; omega, Below.refl _ _⟩
    case round =>
      obtain ⟨k, m, rfl, rfl, hk, hm, hbw⟩ := hrel
      have HB := Lib.hid hbw
      by_cases hlt : k < n
      · have hk' : (k : Int) < (n : Int) := by omega
        obtain ⟨x, hL⟩ : ∃ x, LL[k]? = some x := ⟨_, List.getElem?_eq_getElem (by rw [HN.out]; exact hlt)⟩
        obtain ⟨b, o, rfl, hbl, hcell⟩ := HC.out.resolve_left (by rw [HN.out]; omega)
        obtain ⟨s, t, c0, c1, r0, r1⟩ := srow_on (hcell k x hL) hbl hbw
        have hst := smS_take hL
        have hsl := smS_le LL (k + 1)
        have hSe : S = n + smS LL := by rw [← HS.out, ← HN.out]; rfl
        have HR := Lib.hid r0
        have HR' := Lib.hid r1
        obtain ⟨a', n', c', rfl⟩ := r0.slice
        obtain ⟨a2, n2, c2, rfl⟩ := r1.slice
        obtain ⟨q, hq⟩ : ∃ q, x.f.length + x.t.length = q := ⟨_, rfl⟩
        have HQ := Lib.hid hq
        rw [hq] at hst
        clear hcell hL r0 r1 hbw hq
        go_wp2_with fail
        refine (szStep_to _ _ x _ m (by omega) HR.out HR'.out).mono ?_
        rw [HQ.out]
        rintro e w1 ⟨rfl, hb1⟩
        have HB1 := Lib.hid (below_on HB.out hb1)
        clear hb1 c0 c1
        by_cases hd : q ≤ m
        · obtain ⟨d, hd'⟩ : ∃ d : Nat, m - q = d := ⟨_, rfl⟩
          rw [szI_pos hd, hd']
          have hd0 : ¬ (d : Int) < 0 := by omega
          have hx : n + smS (LL.take (k + 1)) + d = 1048576 := by omega
          have HX := Lib.hid hx
          clear hst hsl hSe hd hd' hm hx
          go_wp2
          go_roundw
          case rel => exact ⟨k + 1, d, rfl, by go_num, by omega, HX.out, HB1.out⟩
          case measure => simp [intOf]; omega
        · rw [szI_neg (by omega)]
          have hF : szI S 1048576 = -1 := szI_neg (by omega)
          have HF := Lib.hid hF
          clear hst hsl hSe hd hm hF
          go_wp2
          go_ret
          exact ⟨ret_iS HF.out.symm, HB1.out⟩
      · have hk' : ¬ (k : Int) < (n : Int) := by omega
        obtain rfl : k = n := by omega
        have hF : (m : Int) = szI S 1048576 := by
          have hSe : S = k + smS LL := by rw [← HS.out, ← HN.out]; rfl
          rw [List.take_of_length_le (by rw [HN.out]; exact Nat.le_refl _)] at hm
          rw [szI_pos (by omega)]
          omega
        have HF := Lib.hid hF
        clear hF hm
        go_wp2
        go_ret
        exact ⟨ret_iS HF.out, hbw⟩
  · rw [szI_neg (by omega)]
    have hneg : (1048576 : Int) - (n : Int) < 0 := by omega
    go_enter Tryd.func16, Tryd.ntmps16
    go_wp2
    go_ret
    exact ⟨rfl, Below.refl _ _⟩

def TstP (x : SpD) (w : World) (e : Ending) (w' : World) : Prop := ∃ s t, e = .returned (.agg #[s, t]) ∧ RdJb w' w.heap.size s x.f ∧ RdJb w' w.heap.size t x.t ∧ Below w.heap.size w w'

set_option maxHeartbeats 1000000 in
theorem toStep_any (s t : Value) (x : SpD) (w : World) (hL : x.f.length + x.t.length ≤ 1048576) (hs : RdJ w s x.f) (ht : RdJ w t x.t) :
    Calls Tryd.prog 40 #[.agg #[s, t]] w (TstP x w) := by
  have HS := Lib.hid hs
  have HT := Lib.hid ht
  obtain ⟨sa, sn, sc, rfl⟩ := hs.slice
  obtain ⟨ta, tn, tc, rfl⟩ := ht.slice
  clear hs ht
  go_enter Tryd.func40, Tryd.ntmps40
  go_wp2_with fail
  generalize hW : World.alloc _ _ = W
  have hw : Below w.heap.size w W := by subst hW; go_grown
  have hx0 : W.cell? ⟨w.heap.size, 0, none⟩ = some (.slice sa sn sc) := by subst hW; simp [go_sem]
  have hx1 : W.cell? ⟨w.heap.size, 1, none⟩ = some (.slice ta tn tc) := by subst hW; simp [go_sem]
  have hr0 : W.cell? ⟨w.heap.size + 1, 0, none⟩ = some (.slice none 0 0) := by subst hW; simp [go_sem]
  have hr1 : W.cell? ⟨w.heap.size + 1, 1, none⟩ = some (.slice none 0 0) := by subst hW; simp [go_sem]
  have hy0 : W.cell? ⟨w.heap.size + 1 + 1, 0, none⟩ = some (.slice none 0 0) := by subst hW; simp [go_sem]
  have hy1 : W.cell? ⟨w.heap.size + 1 + 1, 1, none⟩ = some (.slice none 0 0) := by subst hW; simp [go_sem]
  have hfr : ∀ o, W.frozen? ⟨w.heap.size + 1, o, none⟩ = false := fun o => by subst hW; simp [go_sem]
  have hfy : ∀ o, W.frozen? ⟨w.heap.size + 1 + 1, o, none⟩ = false := fun o => by subst hW; simp [go_sem]
  have hsW : W.heap.size = w.heap.size + 3 := by subst hW; simp
  clear hW
  refine (toIntS_at _ x.f W (by omega) (rdJ_on HS.out hw)).mono ?_
  rintro e w1 ⟨s1, rfl, hs1, hb1⟩
  have hw1 := below_on hw hb1
  have hg1 := hb1.size
  have k1 : ∀ p : Nat, p < W.heap.size → ∀ o, w1.cell? ⟨p, o, none⟩ = W.cell? ⟨p, o, none⟩ := fun p hp o => hb1.cell (p := ⟨p, o, none⟩) hp
  have f1 : ∀ p : Nat, p < W.heap.size → ∀ o, w1.frozen? ⟨p, o, none⟩ = W.frozen? ⟨p, o, none⟩ := fun p hp o => World.frozen?_of_block (a := ⟨p, o, none⟩) (hb1.block p hp)
  have x1 := (k1 w.heap.size (by omega) 1).trans hx1
  have r0 := (k1 (w.heap.size + 1) (by omega) 0).trans hr0
  have r1 := (k1 (w.heap.size + 1) (by omega) 1).trans hr1
  have y0 := (k1 (w.heap.size + 1 + 1) (by omega) 0).trans hy0
  have y1 := (k1 (w.heap.size + 1 + 1) (by omega) 1).trans hy1
  have fr := fun o => (f1 (w.heap.size + 1) (by omega) o).trans (hfr o)
  have fy := fun o => (f1 (w.heap.size + 1 + 1) (by omega) o).trans (hfy o)
  obtain ⟨a1, n1, q1, rfl⟩ := hs1.slice
  have HS1 := Lib.hid (rdJb_mono hs1 (show w.heap.size + 3 ≤ W.heap.size by omega))
  clear k1 f1 hx0 hx1 hr0 hr1 hy0 hy1 hfr hfy hs1 hb1 hw
  go_wp2_with fail
  generalize hW2 : World.setCell _ _ _ = W2
  have q0 : W2.cell? ⟨w.heap.size + 1 + 1, 0, none⟩ = some (.slice a1 n1 q1) := by subst hW2; simp [go_sem, *]
  have q1' : W2.cell? ⟨w.heap.size + 1 + 1, 1, none⟩ = some (.slice none 0 0) := by subst hW2; simp [go_sem, *]
  have z1 : W2.cell? ⟨w.heap.size, 1, none⟩ = some (.slice ta tn tc) := by subst hW2; simp [go_sem, *]
  have t0 : W2.cell? ⟨w.heap.size + 1, 0, none⟩ = some (.slice none 0 0) := by subst hW2; simp [go_sem, *]
  have t1 : W2.cell? ⟨w.heap.size + 1, 1, none⟩ = some (.slice none 0 0) := by subst hW2; simp [go_sem, *]
  have gr : ∀ o, W2.frozen? ⟨w.heap.size + 1, o, none⟩ = false := fun o => by subst hW2; simp [go_sem, *]
  have gy : ∀ o, W2.frozen? ⟨w.heap.size + 1 + 1, o, none⟩ = false := fun o => by subst hW2; simp [go_sem, *]
  have hs2 : W2.heap.size = w1.heap.size := by subst hW2; simp [World.setCell]
  have hw2 : Below w.heap.size w W2 := by subst hW2; exact hw1.setCell (by dsimp only; omega) _
  have HS2 := Lib.hid (show RdJb W2 (w.heap.size + 3) (.slice a1 n1 q1) x.f by subst hW2; exact rdJb_put HS1.out (by omega))
  clear hW2 x1 r0 r1 y0 y1 fr fy HS1 hw1
  go_wp2_with fail
  refine (toIntS_at _ x.t W2 (by omega) (rdJ_on HT.out hw2)).mono ?_
  rintro e w3 ⟨s3, rfl, hs3, hb3⟩
  have hw3 := below_on hw2 hb3
  have hg3 := hb3.size
  have k3 : ∀ p : Nat, p < W2.heap.size → ∀ o, w3.cell? ⟨p, o, none⟩ = W2.cell? ⟨p, o, none⟩ := fun p hp o => hb3.cell (p := ⟨p, o, none⟩) hp
  have f3 : ∀ p : Nat, p < W2.heap.size → ∀ o, w3.frozen? ⟨p, o, none⟩ = W2.frozen? ⟨p, o, none⟩ := fun p hp o => World.frozen?_of_block (a := ⟨p, o, none⟩) (hb3.block p hp)
  have y0 := (k3 (w.heap.size + 1 + 1) (by omega) 0).trans q0
  have y1 := (k3 (w.heap.size + 1 + 1) (by omega) 1).trans q1'
  have r0 := (k3 (w.heap.size + 1) (by omega) 0).trans t0
  have r1 := (k3 (w.heap.size + 1) (by omega) 1).trans t1
  have fr := fun o => (f3 (w.heap.size + 1) (by omega) o).trans (gr o)
  have fy := fun o => (f3 (w.heap.size + 1 + 1) (by omega) o).trans (gy o)
  have HS3 := Lib.hid (rdJb_on HS2.out hb3)
  obtain ⟨a3, n3, q3, rfl⟩ := hs3.slice
  have HT3 := Lib.hid (rdJb_mono hs3 (show w.heap.size + 3 ≤ W2.heap.size by omega))
  clear k3 f3 q0 q1' z1 t0 t1 gr gy HS2 hs3 hb3 hw2
  go_wp2_with fail
  generalize hW5 : World.setCell _ _ _ = W5
  have u0 : W5.cell? ⟨w.heap.size + 1, 0, none⟩ = some (.slice a1 n1 q1) := by subst hW5; simp [go_sem, *]
  have u1 : W5.cell? ⟨w.heap.size + 1, 1, none⟩ = some (.slice a3 n3 q3) := by subst hW5; simp [go_sem, *]
  have hw5 : Below w.heap.size w W5 := by subst hW5; exact ((hw3.setCell (by dsimp only; omega) _).setCell (by dsimp only; omega) _).setCell (by dsimp only; omega) _
  have HS5 := Lib.hid (show RdJb W5 (w.heap.size + 3) (.slice a1 n1 q1) x.f by subst hW5; exact rdJb_put (rdJb_put (rdJb_put HS3.out (by omega)) (by omega)) (by omega))
  have HT5 := Lib.hid (show RdJb W5 (w.heap.size + 3) (.slice a3 n3 q3) x.t by subst hW5; exact rdJb_put (rdJb_put (rdJb_put HT3.out (by omega)) (by omega)) (by omega))
  clear hW5 y0 y1 r0 r1 fr fy HS3 HT3 hw3
  go_wp2
  refine bodyPost_ret (v := .agg #[.slice a1 n1 q1, .slice a3 n3 q3]) (by simp [results, Tryd.results40, go_sem, u0, u1]) rfl ?_
  exact ⟨_, _, rfl, rdJb_mono HS5.out (by omega), rdJb_mono HT5.out (by omega), hw5⟩

theorem put2b {w : World} {base E B0 n cap k : Nat} {xs : List Value} (v0 v1 : Value) (own : w.ownsRow base E 2 (.slice (some ⟨B0, 0, none⟩) n cap) n xs) (hk : k < n) {W : World}
    (hW : ((w.setCell ⟨B0, k * 2, none⟩ v0).setCell ⟨B0, k * 2 + 1, none⟩ v1) = W) :
    (∃ xs', W.ownsRow base E 2 (.slice (some ⟨B0, 0, none⟩) n cap) n xs') ∧ (∀ B, B ≤ B0 → Below B w W) ∧ (∀ j, j < k * 2 → W.cell? ⟨B0, j, none⟩ = w.cell? ⟨B0, j, none⟩) ∧
      W.cell? ⟨B0, k * 2, none⟩ = some v0 ∧ W.cell? ⟨B0, k * 2 + 1, none⟩ = some v1 := by
  have o1 := own.stored (k * 2) v0
  have o2 := o1.1.stored (k * 2 + 1) v1
  rw [hW] at o2
  have hl := own.1
  have g : ∀ j, j < n * 2 → W.cell? ⟨B0, j, none⟩ = _ := fun j hj => o2.1.cellAt j hj
  refine ⟨⟨_, o2.1⟩, ?_, ?_, ?_⟩
  · intro B hB
    subst hW
    exact ((Below.refl B w).setCell hB v0).setCell hB v1
  · intro j hj
    subst hW
    rw [World.cell?_setCell_other _ ⟨B0, k * 2 + 1, none⟩ ⟨B0, j, none⟩ _ (fun e => by have := congrArg Addr.off e; simp at this; omega), World.cell?_setCell_other _ ⟨B0, k * 2, none⟩ ⟨B0, j, none⟩ _ (fun e => by have := congrArg Addr.off e; simp at this; omega)]
  · refine ⟨?_, ?_⟩ <;> rw [g _ (by omega)] <;> simp [hl, List.getElem?_set] <;> omega

theorem Tryd.infoStp : (Tryd.prog.info? 75).map (fun i => (i.zero, i.size, i.bytes)) = some (some (.agg #[.slice none 0 0, .slice none 0 0]), 2, 48) := by kernel_rfl

def TspR (LL : List SpD) (w : World) (i : Value) (wr : World) : Prop :=
  ∃ (k : Nat) (xs : List Value), i = .int .i64 k ∧ k ≤ LL.length ∧ (∀ i x, i < k → LL[i]? = some x → SRowb wr (w.heap.size + 1) w.heap.size (i * 2) x) ∧
    wr.ownsRow w.heap.size 75 2 (.slice (some ⟨w.heap.size, 0, none⟩) LL.length LL.length) LL.length xs ∧ Below w.heap.size w wr
def TspPost (LL : List SpD) (w : World) (e : Ending) (w' : World) : Prop := ∃ s', e = .returned s' ∧ RdSS w' s' LL ∧ Below w.heap.size w w'

set_option maxHeartbeats 2000000 in
theorem toStepS_is (v : Value) (LL : List SpD) (w : World) (hz : spS LL ≤ 1048576) (h : RdSG w v LL) : Calls Tryd.prog 18 #[v] w (TspPost LL w) := by
  obtain ⟨i0, hi, hz0, hz1, hz2⟩ := info_parts Tryd.infoStp
  obtain ⟨sp, cap, rfl, hc1, hc2, hel⟩ := h
  unfold maxLen at hc2
  obtain ⟨n, hn⟩ : ∃ n, LL.length = n := ⟨_, rfl⟩
  have hL : n ≤ 1048576 := by rw [← hn]; unfold spS at hz; omega
  have HZ := Lib.hid (show smS LL ≤ 1048576 by unfold spS at hz; omega)
  have HN := Lib.hid hn
  have HE := Lib.hid hel
  rw [hn] at hc1
  rw [hn]
  obtain ⟨w1, hr, hown, hg⟩ := run_make_full (P := Tryd.prog) w w.heap.size 49 75 i0 _ 2 Tryd.underlying49 hi hz0 hz1 .i64 .i64 n (by rw [hz2]; omega) (by unfold maxLen; omega) (Nat.le_refl _)
  have hbw1 : Below w.heap.size w w1 := (Below.refl _ _).grown hg (Nat.le_refl _) (by simp)
  have HST := Lib.hid (show TspR LL w (.int .i64 0) w1 from ⟨0, _, rfl, Nat.zero_le _, fun i x h0 => absurd h0 (by omega), by rw [HN.out]; exact hown, hbw1⟩)
  clear hown hg hbw1 hi hz0 hz1 hz2 hn hel hz
  go_enter Tryd.func18, Tryd.ntmps18
  go_wp2
  go_loopw [4] (fun i wr => TspR LL w i wr) (fun i _ => n - (intOf i).toNat)
  case atStart => exact HST.out
  case round =>
    obtain ⟨k, xs, rfl, hk, hpre, hown, hbw⟩ := hrel
    clear HST
    rw [HN.out] at hk hown
    have HP := Lib.hid hpre
    have HO := Lib.hid hown
    have HB := Lib.hid hbw
    clear hpre
    by_cases hlt : k < n
    · have hk' : (k : Int) < (n : Int) := by omega
      obtain ⟨x, hx⟩ : ∃ x, LL[k]? = some x := ⟨_, List.getElem?_eq_getElem (by rw [HN.out]; exact hlt)⟩
      have HY := Lib.hid hx
      obtain ⟨b, o, rfl, hbl, hcell⟩ := HE.out.resolve_left (by rw [HN.out]; omega)
      obtain ⟨s, t, c0, c1, r0, r1⟩ := srow_on (hcell k x hx) hbl hbw
      have HR := Lib.hid r0
      have HR' := Lib.hid r1
      have HLL := Lib.hid (Nat.le_trans (smS_at hx) HZ.out)
      have hB0 : w.heap.size < wr.heap.size := (hown.lt w.heap.size rfl).2
      obtain ⟨a', n', c', rfl⟩ := r0.slice
      obtain ⟨a2, n2, c2, rfl⟩ := r1.slice
      clear hcell r0 r1 hbw hown hx
      go_wp2_with fail
      refine (toStep_any _ _ x _ HLL.out HR.out HR'.out).mono ?_
      rintro e w2 ⟨s2, t2, rfl, hs2, ht2, hb2⟩
      have hown2 := own_below (show wr.ownsRow w.heap.size 75 2 _ n xs from HO.out) hb2
      have HO2 := Lib.hid hown2
      have hl2 := hown2.1
      obtain ⟨x0, hx0⟩ : ∃ x, w2.cell? ⟨w.heap.size, k * 2, none⟩ = some x := ⟨_, (hown2.cellAt (k * 2) (by omega)).trans (List.getElem?_eq_getElem (by omega))⟩
      obtain ⟨x1, hx1⟩ : ∃ x, w2.cell? ⟨w.heap.size, k * 2 + 1, none⟩ = some x := ⟨_, (hown2.cellAt (k * 2 + 1) (by omega)).trans (List.getElem?_eq_getElem (by omega))⟩
      have hfz := fun o => hown2.frozenAt o
      have HP2 := Lib.hid (show ∀ i x, i < k → LL[i]? = some x → SRowb w2 (w.heap.size + 1) w.heap.size (i * 2) x from fun i x h1 h2 => srowb_on (HP.out i x h1 h2) hB0 hb2)
      have HS2 := Lib.hid (rdJb_mono hs2 (show w.heap.size + 1 ≤ wr.heap.size by omega))
      have HT2 := Lib.hid (rdJb_mono ht2 (show w.heap.size + 1 ≤ wr.heap.size by omega))
      have HB2 := Lib.hid (below_on HB.out hb2)
      obtain ⟨a3, n3, c3, rfl⟩ := hs2.slice
      obtain ⟨a4, n4, c4, rfl⟩ := ht2.slice
      clear hown2 hb2 hl2 hs2 ht2 c0 c1
      go_wp2_with fail
      generalize hW2 : World.setCell _ _ _ = W2
      obtain ⟨⟨ys, ho⟩, hbl2, hpr, g0, g1⟩ := put2b _ _ HO2.out hlt hW2
      refine ⟨⟨k + 1, ys, by go_num, by rw [HN.out]; omega, fun i x' h1 h2 => ?_, by rw [HN.out]; exact ho, HB2.out.trans (hbl2 w.heap.size (Nat.le_refl _))⟩, ?_⟩
      · by_cases hik : i < k
        · obtain ⟨s, t, e1, e2, e3, e4⟩ := HP2.out i x' hik h2
          refine ⟨s, t, (hpr _ (by omega)).trans e1, (hpr _ (by omega)).trans e2, ?_, ?_⟩
          · subst hW2; exact rdJb_put (rdJb_put e3 (Nat.lt_succ_self _)) (Nat.lt_succ_self _)
          · subst hW2; exact rdJb_put (rdJb_put e4 (Nat.lt_succ_self _)) (Nat.lt_succ_self _)
        · obtain rfl : i = k := by omega
          have e := HY.out
          rw [h2] at e
          obtain rfl := Option.some.inj e
          refine ⟨_, _, g0, g1, ?_, ?_⟩
          · subst hW2; exact rdJb_put (rdJb_put HS2.out (Nat.lt_succ_self _)) (Nat.lt_succ_self _)
          · subst hW2; exact rdJb_put (rdJb_put HT2.out (Nat.lt_succ_self _)) (Nat.lt_succ_self _)
      · simp [intOf]; omega
    · have hk' : ¬ (k : Int) < (n : Int) := by omega
      obtain rfl : k = n := by omega
      clear hown
      go_wp2
      go_ret
      refine ⟨_, rfl, ⟨some ⟨w.heap.size, 0, none⟩, k, by rw [HN.out]; rfl, .inr ⟨w.heap.size, rfl, ?_, fun i x h2 => HP.out i x (by have := (List.getElem?_eq_some_iff.1 h2).1; rw [HN.out] at this; exact this) h2⟩⟩, hbw⟩
      exact (World.ownsRow.lt HO.out w.heap.size rfl).2

theorem eqStep_same (s t s' t' : Value) (x : SpD) (w : World) (h1 : RdJ w s x.f) (h2 : RdJ w t x.t) (h1' : RdJ w s' x.f) (h2' : RdJ w t' x.t) (hL : x.f.length + x.t.length ≤ 1048576) :
    Calls Tryd.prog 43 #[.agg #[s, t], .agg #[s', t']] w fun e w' => e = .returned (.bool true) ∧ Below w.heap.size w w' := by
  have H1 := Lib.hid h1
  have H2 := Lib.hid h2
  have H1' := Lib.hid h1'
  have H2' := Lib.hid h2'
  obtain ⟨sa, sn, sc, rfl⟩ := h1.slice
  obtain ⟨ta, tn, tc, rfl⟩ := h2.slice
  obtain ⟨ua, un, uc, rfl⟩ := h1'.slice
  obtain ⟨va, vn, vc, rfl⟩ := h2'.slice
  clear h1 h2 h1' h2'
  go_enter Tryd.func43, Tryd.ntmps43
  go_wp2_with fail
  generalize hW : World.alloc _ _ = W
  have hw : Below w.heap.size w W := by subst hW; go_grown
  have hx1 : W.cell? ⟨w.heap.size, 1, none⟩ = some (.slice ta tn tc) := by subst hW; simp [go_sem]
  have hy1 : W.cell? ⟨w.heap.size + 1, 1, none⟩ = some (.slice va vn vc) := by subst hW; simp [go_sem]
  have hsW : w.heap.size + 1 < W.heap.size := by subst hW; simp
  clear hW
  refine (eqIntJ_same _ _ x.f W (rdJ_on H1.out hw) (rdJ_on H1'.out hw) (by omega)).mono ?_
  rintro e w1 ⟨rfl, hb1⟩
  have hw1 := below_on hw hb1
  have x1 : w1.cell? ⟨w.heap.size, 1, none⟩ = _ := (hb1.cell (p := ⟨w.heap.size, 1, none⟩) (show w.heap.size < W.heap.size by omega)).trans hx1
  have y1 : w1.cell? ⟨w.heap.size + 1, 1, none⟩ = _ := (hb1.cell (p := ⟨w.heap.size + 1, 1, none⟩) hsW).trans hy1
  clear hx1 hy1 hw hb1
  go_wp2_with fail
  refine (eqIntJ_same _ _ x.t w1 (rdJ_on H2.out hw1) (rdJ_on H2'.out hw1) (by omega)).mono ?_
  rintro e w2 ⟨rfl, hb2⟩
  have hw2 := below_on hw1 hb2
  go_wp2
  go_ret
  exact ⟨rfl, hw2⟩

set_option maxRecDepth 10000 in
set_option maxHeartbeats 1000000 in
theorem eqStepS_same (v u : Value) (LL : List SpD) (w : World) (h1 : RdSS w v LL) (h2 : RdSS w u LL) (hz : spS LL ≤ 1048576) :
    Calls Tryd.prog 20 #[v, u] w fun e w' => e = .returned (.bool true) ∧ Below w.heap.size w w' := by
  obtain ⟨sp, cap, rfl, hc⟩ := h1
  obtain ⟨sp', cap', rfl, hc'⟩ := h2
  obtain ⟨N, hN⟩ : ∃ N, LL.length = N := ⟨_, rfl⟩
  have hL : N ≤ 1048576 := by rw [← hN]; unfold spS at hz; omega
  have HZ := Lib.hid (show smS LL ≤ 1048576 by unfold spS at hz; omega)
  rw [hN] at hc hc' ⊢
  have HN := Lib.hid hN
  have HC := Lib.hid hc
  have HC' := Lib.hid hc'
  clear hN hc hc' hz
  go_enter Tryd.func20, Tryd.ntmps20
  go_wp2
  go_loopw [5] (fun i wr => ∃ k : Nat, i = .int .i64 k ∧ k ≤ N ∧ Below w.heap.size w wr) (fun i _ => N - (intOf i).toNat)
  case atStart => exact ⟨0, rfl, by omega, Below.refl _ _⟩
  case round =>
    obtain ⟨k, rfl, hk, hbw⟩ := hrel
    by_cases hlt : k < N
    · have hk' : (k : Int) < (N : Int) := by omega
      obtain ⟨x, hx⟩ : ∃ x, LL[k]? = some x := ⟨_, List.getElem?_eq_getElem (by rw [HN.out]; exact hlt)⟩
      obtain ⟨b, rfl, hbl, hcell⟩ := HC.out.resolve_left (by omega)
      obtain ⟨b', rfl, hbl', hcell'⟩ := HC'.out.resolve_left (by omega)
      obtain ⟨s, t, c0, c1, r0, r1⟩ := srowb_on (hcell k x hx) hbl hbw
      obtain ⟨s', t', d0, d1, r0', r1'⟩ := srowb_on (hcell' k x hx) hbl' hbw
      have HE := Lib.hid fun W hW => eqStep_same s t s' t' x W (rdJ_on r0.rd hW) (rdJ_on r1.rd hW) (rdJ_on r0'.rd hW) (rdJ_on r1'.rd hW) (Nat.le_trans (smS_at hx) HZ.out)
      obtain ⟨a1, n1, q1, rfl⟩ := r0.slice
      obtain ⟨a2, n2, q2, rfl⟩ := r1.slice
      obtain ⟨a3, n3, q3, rfl⟩ := r0'.slice
      obtain ⟨a4, n4, q4, rfl⟩ := r1'.slice
      have HB := Lib.hid hbw
      clear hcell hcell' hx hbw r0 r1 r0' r1'
      go_wp2_with fail
      go_region_with (go_at_call 43; (with_reducible refine (HE.out _ (by go_grown)).mono ?_); rintro e w1 ⟨rfl, hb1⟩)
      all_goals
        have hb2 : Below wr.heap.size wr w1 := below_on (by go_grown) hb1
        have HB1 := Lib.hid (below_on HB.out hb2)
        clear c0 c1 d0 d1 hb1 hb2
        go_wp2
        go_roundw
        case rel => exact ⟨k + 1, by go_num, by omega, HB1.out⟩
        case measure => simp [intOf]; omega
    · have hk' : ¬ (k : Int) < (N : Int) := by omega
      go_wp2
      go_ret
      exact ⟨rfl, hbw⟩

end Go.Proofs.YtbppcpaodfjpkaaDoor
