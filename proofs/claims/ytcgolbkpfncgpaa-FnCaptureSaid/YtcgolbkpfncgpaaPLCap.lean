/- The law on caught terms holds for all bytes. No condition. -/
import Derived.Test.YtcgolbkpfncgpaaFm
import Derived.Test.YtcgolbkpfncgpaaDrQ
import Derived.Test.YtcgolbkpfncgpaaFormS
import Derived.Test.YtcgolbkpfncgpaaFormI
import Derived.Test.YtcgolbkpfncgpaaSu
import Derived.Test.YtcgolbkpfncgpaaSyn
import Derived.Test.YtcgolbkpfncgpaaLawL
import Derived.Deep.DeepCutAuto
import Derived.Test.YtcgolbkpfncgpaaLiftB
import Derived.JoinedOf
import Derived.JoinedAt
import Derived.RowKit3

/- Free variables: freeIn at an atom. -/
namespace Go.Proofs.Ytcgolbkpfncgpaa
open Go.RowKit

theorem sel_in {a b c d : Int} {L : List Int} {x : Int} (h : vl a b c d 4 = L) (hx : x ∈ L) : x = 0 ∨ x = 1 ∨ x = 2 ∨ x = 3 := by
 subst h
 simp only [vl, List.mem_map, List.mem_filter, List.mem_range] at hx
 obtain ⟨k, ⟨hk, _⟩, rfl⟩ := hx
 simp only [Int.ofNat_eq_natCast]
 omega
theorem vl_mem (a b c d : Int) (j : Nat) (hj : j < 4) : decide ((j : Int) ∈ vl a b c d 4) = decide (sel a b c d (j : Int) 0 ≠ 0) := by
 apply decide_eq_decide.2
 simp only [vl, List.mem_map, List.mem_filter, List.mem_range, decide_eq_true_eq, Int.ofNat_eq_natCast]
 constructor
 ·rintro ⟨k, ⟨hk, h⟩, e⟩
  have : k = j := by omega
  subst this
  exact h
 ·intro h
  exact ⟨j, ⟨hj, h⟩, rfl⟩
def tkB (L : List Int) (k : Nat) (j : Int) : Bool := decide (j ∈ L.take k)
theorem tk_next {L : List Int} {k : Nat} {x : Int} (hx : L[k]? = some x) (j : Int) : tkB L (k + 1) j = (tkB L k j || decide (j = x)) := by
 unfold tkB
 rw [List.take_add_one, hx]
 simp [Bool.decide_or]
/-- The slice v reads as the ints L, and lies in a block from B on. -/
def RdG (W : World) (B : Nat) (v : Value) (L : List Int) : Prop :=
 ∃ sp cap, v = .slice sp L.length cap ∧ (L.length = 0 ∨ ∃ b, sp = some ⟨b, 0, none⟩ ∧ B ≤ b ∧ b < W.heap.size ∧ ∀ i x, L[i]? = some x → W.cell? ⟨b, i, none⟩ = some (.int .i64 x))
theorem rdg_of {w : World} {B : Nat} {v : Value} {L : List Int} (h : OwnI w B v L) : RdG w B v L := by
 have h' : w.ownsRow B 3 1 v L.length (L.map (Value.int .i64)) := h
 rcases h'.2 with ⟨rfl, hn⟩ | ⟨g, cap, cur, rfl, hb, hg, _⟩
 ·exact ⟨none, 0, by rw [hn], Or.inl hn⟩
 ·refine ⟨some ⟨g, 0, none⟩, cap, rfl, Or.inr ⟨g, rfl, hb, (Array.getElem?_eq_some_iff.1 hg).1, fun i x hx => ?_⟩⟩
  have hi : i < L.length := (List.getElem?_eq_some_iff.1 hx).1
  rw [h'.cellAt i (by omega)]
  simp [hx]
theorem rdg_set {W : World} {B t j : Nat} {v x : Value} {L : List Int} (h : RdG W B v L) (ht : t < B) : RdG (W.setCell ⟨t, j, none⟩ x) B v L := by
 obtain ⟨sp, cap, rfl, h⟩ := h
 refine ⟨sp, cap, rfl, ?_⟩
 rcases h with h0 | ⟨b, rfl, h1, h2, h3⟩
 ·exact .inl h0
 ·exact .inr ⟨b, rfl, h1, by simpa [World.setCell] using h2, fun i y hy => by simp [go_sem, h3 i y hy]⟩

theorem AtomVars_l (k m a b c d n : Int) (w : World) :
  Calls Try.prog 130 #[.agg #[.int .i64 k, .int .i64 m, .int .i64 a, .int .i64 b, .int .i64 c, .int .i64 d, .int .i64 n]] w (VarsT a b c d w) := by
 have H := Lib.hid fun W => TermVars_t a b c d n W
 go_enter Try.func130, Try.ntmps130
 go_wp2_with (go_at_call 43; refine (H.out _).mono ?_; rintro e w1 ⟨v, rfl, ho, hb⟩; have HO := Lib.hid (own_mono ho (B' := w.heap.size) (by simp)); clear ho)
 go_ret
 exact ⟨_, rfl, HO.out, below_on (by go_grown) hb⟩
def AtI (L : List Int) (w : World) (v i : Value) (wr : World) : Prop :=
 ∃ k : Nat, k ≤ L.length ∧ i = .int .i64 k ∧ FiS w (tkB L k 0) (tkB L k 1) (tkB L k 2) (tkB L k 3) wr ∧ RdG wr (w.heap.size + 2) v L

set_option maxRecDepth 10000 in
set_option maxHeartbeats 2000000 in
theorem fi_a (k m a b c d n : Int) : FiAt (.iface 146 (.agg #[.int .i64 k, .int .i64 m, .int .i64 a, .int .i64 b, .int .i64 c, .int .i64 d, .int .i64 n])) (fun v => decide (sel a b c d v 0 ≠ 0)) := by
 intro w
 have hta := fun w => Try.ta_atom k m a b c d n w
 have htb := fun w => Try.tb_other 146 (.agg #[.int .i64 k, .int .i64 m, .int .i64 a, .int .i64 b, .int .i64 c, .int .i64 d, .int .i64 n]) (.inr (.inr (.inr rfl))) w
 have HC := Lib.hid fun W => AtomVars_l k m a b c d n W
 obtain ⟨L, hL⟩ : ∃ L, vl a b c d 4 = L := ⟨_, rfl⟩
 have HM : Hid (FiT (decide (sel a b c d 0 0 ≠ 0)) (decide (sel a b c d 1 0 ≠ 0)) (decide (sel a b c d 2 0 ≠ 0)) (decide (sel a b c d 3 0 ≠ 0)) = FiT (tkB L L.length 0) (tkB L L.length 1) (tkB L L.length 2) (tkB L L.length 3)) := by
  show _ = _
  have e0 := vl_mem a b c d 0 (by omega)
  have e1 := vl_mem a b c d 1 (by omega)
  have e2 := vl_mem a b c d 2 (by omega)
  have e3 := vl_mem a b c d 3 (by omega)
  rw [hL] at e0 e1 e2 e3
  unfold tkB
  rw [List.take_length]
  exact (congr (congr (congr (congrArg FiT e0) e1) e2) e3).symm
 show Calls Try.prog 89 #[_] w (FiT (decide (sel a b c d 0 0 ≠ 0)) (decide (sel a b c d 1 0 ≠ 0)) (decide (sel a b c d 2 0 ≠ 0)) (decide (sel a b c d 3 0 ≠ 0)) w)
 rw [HM.out]
 have hlen : L.length ≤ 4 := by rw [← hL]; exact vl_len _ _ _ _ _
 have HIN := Lib.hid fun x hx => sel_in (x := x) hL hx
 have HCL : Hid (∀ W, Calls Try.prog 130 #[.agg #[.int .i64 k, .int .i64 m, .int .i64 a, .int .i64 b, .int .i64 c, .int .i64 d, .int .i64 n]] W fun e w' => ∃ v, e = .returned v ∧ OwnI w' W.heap.size v L ∧ Below W.heap.size W w') := by
  intro W
  have := HC.out W
  unfold VarsT at this
  rw [hL] at this
  exact this
 clear HC HM hL
 go_enter Try.func89, Try.ntmps89
 go_wp2
 generalize hW : World.alloc _ _ = W
 have hS : FiS w false false false false W := by
  subst hW
  first | exact fiS_new w _ _ | exact fiS_on (fiS_new w _ _) (by go_grown)
 clear hW
 refine wp_loop_rounds 1 ?_
 rw [rounds_succ]
 go_wp2_with fail
 refine (HCL.out _).mono ?_
 rintro e w2 ⟨v, rfl, ho2, hb2⟩
 have hS2 : FiS w false false false false w2 := fiS_on hS (below_on (by go_grown) hb2)
 have hsW : w.heap.size + 2 ≤ W.heap.size := hS.2.2.1
 have HG := Lib.hid (show RdG w2 (w.heap.size + 2) v L from rdg_of (own_mono ho2 (Nat.le_trans hsW (by simp))))
 obtain ⟨sp, cap, rfl, _⟩ := id HG.out
 obtain ⟨N, hN⟩ : ∃ N, N = L.length := ⟨_, rfl⟩
 have HN := Lib.hid hN
 have HST := Lib.hid (show AtI L w (.slice sp L.length cap) (.int .i64 0) w2 from ⟨0, by omega, rfl, by simpa [tkB] using hS2, HG.out⟩)
 rw [← hN] at HST hlen ⊢
 clear hS hS2 hb2 ho2 HCL HG hN hta htb hsW
 go_wp2_with fail
 go_loopw [43] (fun i wr => AtI L w (.slice sp N cap) i wr) (fun i _ => N - (intOf i).toNat)
 case atStart => exact HST.out
 case round =>
  obtain ⟨k, hk, rfl, hst, hrd⟩ := hrel
  have HS := Lib.hid hst
  have HD := Lib.hid hrd
  clear hst hrd HST
  have hkN : k ≤ N := by rw [HN.out]; exact hk
  by_cases hlt : k < N
  ·have hk' : (k : Int) < (N : Int) := by omega
   obtain ⟨x, hx⟩ : ∃ x, L[k]? = some x := ⟨_, List.getElem?_eq_getElem (by rw [← HN.out]; exact hlt)⟩
   obtain ⟨sp', cap', he, h0 | ⟨b, hb, h1, h2, h3⟩⟩ := HD.out
   ·have := HN.out; omega
   ·obtain rfl : sp = some ⟨b, 0, none⟩ := by injection he with e1; rw [e1]; exact hb
    have hc := h3 k x hx
    have HX := Lib.hid hx
    have hin := HIN.out x (List.mem_of_getElem? hx)
    clear he hb h3 hx
    obtain ⟨hbw, ⟨h0', h1', h2', h3', h4', h5'⟩, ⟨g0, g1, g2, g3, g4, g5⟩⟩ := HS.out
    rcases hin with rfl | rfl | rfl | rfl
    ·go_wp2
     go_roundw
     case rel => exact ⟨k + 1, by rw [← HN.out]; omega, by go_num, by rw [tk_next HX.out 0, tk_next HX.out 1, tk_next HX.out 2, tk_next HX.out 3]; simpa using fiS_set0 true HS.out, rdg_set (HN.out ▸ HD.out) (by omega)⟩
     case measure => simp [intOf]; omega
    ·go_wp2
     go_roundw
     case rel => exact ⟨k + 1, by rw [← HN.out]; omega, by go_num, by rw [tk_next HX.out 0, tk_next HX.out 1, tk_next HX.out 2, tk_next HX.out 3]; simpa using fiS_set1 true HS.out, rdg_set (HN.out ▸ HD.out) (by omega)⟩
     case measure => simp [intOf]; omega
    ·go_wp2
     go_roundw
     case rel => exact ⟨k + 1, by rw [← HN.out]; omega, by go_num, by rw [tk_next HX.out 0, tk_next HX.out 1, tk_next HX.out 2, tk_next HX.out 3]; simpa using fiS_set2 true HS.out, rdg_set (HN.out ▸ HD.out) (by omega)⟩
     case measure => simp [intOf]; omega
    ·go_wp2
     go_roundw
     case rel => exact ⟨k + 1, by rw [← HN.out]; omega, by go_num, by rw [tk_next HX.out 0, tk_next HX.out 1, tk_next HX.out 2, tk_next HX.out 3]; simpa using fiS_set3 true HS.out, rdg_set (HN.out ▸ HD.out) (by omega)⟩
     case measure => simp [intOf]; omega
  ·have hkN' : ¬ (k : Int) < (N : Int) := by omega
   obtain rfl : k = N := by omega
   obtain ⟨q0, hq0⟩ : ∃ q, tkB L k 0 = q := ⟨_, rfl⟩
   obtain ⟨q1, hq1⟩ : ∃ q, tkB L k 1 = q := ⟨_, rfl⟩
   obtain ⟨q2, hq2⟩ : ∃ q, tkB L k 2 = q := ⟨_, rfl⟩
   obtain ⟨q3, hq3⟩ : ∃ q, tkB L k 3 = q := ⟨_, rfl⟩
   rw [hq0, hq1, hq2, hq3] at HS
   have HQ := Lib.hid (And.intro hq0 (And.intro hq1 (And.intro hq2 hq3)))
   clear hq0 hq1 hq2 hq3
   obtain ⟨hbw, ⟨h0, h1, h2, h3, h4, h5⟩, ⟨g0, g1, g2, g3, g4, g5⟩⟩ := HS.out
   go_wp2
   (try simp only [Exit.inBlock, Exit.then])
   refine bodyPost_ret (v := .agg #[.bool q0, .bool q1, .bool q2, .bool q3]) ?_ rfl ⟨by rw [← HN.out, HQ.out.1, HQ.out.2.1, HQ.out.2.2.1, HQ.out.2.2.2], by go_grown⟩
   rw [results_cell1 rfl]
   go_simp

end Go.Proofs.Ytcgolbkpfncgpaa

/- Free variables: freeIn at nodes with parts. -/
namespace Go.Proofs.Ytcgolbkpfncgpaa
open Go.RowKit

set_option maxRecDepth 10000 in
set_option maxHeartbeats 2000000 in
theorem fi_n (t : TypeId) (y : Value) (p : Int → Bool) (HC : FiAt (.iface t y) p) : FiAt (.iface 179 (.agg #[.iface t y])) p := by
 intro w
 have H := Lib.hid HC
 clear HC
 have hta := fun w => Try.ta_other 179 (.agg #[.iface t y]) (.inr (.inl rfl)) w
 have htb := fun w => Try.tb_other 179 (.agg #[.iface t y]) (.inr (.inl rfl)) w
 go_enter Try.func89, Try.ntmps89
 go_wp2
 generalize hW : World.alloc _ _ = W
 have hS : FiS w false false false false W := by
  subst hW
  exact fiS_on (fiS_new w _ _) (by go_grown)
 have hc0 : W.cell? ⟨w.heap.size + 3, 0, none⟩ = some (.iface t y) := by subst hW; simp [go_sem]
 clear hW
 refine wp_loop_rounds 2 ?_
 rw [rounds_succ]
 go_wp2_with fail
 refine (H.out _).mono ?_
 rintro e w1 ⟨rfl, hb1⟩
 have hS1 := fiS_on hS hb1
 obtain ⟨c0, hp0⟩ : ∃ q, p 0 = q := ⟨_, rfl⟩
 obtain ⟨c1, hp1⟩ : ∃ q, p 1 = q := ⟨_, rfl⟩
 obtain ⟨c2, hp2⟩ : ∃ q, p 2 = q := ⟨_, rfl⟩
 obtain ⟨c3, hp3⟩ : ∃ q, p 3 = q := ⟨_, rfl⟩
 rw [hp0, hp1, hp2, hp3]
 clear hc0 hb1 hS H
 go_wp2_with fail
 obtain ⟨i0, i1, i2, i3⟩ := Try.ix (.bool c0) (.bool c1) (.bool c2) (.bool c3)
 go_loopw [21] (fun i wr => InR w false false false false c0 c1 c2 c3 i wr) (fun i _ => 4 - (intOf i).toNat)
 case atStart => exact ⟨0, by omega, rfl, hS1⟩
 case round =>
  obtain ⟨k, hk, rfl, hst⟩ := hrel
  have HS := Lib.hid hst
  obtain ⟨hbw, ⟨h0, h1, h2, h3, h4, h5⟩, ⟨g0, g1, g2, g3, g4, g5⟩⟩ := hst
  rcases (by omega : k = 0 ∨ k = 1 ∨ k = 2 ∨ k = 3 ∨ k = 4) with rfl | rfl | rfl | rfl | rfl
  ·go_wp2
   go_roundw
   case rel => exact ⟨1, by omega, by go_num, fiS_set0 _ HS.out⟩
   case measure => simp [intOf]
  ·go_wp2
   go_roundw
   case rel => exact ⟨2, by omega, by go_num, fiS_set1 _ HS.out⟩
   case measure => simp [intOf]
  ·go_wp2
   go_roundw
   case rel => exact ⟨3, by omega, by go_num, fiS_set2 _ HS.out⟩
   case measure => simp [intOf]
  ·go_wp2
   go_roundw
   case rel => exact ⟨4, by omega, by go_num, fiS_set3 _ HS.out⟩
   case measure => simp [intOf]
  ·have HF := Lib.hid (show FiS w c0 c1 c2 c3 wr from HS.out)
   clear HS hbw h0 h1 h2 h3 h4 h5 g0 g1 g2 g3 g4 g5
   obtain ⟨hbw, ⟨h0, h1, h2, h3, h4, h5⟩, ⟨g0, g1, g2, g3, g4, g5⟩⟩ := HF.out
   go_wp2_with fail
   rw [rounds_succ]
   go_wp2
   (try simp only [Exit.inBlock, Exit.then])
   refine bodyPost_ret (v := .agg #[.bool c0, .bool c1, .bool c2, .bool c3]) ?_ rfl ⟨by rw [hp0, hp1, hp2, hp3], by go_grown⟩
   rw [results_cell1 rfl]
   go_simp

set_option maxRecDepth 10000 in
set_option maxHeartbeats 2000000 in
theorem fi_b (bb : Bool) (u : Int) (hu : 0 ≤ u ∧ u < 4) (t : TypeId) (y : Value) (p : Int → Bool) (HC : FiAt (.iface t y) p) : FiAt (.iface 148 (.agg #[.bool bb, .int .i64 u, .iface t y])) (fun v => if v = u then false else p v) := by
 intro w
 have H := Lib.hid HC
 clear HC
 have hta := fun w => Try.ta_other 148 (.agg #[.bool bb, .int .i64 u, .iface t y]) (.inr (.inr (.inr rfl))) w
 have htb := fun w => Try.tb_bound bb u (.iface t y) w
 have HU := Lib.hid hu
 clear hu
 show Calls Try.prog 89 #[_] w (FiT (if (0 : Int) = u then false else p 0) (if (1 : Int) = u then false else p 1) (if (2 : Int) = u then false else p 2) (if (3 : Int) = u then false else p 3) w)
 obtain ⟨r0, hr0⟩ : ∃ r, (if (0 : Int) = u then false else p 0) = r := ⟨_, rfl⟩
 obtain ⟨r1, hr1⟩ : ∃ r, (if (1 : Int) = u then false else p 1) = r := ⟨_, rfl⟩
 obtain ⟨r2, hr2⟩ : ∃ r, (if (2 : Int) = u then false else p 2) = r := ⟨_, rfl⟩
 obtain ⟨r3, hr3⟩ : ∃ r, (if (3 : Int) = u then false else p 3) = r := ⟨_, rfl⟩
 rw [hr0, hr1, hr2, hr3]
 have HR := Lib.hid (And.intro hr0 (And.intro hr1 (And.intro hr2 hr3)))
 clear hr0 hr1 hr2 hr3
 go_enter Try.func89, Try.ntmps89
 go_wp2
 generalize hW : World.alloc _ _ = W
 have hS : FiS w false false false false W := by
  subst hW
  exact fiS_on (fiS_new w _ _) (by go_grown)
 have hc0 : W.cell? ⟨w.heap.size + 3, 0, none⟩ = some (.iface t y) := by subst hW; simp [go_sem]
 clear hW
 refine wp_loop_rounds 2 ?_
 rw [rounds_succ]
 go_wp2_with fail
 refine (H.out _).mono ?_
 rintro e w1 ⟨rfl, hb1⟩
 have hS1 := fiS_on hS hb1
 obtain ⟨c0, hp0⟩ : ∃ q, p 0 = q := ⟨_, rfl⟩
 obtain ⟨c1, hp1⟩ : ∃ q, p 1 = q := ⟨_, rfl⟩
 obtain ⟨c2, hp2⟩ : ∃ q, p 2 = q := ⟨_, rfl⟩
 obtain ⟨c3, hp3⟩ : ∃ q, p 3 = q := ⟨_, rfl⟩
 rw [hp0, hp1, hp2, hp3]
 clear hc0 hb1 hS H
 go_wp2_with fail
 obtain ⟨i0, i1, i2, i3⟩ := Try.ix (.bool c0) (.bool c1) (.bool c2) (.bool c3)
 go_loopw [21] (fun i wr => InR w false false false false c0 c1 c2 c3 i wr) (fun i _ => 4 - (intOf i).toNat)
 case atStart => exact ⟨0, by omega, rfl, hS1⟩
 case round =>
  obtain ⟨k, hk, rfl, hst⟩ := hrel
  have HS := Lib.hid hst
  obtain ⟨hbw, ⟨h0, h1, h2, h3, h4, h5⟩, ⟨g0, g1, g2, g3, g4, g5⟩⟩ := hst
  rcases (by omega : k = 0 ∨ k = 1 ∨ k = 2 ∨ k = 3 ∨ k = 4) with rfl | rfl | rfl | rfl | rfl
  ·go_wp2
   go_roundw
   case rel => exact ⟨1, by omega, by go_num, fiS_set0 _ HS.out⟩
   case measure => simp [intOf]
  ·go_wp2
   go_roundw
   case rel => exact ⟨2, by omega, by go_num, fiS_set1 _ HS.out⟩
   case measure => simp [intOf]
  ·go_wp2
   go_roundw
   case rel => exact ⟨3, by omega, by go_num, fiS_set2 _ HS.out⟩
   case measure => simp [intOf]
  ·go_wp2
   go_roundw
   case rel => exact ⟨4, by omega, by go_num, fiS_set3 _ HS.out⟩
   case measure => simp [intOf]
  ·have HF := Lib.hid (show FiS w c0 c1 c2 c3 wr from HS.out)
   clear HS hbw h0 h1 h2 h3 h4 h5 g0 g1 g2 g3 g4 g5 i0 i1 i2 i3
   go_wp2_with fail
   rw [rounds_succ]
   go_upto_region 21 with fail
   generalize hW2 : wr.alloc _ = W2
   have HF2 := Lib.hid (show FiS w c0 c1 c2 c3 W2 by subst hW2; exact fiS_on HF.out (by go_grown))
   have hx : W2.cell? ⟨wr.heap.size, 1, none⟩ = some (.int .i64 u) := by subst hW2; simp [go_sem]
   clear hW2 HF hta htb
   obtain ⟨hbw, ⟨h0, h1, h2, h3, h4, h5⟩, ⟨g0, g1, g2, g3, g4, g5⟩⟩ := HF2.out
   rcases (by have := HU.out; omega : u = 0 ∨ u = 1 ∨ u = 2 ∨ u = 3) with rfl | rfl | rfl | rfl
   ·go_upto_region 22 with fail
    generalize hW3 : World.setCell _ _ _ = W3
    have HF3 := Lib.hid (show FiS w false c1 c2 c3 W3 by subst hW3; exact fiS_set0 _ HF2.out)
    clear hW3 hx HF2 hbw h0 h1 h2 h3 h4 h5 g0 g1 g2 g3 g4 g5
    obtain ⟨hbw, ⟨h0, h1, h2, h3, h4, h5⟩, ⟨g0, g1, g2, g3, g4, g5⟩⟩ := HF3.out
    go_wp2
    (try simp only [Exit.inBlock, Exit.then])
    refine bodyPost_ret (v := .agg #[.bool false, .bool c1, .bool c2, .bool c3]) ?_ rfl ⟨by rw [← HR.out.1, ← HR.out.2.1, ← HR.out.2.2.1, ← HR.out.2.2.2]; simp [hp1, hp2, hp3], by go_grown⟩
    rw [results_cell1 rfl]
    go_simp
   ·go_upto_region 22 with fail
    generalize hW3 : World.setCell _ _ _ = W3
    have HF3 := Lib.hid (show FiS w c0 false c2 c3 W3 by subst hW3; exact fiS_set1 _ HF2.out)
    clear hW3 hx HF2 hbw h0 h1 h2 h3 h4 h5 g0 g1 g2 g3 g4 g5
    obtain ⟨hbw, ⟨h0, h1, h2, h3, h4, h5⟩, ⟨g0, g1, g2, g3, g4, g5⟩⟩ := HF3.out
    go_wp2
    (try simp only [Exit.inBlock, Exit.then])
    refine bodyPost_ret (v := .agg #[.bool c0, .bool false, .bool c2, .bool c3]) ?_ rfl ⟨by rw [← HR.out.1, ← HR.out.2.1, ← HR.out.2.2.1, ← HR.out.2.2.2]; simp [hp0, hp2, hp3], by go_grown⟩
    rw [results_cell1 rfl]
    go_simp
   ·go_upto_region 22 with fail
    generalize hW3 : World.setCell _ _ _ = W3
    have HF3 := Lib.hid (show FiS w c0 c1 false c3 W3 by subst hW3; exact fiS_set2 _ HF2.out)
    clear hW3 hx HF2 hbw h0 h1 h2 h3 h4 h5 g0 g1 g2 g3 g4 g5
    obtain ⟨hbw, ⟨h0, h1, h2, h3, h4, h5⟩, ⟨g0, g1, g2, g3, g4, g5⟩⟩ := HF3.out
    go_wp2
    (try simp only [Exit.inBlock, Exit.then])
    refine bodyPost_ret (v := .agg #[.bool c0, .bool c1, .bool false, .bool c3]) ?_ rfl ⟨by rw [← HR.out.1, ← HR.out.2.1, ← HR.out.2.2.1, ← HR.out.2.2.2]; simp [hp0, hp1, hp3], by go_grown⟩
    rw [results_cell1 rfl]
    go_simp
   ·go_upto_region 22 with fail
    generalize hW3 : World.setCell _ _ _ = W3
    have HF3 := Lib.hid (show FiS w c0 c1 c2 false W3 by subst hW3; exact fiS_set3 _ HF2.out)
    clear hW3 hx HF2 hbw h0 h1 h2 h3 h4 h5 g0 g1 g2 g3 g4 g5
    obtain ⟨hbw, ⟨h0, h1, h2, h3, h4, h5⟩, ⟨g0, g1, g2, g3, g4, g5⟩⟩ := HF3.out
    go_wp2
    (try simp only [Exit.inBlock, Exit.then])
    refine bodyPost_ret (v := .agg #[.bool c0, .bool c1, .bool c2, .bool false]) ?_ rfl ⟨by rw [← HR.out.1, ← HR.out.2.1, ← HR.out.2.2.1, ← HR.out.2.2.2]; simp [hp0, hp1, hp2], by go_grown⟩
    rw [results_cell1 rfl]
    go_simp

set_option maxRecDepth 10000 in
set_option maxHeartbeats 2000000 in
theorem fi_p (bb : Bool) (t t' : TypeId) (y y' : Value) (p p' : Int → Bool) (HC : FiAt (.iface t y) p) (HC' : FiAt (.iface t' y') p') : FiAt (.iface 167 (.agg #[.bool bb, .iface t y, .iface t' y'])) (fun v => p v || p' v) := by
 intro w
 have H' := Lib.hid HC'
 clear HC'
 have H := Lib.hid HC
 clear HC
 have hta := fun w => Try.ta_other 167 (.agg #[.bool bb, .iface t y, .iface t' y']) (.inr (.inr (.inl rfl))) w
 have htb := fun w => Try.tb_other 167 (.agg #[.bool bb, .iface t y, .iface t' y']) (.inr (.inr (.inl rfl))) w
 go_enter Try.func89, Try.ntmps89
 go_wp2
 generalize hW : World.alloc _ _ = W
 have hS : FiS w false false false false W := by
  subst hW
  exact fiS_on (fiS_new w _ _) (by go_grown)
 have hc0 : W.cell? ⟨w.heap.size + 3, 0, none⟩ = some (.iface t y) := by subst hW; simp [go_sem]
 have hd : W.cell? ⟨w.heap.size + 3, 1, none⟩ = some (.iface t' y') := by subst hW; simp [go_sem]
 have hsW : w.heap.size + 3 < W.heap.size := by subst hW; simp
 clear hW
 refine wp_loop_rounds 3 ?_
 rw [rounds_succ]
 go_wp2_with fail
 refine (H.out _).mono ?_
 rintro e w1 ⟨rfl, hb1⟩
 have hS1 := fiS_on hS hb1
 have hd1 := ((bcell hb1).1 _ 1 hsW).trans hd
 obtain ⟨c0, hp0⟩ : ∃ q, p 0 = q := ⟨_, rfl⟩
 obtain ⟨c1, hp1⟩ : ∃ q, p 1 = q := ⟨_, rfl⟩
 obtain ⟨c2, hp2⟩ : ∃ q, p 2 = q := ⟨_, rfl⟩
 obtain ⟨c3, hp3⟩ : ∃ q, p 3 = q := ⟨_, rfl⟩
 rw [hp0, hp1, hp2, hp3]
 clear hc0 hb1 hS H hd hsW
 go_wp2_with fail
 obtain ⟨i0, i1, i2, i3⟩ := Try.ix (.bool c0) (.bool c1) (.bool c2) (.bool c3)
 go_loopw [21] (fun i wr => InR w false false false false c0 c1 c2 c3 i wr ∧ wr.cell? ⟨w.heap.size + 3, 1, none⟩ = some (.iface t' y')) (fun i _ => 4 - (intOf i).toNat)
 case atStart => exact ⟨⟨0, by omega, rfl, hS1⟩, hd1⟩
 case round =>
  obtain ⟨⟨k, hk, rfl, hst⟩, hdw⟩ := hrel
  have HS := Lib.hid hst
  obtain ⟨hbw, ⟨h0, h1, h2, h3, h4, h5⟩, ⟨g0, g1, g2, g3, g4, g5⟩⟩ := hst
  rcases (by omega : k = 0 ∨ k = 1 ∨ k = 2 ∨ k = 3 ∨ k = 4) with rfl | rfl | rfl | rfl | rfl
  ·go_wp2
   go_roundw
   case rel => exact ⟨⟨1, by omega, by go_num, fiS_set0 _ HS.out⟩, by simp [go_sem, hdw]⟩
   case measure => simp [intOf]
  ·go_wp2
   go_roundw
   case rel => exact ⟨⟨2, by omega, by go_num, fiS_set1 _ HS.out⟩, by simp [go_sem, hdw]⟩
   case measure => simp [intOf]
  ·go_wp2
   go_roundw
   case rel => exact ⟨⟨3, by omega, by go_num, fiS_set2 _ HS.out⟩, by simp [go_sem, hdw]⟩
   case measure => simp [intOf]
  ·go_wp2
   go_roundw
   case rel => exact ⟨⟨4, by omega, by go_num, fiS_set3 _ HS.out⟩, by simp [go_sem, hdw]⟩
   case measure => simp [intOf]
  ·have HF := Lib.hid (show FiS w c0 c1 c2 c3 wr from HS.out)
   have HP := Lib.hid (And.intro hp0 (And.intro hp1 (And.intro hp2 hp3)))
   clear HS hbw h0 h1 h2 h3 h4 h5 g0 g1 g2 g3 g4 g5 hp0 hp1 hp2 hp3 i0 i1 i2 i3
   go_wp2_with fail
   rw [rounds_succ]
   go_wp2_with fail
   refine (H'.out _).mono ?_
   rintro e w2 ⟨rfl, hb2⟩
   have hS2 := fiS_on HF.out hb2
   obtain ⟨d0, hq0⟩ : ∃ q, p' 0 = q := ⟨_, rfl⟩
   obtain ⟨d1, hq1⟩ : ∃ q, p' 1 = q := ⟨_, rfl⟩
   obtain ⟨d2, hq2⟩ : ∃ q, p' 2 = q := ⟨_, rfl⟩
   obtain ⟨d3, hq3⟩ : ∃ q, p' 3 = q := ⟨_, rfl⟩
   rw [hq0, hq1, hq2, hq3]
   have HQ := Lib.hid (And.intro hq0 (And.intro hq1 (And.intro hq2 hq3)))
   clear hdw hb2 HF hq0 hq1 hq2 hq3
   go_wp2_with fail
   obtain ⟨i0, i1, i2, i3⟩ := Try.ix (.bool d0) (.bool d1) (.bool d2) (.bool d3)
   go_loopw [21] (fun i wr => InR w c0 c1 c2 c3 d0 d1 d2 d3 i wr) (fun i _ => 4 - (intOf i).toNat)
   case atStart => exact ⟨0, by omega, rfl, hS2⟩
   case round =>
    obtain ⟨k, hk, rfl, hst⟩ := hrel
    have HS := Lib.hid hst
    rcases (by omega : k = 0 ∨ k = 1 ∨ k = 2 ∨ k = 3 ∨ k = 4) with rfl | rfl | rfl | rfl | rfl
    ·have HG := Lib.hid (show FiS w c0 c1 c2 c3 wr from HS.out)
     clear hst
     obtain ⟨hbw, ⟨h0, h1, h2, h3, h4, h5⟩, ⟨g0, g1, g2, g3, g4, g5⟩⟩ := HG.out
     cases c0 with
     | false =>
      go_wp2
      go_roundw
      case rel => exact ⟨1, by omega, by go_num, fiS_set0 _ HG.out⟩
      case measure => simp [intOf]
     | true =>
      go_wp2
      go_roundw
      case rel => exact ⟨1, by omega, by go_num, fiS_set0 _ HG.out⟩
      case measure => simp [intOf]
    ·have HG := Lib.hid (show FiS w (c0 || d0) c1 c2 c3 wr from HS.out)
     clear hst
     obtain ⟨hbw, ⟨h0, h1, h2, h3, h4, h5⟩, ⟨g0, g1, g2, g3, g4, g5⟩⟩ := HG.out
     cases c1 with
     | false =>
      go_wp2
      go_roundw
      case rel => exact ⟨2, by omega, by go_num, fiS_set1 _ HG.out⟩
      case measure => simp [intOf]
     | true =>
      go_wp2
      go_roundw
      case rel => exact ⟨2, by omega, by go_num, fiS_set1 _ HG.out⟩
      case measure => simp [intOf]
    ·have HG := Lib.hid (show FiS w (c0 || d0) (c1 || d1) c2 c3 wr from HS.out)
     clear hst
     obtain ⟨hbw, ⟨h0, h1, h2, h3, h4, h5⟩, ⟨g0, g1, g2, g3, g4, g5⟩⟩ := HG.out
     cases c2 with
     | false =>
      go_wp2
      go_roundw
      case rel => exact ⟨3, by omega, by go_num, fiS_set2 _ HG.out⟩
      case measure => simp [intOf]
     | true =>
      go_wp2
      go_roundw
      case rel => exact ⟨3, by omega, by go_num, fiS_set2 _ HG.out⟩
      case measure => simp [intOf]
    ·have HG := Lib.hid (show FiS w (c0 || d0) (c1 || d1) (c2 || d2) c3 wr from HS.out)
     clear hst
     obtain ⟨hbw, ⟨h0, h1, h2, h3, h4, h5⟩, ⟨g0, g1, g2, g3, g4, g5⟩⟩ := HG.out
     cases c3 with
     | false =>
      go_wp2
      go_roundw
      case rel => exact ⟨4, by omega, by go_num, fiS_set3 _ HG.out⟩
      case measure => simp [intOf]
     | true =>
      go_wp2
      go_roundw
      case rel => exact ⟨4, by omega, by go_num, fiS_set3 _ HG.out⟩
      case measure => simp [intOf]
    ·have HG := Lib.hid (show FiS w (c0 || d0) (c1 || d1) (c2 || d2) (c3 || d3) wr from HS.out)
     clear hst
     obtain ⟨e0, he0⟩ : ∃ q, (c0 || d0) = q := ⟨_, rfl⟩
     obtain ⟨e1, he1⟩ : ∃ q, (c1 || d1) = q := ⟨_, rfl⟩
     obtain ⟨e2, he2⟩ : ∃ q, (c2 || d2) = q := ⟨_, rfl⟩
     obtain ⟨e3, he3⟩ : ∃ q, (c3 || d3) = q := ⟨_, rfl⟩
     rw [he0, he1, he2, he3] at HG
     have HE := Lib.hid (And.intro he0 (And.intro he1 (And.intro he2 he3)))
     clear he0 he1 he2 he3 HS
     obtain ⟨hbw, ⟨h0, h1, h2, h3, h4, h5⟩, ⟨g0, g1, g2, g3, g4, g5⟩⟩ := HG.out
     go_wp2_with fail
     rw [rounds_succ]
     go_wp2
     (try simp only [Exit.inBlock, Exit.then])
     refine bodyPost_ret (v := .agg #[.bool e0, .bool e1, .bool e2, .bool e3]) ?_ rfl ⟨by rw [HP.out.1, HP.out.2.1, HP.out.2.2.1, HP.out.2.2.2, HQ.out.1, HQ.out.2.1, HQ.out.2.2.1, HQ.out.2.2.2, HE.out.1, HE.out.2.1, HE.out.2.2.1, HE.out.2.2.2], by go_grown⟩
     rw [results_cell1 rfl]
     go_simp

end Go.Proofs.Ytcgolbkpfncgpaa

/- Free variables: freeIn at any node; FreeVars of the program. -/
namespace Go.Proofs.Ytcgolbkpfncgpaa
open Go.RowKit

theorem fiAt_to {x : Value} {p q : Int → Bool} (h : FiAt x p) (e : ∀ v, p v = q v) : FiAt x q := by
 have : p = q := funext e
 rw [← this]
 exact h
theorem fr1_no {h : FH} {sub : Bool} {v : Int} (hk : h.k = 0 ∨ h.k = 1 ∨ h.k = 3 ∨ h.k = 4 ∨ h.k = 5) : fr1 h v sub = sub := by
 unfold fr1 qB
 rcases hk with hk | hk | hk | hk | hk <;> rw [hk] <;> simp
theorem fr1_at {h : FH} {sub : Bool} {v : Int} (hk : h.k = 2) : fr1 h v sub = decide (sel h.a h.b h.c h.d v 0 ≠ 0) := by
 unfold fr1 qB
 rw [hk]
 simp
theorem fr1_qu {h : FH} {sub : Bool} {v : Int} (hk : h.k = 6 ∨ h.k = 7) : fr1 h v sub = if v = h.v then false else sub := by
 have e : (h.v = v) = (v = h.v) := propext ⟨Eq.symm, Eq.symm⟩
 unfold fr1 qB
 rcases hk with hk | hk <;> rw [hk] <;> simp [e]
theorem own_var {h : FH} {len : Nat} (ho : ownB h len = true) (hk : h.k = 6 ∨ h.k = 7) : 0 ≤ h.v ∧ h.v < 4 := by
 unfold ownB at ho
 have hq : qB h.k = true := by rcases hk with hk | hk <;> rw [hk] <;> rfl
 rw [hq] at ho
 simp only [Bool.and_eq_true, if_true] at ho
 have := ho.1.2
 unfold varB at this
 simp only [decide_eq_true_eq] at this
 omega

theorem fi_0 (h : FH) (hk : h.k = 0 ∨ h.k = 1 ∨ h.k = 2) : FiAt (nd1 h []) (fun v => fr1 h v false) := by
 rcases hk with hk | hk | hk
 ·have e : nd1 h [] = .iface 165 (.agg #[.bool true]) := by unfold nd1; simp [hk]
  rw [e]
  exact fiAt_to (fi_t true) fun v => (fr1_no (.inl hk)).symm
 ·have e : nd1 h [] = .iface 165 (.agg #[.bool false]) := by unfold nd1; simp [hk]
  rw [e]
  exact fiAt_to (fi_t false) fun v => (fr1_no (.inr (.inl hk))).symm
 ·have e : nd1 h [] = .iface 146 (.agg #[.int .i64 h.ak, .int .i64 h.am, .int .i64 h.a, .int .i64 h.b, .int .i64 h.c, .int .i64 h.d, .int .i64 h.n]) := by unfold nd1; simp [hk]
  rw [e]
  exact fiAt_to (fi_a _ _ _ _ _ _ _) fun v => (fr1_at hk).symm
theorem fi_1 (h : FH) (len : Nat) (ho : ownB h len = true) (t : TypeId) (y : Value) (p : Int → Bool) (hk : h.k = 3 ∨ h.k = 6 ∨ h.k = 7) (HC : FiAt (.iface t y) p) : FiAt (nd1 h [.iface t y]) (fun v => fr1 h v (p v)) := by
 rcases hk with hk | hk | hk
 ·have e : nd1 h [.iface t y] = .iface 179 (.agg #[.iface t y]) := by unfold nd1; simp [hk]
  rw [e]
  exact fiAt_to (fi_n t y p HC) fun v => (fr1_no (.inr (.inr (.inl hk)))).symm
 ·have e : nd1 h [.iface t y] = .iface 148 (.agg #[.bool true, .int .i64 h.v, .iface t y]) := by unfold nd1; simp [hk]
  rw [e]
  exact fiAt_to (fi_b true h.v (own_var ho (.inl hk)) t y p HC) fun v => (fr1_qu (.inl hk)).symm
 ·have e : nd1 h [.iface t y] = .iface 148 (.agg #[.bool false, .int .i64 h.v, .iface t y]) := by unfold nd1; simp [hk]
  rw [e]
  exact fiAt_to (fi_b false h.v (own_var ho (.inr hk)) t y p HC) fun v => (fr1_qu (.inr hk)).symm
theorem fi_2 (h : FH) (t t' : TypeId) (y y' : Value) (p p' : Int → Bool) (hk : h.k = 4 ∨ h.k = 5) (HC : FiAt (.iface t y) p) (HC' : FiAt (.iface t' y') p') : FiAt (nd1 h [.iface t y, .iface t' y']) (fun v => fr1 h v (p v || p' v)) := by
 rcases hk with hk | hk
 ·have e : nd1 h [.iface t y, .iface t' y'] = .iface 167 (.agg #[.bool true, .iface t y, .iface t' y']) := by unfold nd1; simp [hk]
  rw [e]
  exact fiAt_to (fi_p true t t' y y' p p' HC HC') fun v => (fr1_no (.inr (.inr (.inr (.inl hk))))).symm
 ·have e : nd1 h [.iface t y, .iface t' y'] = .iface 167 (.agg #[.bool false, .iface t y, .iface t' y']) := by unfold nd1; simp [hk]
  rw [e]
  exact fiAt_to (fi_p false t t' y y' p p' HC HC') fun v => (fr1_no (.inr (.inr (.inr (.inr hk))))).symm

theorem fi_any : ∀ (N : Nat) (h : FH) (f : Fo), f.size ≤ N → ownB h f.len = true → f.okB = true → FiAt (nd1 h f.nds) (fun v => fr1 h v (f.fr v)) := by
 intro N
 induction N with
 | zero =>
  intro h f hf ho _
  match f, hf with
  | .nil, _ =>
   refine fi_0 h ?_
   rcases own_kind ho with ⟨_, hk⟩ | ⟨hl, _⟩ | ⟨hl, _⟩
   ·exact hk
   ·simp [Fo.len] at hl
   ·simp [Fo.len] at hl
  | .cons _ _ _, hf => simp [Fo.size] at hf
 | succ N ih =>
  intro h f hf ho hok
  match f, hf, ho, hok with
  | .nil, _, ho, _ =>
   refine fi_0 h ?_
   rcases own_kind ho with ⟨_, hk⟩ | ⟨hl, _⟩ | ⟨hl, _⟩
   ·exact hk
   ·simp [Fo.len] at hl
   ·simp [Fo.len] at hl
  | .cons h1 s1 .nil, hf, ho, hok =>
   have hk := own_kind ho
   simp only [Fo.size, Fo.okB, Bool.and_true, Bool.and_eq_true] at hf hok
   obtain ⟨t, y, e⟩ := nd1_iface h1 s1.nds
   have h1n := ih h1 s1 (by omega) hok.1 hok.2
   simp only [Fo.nds, Fo.fr, e, Bool.or_false] at h1n ⊢
   refine fi_1 h _ ho t y _ ?_ h1n
   rcases hk with ⟨hl, _⟩ | ⟨_, hk⟩ | ⟨hl, _⟩
   ·simp [Fo.len] at hl
   ·exact hk
   ·simp [Fo.len] at hl
  | .cons h1 s1 (.cons h2 s2 .nil), hf, ho, hok =>
   have hk := own_kind ho
   simp only [Fo.size, Fo.okB, Bool.and_true, Bool.and_eq_true] at hf hok
   obtain ⟨t, y, e⟩ := nd1_iface h1 s1.nds
   obtain ⟨t', y', e'⟩ := nd1_iface h2 s2.nds
   have h1n := ih h1 s1 (by omega) hok.1.1 hok.1.2
   have h2n := ih h2 s2 (by omega) hok.2.1 hok.2.2
   simp only [Fo.nds, Fo.fr, e, e', Bool.or_false] at h1n h2n ⊢
   refine fi_2 h t t' y y' _ _ ?_ h1n h2n
   rcases hk with ⟨hl, _⟩ | ⟨hl, _⟩ | ⟨_, hk⟩
   ·simp [Fo.len] at hl
   ·simp [Fo.len] at hl
   ·exact hk
  | .cons _ _ (.cons _ _ (.cons _ _ r)), _, ho, _ =>
   rcases own_kind ho with ⟨hl, _⟩ | ⟨hl, _⟩ | ⟨hl, _⟩ <;> simp [Fo.len] at hl

def FvI (p : Int → Bool) (w2 : World) (v i : Value) (wr : World) : Prop :=
 ∃ k : Nat, k ≤ 4 ∧ i = .int .i64 k ∧ OwnI wr w2.heap.size v (fl p k) ∧ Below w2.heap.size w2 wr

set_option maxRecDepth 10000 in
set_option maxHeartbeats 2000000 in
theorem FreeVars_any (h : FH) (f : Fo) (w : World) (lo : Nat) (s : Value) (hs : FS w lo f s) :
  Calls Try.prog 42 #[.agg #[.int .i64 h.k, .int .i64 h.ak, .int .i64 h.am, .int .i64 h.a, .int .i64 h.b, .int .i64 h.c, .int .i64 h.d, .int .i64 h.n, .int .i64 h.v, s]] w (FvT (fvL h f) w) := by
 have HC := Lib.hid (fun W hW => nodeOf_any h f W lo s (FS.below (w := w) hW (Nat.le_refl _) hs))
 obtain ⟨sa, sn, sc, rfl⟩ := hs.slice
 clear hs
 cases hv : vfB h f with
 | false =>
  have HI := Lib.hid (show fvL h f = [] by unfold fvL; rw [if_neg (by rw [hv]; simp)])
  have HV := Lib.hid (show ndV h f = .tuple #[.nilIface, .bool false] by unfold ndV; rw [if_neg (by rw [hv]; simp)])
  clear hv
  go_enter Try.func42, Try.ntmps42
  go_wp2_with fail
  refine (HC.out _ (by go_grown)).mono ?_
  rintro e w1 ⟨rfl, hb1⟩
  rw [HV.out]
  go_wp2
  go_ret
  exact ⟨_, rfl, by rw [HI.out]; exact World.ownsRow_nil _ _ _ _, below_on (by go_grown) hb1⟩
 | true =>
  obtain ⟨i0, hi, hz0, hz1, hz2⟩ := info_parts Try.infoInt
  obtain ⟨h1, h2, h3⟩ := vf_parts hv
  have HN := Lib.hid (fi_any f.size h f (Nat.le_refl _) h1 h2)
  obtain ⟨p, hp⟩ : ∃ p : Int → Bool, (fun v => fr1 h v (f.fr v)) = p := ⟨_, rfl⟩
  have HI := Lib.hid (show fvL h f = fl p 4 by unfold fvL; rw [if_pos hv, hp])
  rw [hp] at HN
  have HV := Lib.hid (show ndV h f = .tuple #[nd1 h f.nds, .bool true] by unfold ndV; rw [if_pos hv])
  clear hv h1 h2 h3 hp
  go_enter Try.func42, Try.ntmps42
  go_wp2_with fail
  refine (HC.out _ (by go_grown)).mono ?_
  rintro e w1 ⟨rfl, hb1⟩
  rw [HV.out]
  have hw1 : Below w.heap.size w w1 := below_on (by go_grown) hb1
  clear hb1
  go_wp2_with fail
  refine (HN.out _).mono ?_
  rintro e w2 ⟨rfl, hb2⟩
  have hw2 := below_on hw1 hb2
  obtain ⟨b0, hp0⟩ : ∃ q, p 0 = q := ⟨_, rfl⟩
  obtain ⟨b1, hp1⟩ : ∃ q, p 1 = q := ⟨_, rfl⟩
  obtain ⟨b2, hp2⟩ : ∃ q, p 2 = q := ⟨_, rfl⟩
  obtain ⟨b3, hp3⟩ : ∃ q, p 3 = q := ⟨_, rfl⟩
  rw [hp0, hp1, hp2, hp3]
  have HP := Lib.hid (And.intro hp0 (And.intro hp1 (And.intro hp2 hp3)))
  clear hp0 hp1 hp2 hp3 hb2 HC HN hw1
  obtain ⟨j0, j1, j2, j3⟩ := Try.ix (.bool b0) (.bool b1) (.bool b2) (.bool b3)
  have hs2 := hw2.size
  go_wp2_with fail
  go_loopw [5, 17] (fun v i wr => FvI p w2 v i wr) (fun _ i _ => 4 - (intOf i).toNat)
  case atStart => exact ⟨0, by omega, rfl, World.ownsRow_nil _ _ _ _, Below.refl _ _⟩
  case round =>
   obtain ⟨k, hk, rfl, hown, hbw⟩ := hrel
   have hlen := fl_len p k
   have HO := Lib.hid hown
   have HB := Lib.hid hbw
   have hsw := hbw.size
   clear hown hbw
   rcases (by omega : k = 0 ∨ k = 1 ∨ k = 2 ∨ k = 3 ∨ k = 4) with rfl | rfl | rfl | rfl | rfl
   ·have HK := Lib.hid (show p ((0 : Nat) : Int) = b0 from HP.out.1)
    have hown1 : wr.ownsRow w2.heap.size 3 1 _ (fl p 0).length ((fl p 0).map (Value.int .i64)) := HO.out
    cases b0 with
    | false =>
     have HN1 := Lib.hid (show OwnI wr w2.heap.size _ (fl p 1) by rw [fl_drop HK.out]; exact hown1)
     clear hown1
     go_wp2
     go_roundw
     case rel => exact ⟨1, by omega, by go_num, HN1.out, HB.out⟩
     case measure => simp [intOf]
    | true =>
     have HK2 := Lib.hid (fl_keep HK.out)
     go_wp2_with (at_builtin; refine wpList_append_own _ rfl _ _ 74 rfl w2.heap.size 3 i0 (.int .i64 0) 1 8 Try.underlying74 hi hz0 hz1 hz2 rfl (by decide) _ _ _ rfl (hown1.alloc _) ⟨wr.heap.size, 0, none⟩ 1 1 [.int .i64 0] rfl rfl ?c1 ?c2 ?c3 ?c4 ?c5 ?_)
     case c1 =>
      intro j u hj
      match j, hj with
      | 0, hj => simp at hj; subst hj; simp [Addr.add]
     case c2 => intro u hu; simp at hu; subst hu; rfl
     case c3 => unfold maxLen; omega
     case c4 => omega
     case c5 => simp; omega
     ·intro v' w4 hown2 hgrow _
      have hbA : Below wr.heap.size wr (wr.alloc (.cells #[.int .i64 0] 3)) := by go_grown
      have HN2 : Hid (OwnI w4 w2.heap.size v' (fl p 1)) := by
       show w4.ownsRow _ _ _ _ _ _
       rw [HK2.out]
       simpa using hown2
      have HB2 : Hid (Below w2.heap.size w2 w4) := grown_below (HB.out.trans (hbA.mono (by omega))) (own_below hown1 hbA) (Nat.le_refl _) hgrow
      clear hown1 hown2 hgrow hbA
      go_wp2
      go_roundw
      case rel => exact ⟨1, by omega, by go_num, HN2.out, HB2.out⟩
      case measure => simp [intOf]
   ·have HK := Lib.hid (show p ((1 : Nat) : Int) = b1 from HP.out.2.1)
    have hown1 : wr.ownsRow w2.heap.size 3 1 _ (fl p 1).length ((fl p 1).map (Value.int .i64)) := HO.out
    cases b1 with
    | false =>
     have HN1 := Lib.hid (show OwnI wr w2.heap.size _ (fl p 2) by rw [fl_drop HK.out]; exact hown1)
     clear hown1
     go_wp2
     go_roundw
     case rel => exact ⟨2, by omega, by go_num, HN1.out, HB.out⟩
     case measure => simp [intOf]
    | true =>
     have HK2 := Lib.hid (fl_keep HK.out)
     go_wp2_with (at_builtin; refine wpList_append_own _ rfl _ _ 74 rfl w2.heap.size 3 i0 (.int .i64 0) 1 8 Try.underlying74 hi hz0 hz1 hz2 rfl (by decide) _ _ _ rfl (hown1.alloc _) ⟨wr.heap.size, 0, none⟩ 1 1 [.int .i64 1] rfl rfl ?c1 ?c2 ?c3 ?c4 ?c5 ?_)
     case c1 =>
      intro j u hj
      match j, hj with
      | 0, hj => simp at hj; subst hj; simp [Addr.add]
     case c2 => intro u hu; simp at hu; subst hu; rfl
     case c3 => unfold maxLen; omega
     case c4 => omega
     case c5 => simp; omega
     ·intro v' w4 hown2 hgrow _
      have hbA : Below wr.heap.size wr (wr.alloc (.cells #[.int .i64 1] 3)) := by go_grown
      have HN2 : Hid (OwnI w4 w2.heap.size v' (fl p 2)) := by
       show w4.ownsRow _ _ _ _ _ _
       rw [HK2.out]
       simpa using hown2
      have HB2 : Hid (Below w2.heap.size w2 w4) := grown_below (HB.out.trans (hbA.mono (by omega))) (own_below hown1 hbA) (Nat.le_refl _) hgrow
      clear hown1 hown2 hgrow hbA
      go_wp2
      go_roundw
      case rel => exact ⟨2, by omega, by go_num, HN2.out, HB2.out⟩
      case measure => simp [intOf]
   ·have HK := Lib.hid (show p ((2 : Nat) : Int) = b2 from HP.out.2.2.1)
    have hown1 : wr.ownsRow w2.heap.size 3 1 _ (fl p 2).length ((fl p 2).map (Value.int .i64)) := HO.out
    cases b2 with
    | false =>
     have HN1 := Lib.hid (show OwnI wr w2.heap.size _ (fl p 3) by rw [fl_drop HK.out]; exact hown1)
     clear hown1
     go_wp2
     go_roundw
     case rel => exact ⟨3, by omega, by go_num, HN1.out, HB.out⟩
     case measure => simp [intOf]
    | true =>
     have HK2 := Lib.hid (fl_keep HK.out)
     go_wp2_with (at_builtin; refine wpList_append_own _ rfl _ _ 74 rfl w2.heap.size 3 i0 (.int .i64 0) 1 8 Try.underlying74 hi hz0 hz1 hz2 rfl (by decide) _ _ _ rfl (hown1.alloc _) ⟨wr.heap.size, 0, none⟩ 1 1 [.int .i64 2] rfl rfl ?c1 ?c2 ?c3 ?c4 ?c5 ?_)
     case c1 =>
      intro j u hj
      match j, hj with
      | 0, hj => simp at hj; subst hj; simp [Addr.add]
     case c2 => intro u hu; simp at hu; subst hu; rfl
     case c3 => unfold maxLen; omega
     case c4 => omega
     case c5 => simp; omega
     ·intro v' w4 hown2 hgrow _
      have hbA : Below wr.heap.size wr (wr.alloc (.cells #[.int .i64 2] 3)) := by go_grown
      have HN2 : Hid (OwnI w4 w2.heap.size v' (fl p 3)) := by
       show w4.ownsRow _ _ _ _ _ _
       rw [HK2.out]
       simpa using hown2
      have HB2 : Hid (Below w2.heap.size w2 w4) := grown_below (HB.out.trans (hbA.mono (by omega))) (own_below hown1 hbA) (Nat.le_refl _) hgrow
      clear hown1 hown2 hgrow hbA
      go_wp2
      go_roundw
      case rel => exact ⟨3, by omega, by go_num, HN2.out, HB2.out⟩
      case measure => simp [intOf]
   ·have HK := Lib.hid (show p ((3 : Nat) : Int) = b3 from HP.out.2.2.2)
    have hown1 : wr.ownsRow w2.heap.size 3 1 _ (fl p 3).length ((fl p 3).map (Value.int .i64)) := HO.out
    cases b3 with
    | false =>
     have HN1 := Lib.hid (show OwnI wr w2.heap.size _ (fl p 4) by rw [fl_drop HK.out]; exact hown1)
     clear hown1
     go_wp2
     go_roundw
     case rel => exact ⟨4, by omega, by go_num, HN1.out, HB.out⟩
     case measure => simp [intOf]
    | true =>
     have HK2 := Lib.hid (fl_keep HK.out)
     go_wp2_with (at_builtin; refine wpList_append_own _ rfl _ _ 74 rfl w2.heap.size 3 i0 (.int .i64 0) 1 8 Try.underlying74 hi hz0 hz1 hz2 rfl (by decide) _ _ _ rfl (hown1.alloc _) ⟨wr.heap.size, 0, none⟩ 1 1 [.int .i64 3] rfl rfl ?c1 ?c2 ?c3 ?c4 ?c5 ?_)
     case c1 =>
      intro j u hj
      match j, hj with
      | 0, hj => simp at hj; subst hj; simp [Addr.add]
     case c2 => intro u hu; simp at hu; subst hu; rfl
     case c3 => unfold maxLen; omega
     case c4 => omega
     case c5 => simp; omega
     ·intro v' w4 hown2 hgrow _
      have hbA : Below wr.heap.size wr (wr.alloc (.cells #[.int .i64 3] 3)) := by go_grown
      have HN2 : Hid (OwnI w4 w2.heap.size v' (fl p 4)) := by
       show w4.ownsRow _ _ _ _ _ _
       rw [HK2.out]
       simpa using hown2
      have HB2 : Hid (Below w2.heap.size w2 w4) := grown_below (HB.out.trans (hbA.mono (by omega))) (own_below hown1 hbA) (Nat.le_refl _) hgrow
      clear hown1 hown2 hgrow hbA
      go_wp2
      go_roundw
      case rel => exact ⟨4, by omega, by go_num, HN2.out, HB2.out⟩
      case measure => simp [intOf]
   ·have HO2 := Lib.hid (show OwnI wr w.heap.size _ (fl p 4) from own_mono HO.out hs2)
    go_wp2
    go_ret
    exact ⟨_, rfl, by rw [HI.out]; exact HO2.out, below_on hw2 HB.out⟩

end Go.Proofs.Ytcgolbkpfncgpaa


/- The walk of the law on the nodes of a formula. -/
namespace Go.Proofs.Ytcgolbkpfncgpaa
open Go.RowKit

theorem atL_le (h : FH) (f : Fo) : (atL h f).length ≤ f.size + 1 := by
 unfold atL
 split
 ·exact atF_len h f
 ·simp

theorem sub_valid {h' : FH} {s' r' : Fo} (hok : (Fo.cons h' s' r').okB = true) (hz : s'.size + 1 ≤ 600) : vfB h' s' = true ∧ r'.okB = true := by
 simp only [Fo.okB, Bool.and_eq_true] at hok
 exact ⟨by unfold vfB; simp [hok.1.1, hok.1.2, hz], hok.2⟩

def NsR (f : Fo) (b o lo : Nat) (W : World) (x : Nat) (h : FH) (s sum i : Value) (wr : World) : Prop :=
 ∃ (k m : Nat) (r : Fo), i = .int .i64 k ∧ sum = .int .i64 m ∧ k + r.len = f.len ∧ r.okB = true ∧ r.size ≤ f.size ∧ m + r.size = 1 + f.size ∧ FEl W lo r b (o + k * 10) ∧ Below W.heap.size W wr ∧ C10 wr x h s

end Go.Proofs.Ytcgolbkpfncgpaa

/- What the model draws for the law on caught terms: a formula, a variable, a term. -/
namespace Go.Proofs.Ytcgolbkpfncgpaa
open Go.RowKit

theorem rd_dr {w : World} {r : Nat} {p : Int} (h : Rd w r p) : Rd w.drew r p := h
theorem rd_drN {w : World} {r k : Nat} {p : Int} (h : Rd w r p) : Rd (w.drewN k) r p := h
theorem turned_dr {w w' : World} {r : Nat} {p K : Int} (h : Turned r p K w.drew w') : Turned r p K w w' := ⟨⟨h.1.os, h.1.tape, h.1.output, h.1.size, h.1.block⟩, h.2⟩
theorem turned_drN {w w' : World} {r k : Nat} {p K : Int} (h : Turned r p K (w.drewN k) w') : Turned r p K w w' := ⟨⟨h.1.os, h.1.tape, h.1.output, h.1.size, h.1.block⟩, h.2⟩

/-- A drawn formula, a variable and a term. -/
def FormVarTerm (w : World) (e : Ending) (w' : World) : Prop := ∃ (h : FH) (f : Fo) (s : Value) (v a b c d n : Int), e = .returned (.tuple #[.agg #[.int .i64 h.k, .int .i64 h.ak, .int .i64 h.am, .int .i64 h.a, .int .i64 h.b, .int .i64 h.c, .int .i64 h.d, .int .i64 h.n, .int .i64 h.v, s], .int .i64 v, .agg #[.int .i64 a, .int .i64 b, .int .i64 c, .int .i64 d, .int .i64 n]]) ∧ FS w' w.heap.size f s ∧ f.size ≤ 1400 ∧ Below w.heap.size w w'

set_option maxRecDepth 10000 in
set_option maxHeartbeats 2000000 in
theorem DrawSubstFormula_t (sp : Option Addr) (n cap : Nat) (w : World) (h : Code w sp n cap) : Calls Try.prog 38 #[.slice sp n cap] w (FormVarTerm w) := by
 have H := Lib.hid h
 clear h
 go_enter Try.func38, Try.ntmps38
 go_wp2_with fail
 generalize hW : World.alloc _ _ = W
 have hz : C10 W w.heap.size ⟨0, 0, 0, 0, 0, 0, 0, 0, 0⟩ (.slice none 0 0) := by subst hW; exact (by refine ⟨?_, ?_, ?_, ?_, ?_, ?_, ?_, ?_, ?_, ?_, ?_⟩ <;> first | (simp [go_sem]; done) | (simp; omega))
 have hy : C5 W (w.heap.size + 1) 0 0 0 0 0 := by subst hW; exact (by refine ⟨?_, ?_, ?_, ?_, ?_, ?_⟩ <;> first | (simp [go_sem]; done) | (simp; omega))
 have fz : Hid (∀ o, W.frozen? ⟨w.heap.size, o, none⟩ = false) := by intro o; subst hW; simp [go_sem]
 have fy : Hid (∀ o, W.frozen? ⟨w.heap.size + 1, o, none⟩ = false) := by intro o; subst hW; simp [go_sem]
 have hb0 : Below w.heap.size w W := by subst hW; go_grown
 have hsz : w.heap.size + 1 + 1 = W.heap.size := by subst hW; simp
 clear hW
 refine (l17Open_t sp n cap W (code_on H.out hb0)).mono ?_
 rintro e w1 ⟨r, rfl, hr, hR, hb1⟩
 have HR := Lib.hid hR
 clear hR
 go_wp2_with fail
 refine (l3Open_t r 0 w1 HR.out (by omega)).mono ?_
 rintro e w2 ⟨h3, f3, s3, rfl, hs3, hsz3, ht⟩
 have hr1 : r < w1.heap.size := rd_lt HR.out
 have hs01 := hb1.size
 have hs12 := ht.1.size
 obtain ⟨hg, q, q0, q1, hR2⟩ := ht
 have HR2 := Lib.hid hR2
 have hb2 : Below W.heap.size W w2 := hb1.trans (below_only hg hb1.size hr)
 have HS3 := Lib.hid hs3
 obtain ⟨a3, n3, c3, rfl⟩ := hs3.slice
 clear hg hR2 hs3
 go_upto_region 3 with fail
 generalize hW3 : World.alloc _ _ = W3
 have hx : C10 W3 w2.heap.size h3 (.slice a3 n3 c3) := by subst hW3; exact (by refine ⟨?_, ?_, ?_, ?_, ?_, ?_, ?_, ?_, ?_, ?_, ?_⟩ <;> first | (simp [go_sem]; done) | (simp; omega))
 have hb23 : Below w2.heap.size w2 W3 := by subst hW3; go_grown
 have hs23 : w2.heap.size < W3.heap.size := hx.1
 clear hW3
 have HS4 := Lib.hid (FS.below hb23 (Nat.le_refl _) HS3.out)
 have HR3 := Lib.hid (rd_on HR2.out hb23)
 have hb3 := below_on hb2 hb23
 go_wp2_with fail
 refine (l1Which_t r q W3 HR3.out (by omega)).mono ?_
 rintro e W5 ⟨v, rfl, ht⟩
 have HS5 := Lib.hid (fs_turned HS4.out ht (by omega))
 have hx := c10_only hx ht.1 (by omega)
 have hb3 : Below W.heap.size W W5 := hb3.trans (below_only ht.1 (by omega) hr)
 have hs23 : w2.heap.size < W5.heap.size := Nat.lt_of_lt_of_le hs23 ht.1.size
 obtain ⟨_, q', q2, q3, hR3⟩ := ht
 have HR5 := Lib.hid hR3
 clear hR3
 have hz3 := c10_on hz hb3
 have hy3 := c5_on hy hb3
 have fz3 : Hid (∀ o, W5.frozen? ⟨w.heap.size, o, none⟩ = false) := fun o => ((bcell hb3).2 _ o hz.1).trans (fz.out o)
 have fy3 : Hid (∀ o, W5.frozen? ⟨w.heap.size + 1, o, none⟩ = false) := fz_on hy fy hb3
 obtain ⟨x0, x1, x2, x3, x4, x5, x6, x7, x8, x9, x10⟩ := id hx
 go_upto_region 4 with fail
 go_region_with (go_at_call 51; refine (l1Open_t r q' _ (by first | exact HR5.out | exact rd_dr HR5.out | exact rd_drN HR5.out) (by omega)).mono ?_; rintro e w4 ⟨a', b', c', d', m', rfl, ht4⟩; have ht4 : Turned r q' 10 W5 w4 := (by first | exact ht4 | exact turned_dr ht4 | exact turned_drN ht4); obtain ⟨x0, x1, x2, x3, x4, x5, x6, x7, x8, x9, x10⟩ := c10_only hx ht4.1 (by omega); obtain ⟨z0, z1, z2, z3, z4, z5, z6, z7, z8, z9, z10⟩ := c10_only hz3 ht4.1 (by omega); obtain ⟨y0, y1, y2, y3, y4, y5⟩ := c5_only hy3 ht4.1 (by omega); have fz4 := (fz_only fz3 ht4.1 hz3.1 (by omega)).out; have fy4 := (fz_only fy3 ht4.1 hy3.1 (by omega)).out; have hb4 := Lib.hid (hb3.trans (below_only ht4.1 (by omega) hr)); have HS6 := Lib.hid (fs_turned HS5.out ht4 (by omega)); clear ht4)
 all_goals
  go_wp2
  refine bodyPost_ret (v := .tuple #[.agg #[.int .i64 h3.k, .int .i64 h3.ak, .int .i64 h3.am, .int .i64 h3.a, .int .i64 h3.b, .int .i64 h3.c, .int .i64 h3.d, .int .i64 h3.n, .int .i64 h3.v, .slice a3 n3 c3], .int .i64 v, .agg #[.int .i64 a', .int .i64 b', .int .i64 c', .int .i64 d', .int .i64 m']]) (by simp [results, Try.results38, go_sem, z1, z2, z3, z4, z5, z6, z7, z8, z9, z10, y1, y2, y3, y4, y5]) rfl ⟨h3, f3, .slice a3 n3 c3, v, a', b', c', d', m', rfl, ?_, hsz3, ?_⟩
  ·exact FS.mono (by omega) (FS.kept (Nat.le_of_eq (by simp [World.setCell])) (fun k hk _ => by repeat rw [Below.heap_setCell _ _ _ _ (by dsimp only; omega)]) HS6.out)
  ·have hbb := below_on hb0 hb4.out
   go_grown

end Go.Proofs.Ytcgolbkpfncgpaa

/- When a term may be put in: facts on ssB that the law on caught terms says. -/
namespace Go.Proofs.Ytcgolbkpfncgpaa
open Go.RowKit

theorem ss_sbK {σ : SbD} {h : FH} {f : Fo} (hb : svB σ = true) (hv : vfB h f = true) : ssB σ h f = sbK σ h f := by
 have h6 := (vf_parts hv).2.2
 have hz := sbF_size σ h f
 unfold ssB sbK
 rw [hb, hv, Bool.true_and, Bool.true_and]
 unfold vfB
 have e : decide ((sbF σ h f).2.size + 1 ≤ 600) = true := decide_eq_true (by omega)
 rw [e, Bool.and_true]
theorem sb_cons (σ : SbD) (h : FH) (s r : Fo) : ((Fo.cons h s r).sb σ).okB = (sbK σ h s && (r.sb σ).okB) := rfl
/-- No quantifier and no atom: all parts. -/
theorem ss_parts {σ : SbD} {h : FH} {f : Fo} (hb : svB σ = true) (hv : vfB h f = true) (h2 : h.k ≠ 2) (hq : qB h.k = false) : ssB σ h f = (f.sb σ).okB := by
 rw [ss_sbK hb hv]
 exact sbK_else (vf_parts hv).1 h2 (by rw [hq]; simp) (by rw [hq]; simp)
/-- A quantifier. -/
theorem ss_quant {σ : SbD} {h h1 : FH} {s1 : Fo} (hb : svB σ = true) (hv : vfB h (.cons h1 s1 .nil) = true) (hq : qB h.k = true) :
  ssB σ h (.cons h1 s1 .nil) = (!fr1 h σ.v ((Fo.cons h1 s1 .nil).fr σ.v) || (ssB σ h1 s1 && !decide (sel σ.a σ.b σ.c σ.d h.v 0 ≠ 0))) := by
 obtain ⟨ho, hok, h6⟩ := vf_parts hv
 have hz : s1.size + 1 ≤ 600 := by simp only [Fo.size] at h6; omega
 have hv1 := (sub_valid hok hz).1
 have h2 : h.k ≠ 2 := by intro e; rw [e] at hq; exact absurd hq (by decide)
 rw [ss_sbK hb hv, ss_sbK hb hv1]
 cases hf : fr1 h σ.v ((Fo.cons h1 s1 .nil).fr σ.v) with
 | false => rw [sbK_not ho hok hf]; rfl
 | true =>
  have hn : ¬ (qB h.k = true ∧ h.v = σ.v) := by
   intro e
   rw [fr1_bound e.1 e.2] at hf
   exact absurd hf (by decide)
  by_cases hc : sel σ.a σ.b σ.c σ.d h.v 0 ≠ 0
  ·have e : sbF σ h (.cons h1 s1 .nil) = (badH, .nil) := by
    unfold sbF sbE
    rw [if_neg (by rw [hf]; decide), if_neg h2, if_pos ⟨hq, hc⟩]
   unfold sbK
   rw [e, badH_own, decide_eq_true hc]
   simp
  ·rw [sbK_else ho h2 hn (fun e => hc e.2), sb_cons, decide_eq_false hc]
   simp [Fo.sb, Fo.okB, sbK]

end Go.Proofs.Ytcgolbkpfncgpaa

/- The walk of the law on caught terms. -/
namespace Go.Proofs.Ytcgolbkpfncgpaa
open Go.RowKit

theorem below_drw {w w' : World} {B : Nat} (h : Below B w w') : Below B w w'.drew := ⟨h.os, h.tape, h.output, h.size, h.block⟩
theorem fl_mem (p : Int → Bool) (v : Int) (h0 : 0 ≤ v) (h4 : v < 4) : decide (v ∈ fl p 4) = p v := by
 obtain ⟨j, rfl⟩ := Int.eq_ofNat_of_zero_le h0
 have hj : j < 4 := by omega
 have e : ((j : Int) ∈ fl p 4) ↔ p j = true := by
  simp only [fl, List.mem_map, List.mem_filter, List.mem_range, Int.ofNat_eq_natCast]
  constructor
  ·rintro ⟨k, ⟨hk, h⟩, e⟩
   have : k = j := by omega
   subst this
   exact h
  ·intro h
   exact ⟨j, ⟨hj, h⟩, rfl⟩
 cases hp : p j with
 | true => exact decide_eq_true (e.2 hp)
 | false => exact decide_eq_false (fun h => by rw [e.1 h] at hp; exact absurd hp (by decide))

set_option maxHeartbeats 400000 in
theorem pbHas_c (v : Value) (K : Int) (L : List Int) (t : Bool) (w : World) (h1 : RdI w v L) (ht : decide (K ∈ L) = t) (hL : L.length ≤ 1000000) :
  Calls Try.prog 41 #[v, .int .i64 K] w fun e w' => e = .returned (.bool t) ∧ w = w' := by
 obtain ⟨sp, cap, rfl, hc⟩ := h1
 obtain ⟨N, hN⟩ : ∃ N, N = L.length := ⟨_, rfl⟩
 rw [← hN] at hL hc ⊢
 have HN := Lib.hid hN
 have HC := Lib.hid hc
 have HT := Lib.hid ht
 clear hN hc ht
 go_enter Try.func41, Try.ntmps41
 go_wp2
 go_loop [5] (fun i => ∃ k : Nat, i = .int .i64 k ∧ k ≤ N ∧ Hid (∀ j : Nat, j < k → L[j]? ≠ some K)) (fun i => N - (intOf i).toNat)
 case atStart => exact ⟨0, rfl, by omega, Lib.hid (fun j hj => absurd hj (by omega))⟩
 case round =>
  obtain ⟨k, rfl, hk, HK⟩ := hrel
  by_cases hlt : k < N
  ·have hk' : (k : Int) < (N : Int) := by omega
   obtain ⟨y, hy⟩ : ∃ y, L[k]? = some y := ⟨_, List.getElem?_eq_getElem (by rw [← HN.out]; exact hlt)⟩
   obtain ⟨b, rfl, _, hcell⟩ := HC.out.resolve_left (by omega)
   have c1 := hcell k y hy
   have HY := Lib.hid hy
   clear hcell hy
   by_cases hyK : y = K
   ·subst hyK
    go_wp2
    go_ret
    exact ⟨ret_bool (by rw [← HT.out]; exact (decide_eq_true (List.mem_of_getElem? HY.out)).symm), rfl⟩
   ·have e1 : (y == K) = false := by simpa using hyK
    have HK2 : Hid (∀ j : Nat, j < k + 1 → L[j]? ≠ some K) := Lib.hid (fun j hj => by
     by_cases hjk : j = k
     ·subst hjk; rw [HY.out]; simpa using hyK
     ·exact HK.out j (by omega))
    clear hyK
    go_wp2
    go_round
    case rel => exact ⟨k + 1, by go_num, by omega, HK2⟩
    case measure => simp [intOf]; omega
  ·have hk' : ¬ (k : Int) < (N : Int) := by omega
   obtain rfl : k = N := by omega
   go_wp2
   go_ret
   refine ⟨ret_bool ?_, rfl⟩
   rw [← HT.out]
   refine (decide_eq_false ?_).symm
   intro hm
   obtain ⟨j, hj⟩ := List.mem_iff_getElem?.1 hm
   exact HK.out j (by rw [HN.out]; exact (List.getElem?_eq_some_iff.1 hj).1) hj

theorem keepV {V w' : World} {x y : Nat} {h : FH} {s : Value} {a b c d n : Int} (hx : C10 V x h s) (hy : C5 V y a b c d n) (hB : Below V.heap.size V w') :
  w'.cell? ⟨x, 8, none⟩ = some (.int .i64 h.v) ∧ w'.cell? ⟨y, 0, none⟩ = some (.int .i64 a) ∧ w'.cell? ⟨y, 1, none⟩ = some (.int .i64 b) ∧ w'.cell? ⟨y, 2, none⟩ = some (.int .i64 c) ∧ w'.cell? ⟨y, 3, none⟩ = some (.int .i64 d) ∧ w'.cell? ⟨y, 4, none⟩ = some (.int .i64 n) :=
 ⟨(c10_on hx hB).2.2.2.2.2.2.2.2.2.1, (c5_on hy hB).2⟩

def CpR (σ : SbD) (t : Bool) (h : FH) (f : Fo) (b o lo : Nat) (W : World) (all i : Value) (wr : World) : Prop :=
 ∃ (k : Nat) (q : Bool) (r : Fo), i = .int .i64 k ∧ all = .bool q ∧ k + r.len = f.len ∧ r.okB = true ∧ r.size ≤ f.size ∧ (h.k ≠ 2 → (q && (r.sb σ).okB) = t) ∧ FEl W lo r b (o + k * 10) ∧ Below W.heap.size W wr

set_option maxRecDepth 10000 in
set_option maxHeartbeats 40000000 in
theorem capture_walk (sp : Option Addr) (n cap : Nat) (w : World) (hcode : Code w sp n cap) :
  Calls Try.prog 9 #[.slice sp n cap] w fun e w' => e = .returned (.bool true) ∧ Below w.heap.size w w' := by
 have hc1 := hcode.1
 have hc2 := hcode.2.1
 have H := Lib.hid hcode
 clear hcode
 by_cases hn : n ≤ 1048576
 ·have hn' : ¬ (1048576 : Int) < (n : Int) := by omega
  go_enter Try.func9, Try.ntmps9
  go_wp2_with fail
  refine (DrawSubstFormula_t sp n cap w H.out).mono ?_
  rintro e w1 ⟨h, f, s, v, a, b, c, d, m, rfl, hs, hsz, hb1⟩
  have HS := Lib.hid hs
  obtain ⟨sa, sn, sc, rfl⟩ := hs.slice
  clear hs
  go_upto_region 4 with fail
  generalize hW : World.alloc _ _ = W
  have hx : C10 W w1.heap.size h (.slice sa sn sc) := by subst hW; exact (by refine ⟨?_, ?_, ?_, ?_, ?_, ?_, ?_, ?_, ?_, ?_, ?_⟩ <;> first | (simp [go_sem]; done) | (simp; omega))
  have hy : C5 W (w1.heap.size + 1) a b c d m := by subst hW; exact (by refine ⟨?_, ?_, ?_, ?_, ?_, ?_⟩ <;> first | (simp [go_sem]; done) | (simp; omega))
  have hbW : Below w1.heap.size w1 W := by subst hW; go_grown
  have hw0 := below_on hb1 hbW
  have HSW := Lib.hid (FS.below hbW (Nat.le_refl _) HS.out)
  have HF := Lib.hid (fun V (hV : Below W.heap.size W V) => FS.below hV (Nat.le_refl _) HSW.out)
  clear hW hb1 hbW
  obtain ⟨x0, d0, d1, d2, d3, d4, d5, d6, d7, d8, d9⟩ := id hx
  obtain ⟨j0, j1, j2, j3, j4, j5⟩ := id hy
  have HIM := Lib.hid (fun V lo s hs => SubstFormula_any ⟨v, a, b, c, d, m⟩ h f V lo s hs)
  have HSP := Lib.hid (fun V lo s hs => specSubstFormula_any ⟨v, a, b, c, d, m⟩ h f V lo s (by omega) hs)
  obtain ⟨q, hq⟩ : ∃ q, okQ (ssB ⟨v, a, b, c, d, m⟩ h f) (sbF ⟨v, a, b, c, d, m⟩ h f).1 (sbF ⟨v, a, b, c, d, m⟩ h f).2 = q := ⟨_, rfl⟩
  obtain ⟨t, ht⟩ : ∃ t, ssB ⟨v, a, b, c, d, m⟩ h f = t := ⟨_, rfl⟩
  rw [hq, ht] at HIM HSP
  have HT := Lib.hid ht
  have hbb : (t != t) = false := by cases t <;> rfl
  have hbe : (t == t) = true := by cases t <;> rfl
  clear hq ht
  go_wp2_with fail
  refine (HIM.out W _ _ HSW.out).mono ?_
  rintro e w2 ⟨s2, rfl, hs2, hb2⟩
  obtain ⟨a2, n2, c2, rfl⟩ := hs2.slice
  clear hs2
  go_upto_region 5 with fail
  generalize hW2 : World.alloc _ _ = W2
  have hB2 : Below W.heap.size W W2 := below_on hb2 (by subst hW2; go_grown)
  clear hW2 hb2 x0 d0 d1 d2 d3 d4 d5 d6 d7 d8 d9 j0 j1 j2 j3 j4 j5
  obtain ⟨x0, d0, d1, d2, d3, d4, d5, d6, d7, d8, d9⟩ := c10_on hx hB2
  obtain ⟨j0, j1, j2, j3, j4, j5⟩ := c5_on hy hB2
  go_wp2_with fail
  refine (HSP.out W2 _ _ (HF.out _ hB2)).mono ?_
  rintro e w3 ⟨s3, rfl, hs3, hb3⟩
  obtain ⟨a3, n3, c3, rfl⟩ := hs3.slice
  clear hs3
  go_upto_region 6 with fail
  generalize hW3 : World.alloc _ _ = W3
  have hB3 : Below W.heap.size W W3 := below_on hB2 (below_on hb3 (by subst hW3; go_grown))
  clear hW3 hb3 hB2 x0 d0 d1 d2 d3 d4 d5 d6 d7 d8 d9 j0 j1 j2 j3 j4 j5
  have hx3 := c10_on hx hB3
  have hy3 := c5_on hy hB3
  obtain ⟨x0, d0, d1, d2, d3, d4, d5, d6, d7, d8, d9⟩ := id hx3
  obtain ⟨j0, j1, j2, j3, j4, j5⟩ := id hy3
  have HV := Lib.hid (FormulaValid_any h f W3 _ _ (HF.out _ hB3))
  cases hv : vfB h f with
  | false =>
   rw [hv] at HV
   go_wp2_with fail
   refine HV.out.mono ?_
   rintro e w5 ⟨rfl, hb5⟩
   go_wp2
   go_ret
   exact ⟨by simp, below_on hw0 (below_on hB3 hb5)⟩
  | true =>
   rw [hv] at HV
   go_wp2_with fail
   refine HV.out.mono ?_
   rintro e w5 ⟨rfl, hb5⟩
   have hB5 := below_on hB3 hb5
   clear x0 d0 d1 d2 d3 d4 d5 d6 d7 d8 d9 j0 j1 j2 j3 j4 j5
   obtain ⟨j0, j1, j2, j3, j4, j5⟩ := c5_on hy hB5
   cases htv : tvB a b c d m with
   | false =>
    go_wp2_with fail
    refine (TermValid_is a b c d m false _ htv).mono ?_
    rintro e w6 ⟨rfl, rfl⟩
    go_wp2
    go_ret
    exact ⟨by simp, below_on hw0 (below_on hB5 (by go_grown))⟩
   | true =>
    go_wp2_with fail
    refine (TermValid_is a b c d m true _ htv).mono ?_
    rintro e w6 ⟨rfl, hw6⟩
    have hB6 : Below W.heap.size W w6 := below_on hB5 (by subst hw6; go_grown)
    clear hw6 j0 j1 j2 j3 j4 j5
    have hx6 := c10_on hx hB6
    have hy6 := c5_on hy hB6
    by_cases hv0 : v < 0
    ·go_wp2
     go_ret
     exact ⟨by simp, below_on hw0 hB6⟩
    ·by_cases hv4 : 4 ≤ v
     ·go_wp2
      go_ret
      exact ⟨by simp, below_on hw0 hB6⟩
     ·obtain ⟨x0, d0, d1, d2, d3, d4, d5, d6, d7, d8, d9⟩ := id hx6
      obtain ⟨j0, j1, j2, j3, j4, j5⟩ := id hy6
      have hsv : svB ⟨v, a, b, c, d, m⟩ = true := by
       unfold svB varB
       rw [htv, decide_eq_true (show 0 ≤ v ∧ v < 4 by omega)]
       rfl
      have hxl := hx6.1
      have hyl := hy6.1
      have hx0l := hx.1
      have hy0l := hy.1
      have HSV := Lib.hid hsv
      have HVF := Lib.hid hv
      clear hsv HIM HSP HV hx3 hy3 hB3 hB5 hb5
      by_cases hqk : qB h.k = true
      ·have hk67 : h.k = 6 ∨ h.k = 7 := by simpa [qB] using hqk
       obtain ⟨ho, hok, h600⟩ := vf_parts hv
       obtain ⟨_, h1, s1, _, _, hf, _⟩ := bound_node ho hqk
       subst hf
       have hvv := own_var ho hk67
       have hz1 : s1.size + 1 ≤ 600 := by simp only [Fo.size] at h600; omega
       have hv1 := (sub_valid hok hz1).1
       have hQ := ss_quant HSV.out HVF.out hqk
       rw [HT.out] at hQ
       obtain ⟨fr, hfr⟩ : ∃ fr, fr1 h v ((Fo.cons h1 s1 .nil).fr v) = fr := ⟨_, rfl⟩
       obtain ⟨t1, ht1⟩ : ∃ t1, ssB ⟨v, a, b, c, d, m⟩ h1 s1 = t1 := ⟨_, rfl⟩
       obtain ⟨dc, hdc⟩ : ∃ dc, decide (sel a b c d h.v 0 ≠ 0) = dc := ⟨_, rfl⟩
       dsimp only at hQ
       rw [hfr, ht1, hdc] at hQ
       have HQ := Lib.hid hQ
       have HDC := Lib.hid (show decide (h.v ∈ vl a b c d 4) = dc by
        rw [← hdc]
        obtain ⟨j, hj⟩ := Int.eq_ofNat_of_zero_le hvv.1
        rw [hj]
        exact vl_mem a b c d j (by omega))
       have HFR := Lib.hid (show decide (v ∈ fvL h (.cons h1 s1 .nil)) = fr by
        unfold fvL
        rw [if_pos HVF.out, fl_mem _ v (by omega) (by omega)]
        exact hfr)
       have HFL := Lib.hid (show (fvL h (.cons h1 s1 .nil)).length ≤ 1000000 by
        unfold fvL
        rw [if_pos HVF.out]
        have := fl_len (fun v => fr1 h v ((Fo.cons h1 s1 .nil).fr v)) 4
        omega)
       rcases HSW.out with ⟨h0, yy, cp, e, _, _⟩ | ⟨h0, bb, oo, cp, e, hcp1, hcp2, hlo, hb, hel⟩
       ·simp [Fo.len] at h0
       injection e with e1 e2 e3
       subst e1 e2 e3
       unfold maxLen at hcp2
       obtain ⟨⟨sl, hrow, hsl⟩, _⟩ := FEl.below hB6 (Nat.le_refl _) hlo hb hel
       obtain ⟨la, ln, lc, rfl⟩ := FS.slice (show FS w6 w.heap.size s1 sl from hsl)
       have HC := Lib.hid (fun V (hV : Below w6.heap.size w6 V) => SubstFormula_any ⟨v, a, b, c, d, m⟩ h1 s1 V w.heap.size _ (FS.below hV (Nat.le_refl _) (show FS w6 w.heap.size s1 _ from hsl)))
       obtain ⟨q4, hq4⟩ : ∃ q4, okQ (ssB ⟨v, a, b, c, d, m⟩ h1 s1) (sbF ⟨v, a, b, c, d, m⟩ h1 s1).1 (sbF ⟨v, a, b, c, d, m⟩ h1 s1).2 = q4 := ⟨_, rfl⟩
       rw [hq4, ht1] at HC
       have HSE := Lib.hid (show w6.cell? ⟨w1.heap.size, 9, none⟩ = some (.slice (some ⟨bb, oo, none⟩) 1 sc) ∧ FRow w6 bb oo h1 (.slice la ln lc) from ⟨d9, hrow⟩)
       have HY := Lib.hid hy6
       have HB := Lib.hid hB6
       have hsr := hB6.size
       clear hv ho hok h600 hz1 hv1 hQ hfr ht1 hdc hq4 hel hsl hrow hqk hx6 hy6 hB6
       go_upto_region 8 with fail
       go_cut [71] (fun q V => q = .bool false ∧ w6 = V)
       case first =>
        rcases hk67 with hk | hk
        ·have e6 : (h.k != 6) = false := by rw [hk]; rfl
         go_wp2_with fail
         go_meet
         exact ⟨rfl, rfl⟩
        ·have e6 : (h.k != 6) = true := by rw [hk]; rfl
         have e7 : (h.k != 7) = false := by rw [hk]; rfl
         go_wp2_with fail
         go_meet
         exact ⟨rfl, rfl⟩
       case rest =>
        obtain ⟨rfl, rfl⟩ := hcut
        clear hk67
        go_upto_region 16 with fail
        go_cut [14, 15] (fun _ b V => b = .bool t1 ∧ Below w6.heap.size w6 V)
        case first =>
         refine wp_region_held_drew (S := (fun w' => w'.cell? ⟨w1.heap.size, 9, none⟩ = some (.slice (some ⟨bb, oo, none⟩) 1 sc) ∧ (w'.cell? ⟨bb, oo, none⟩ = some (.int .i64 h1.k) ∧ w'.cell? ⟨bb, oo + 1, none⟩ = some (.int .i64 h1.ak) ∧ w'.cell? ⟨bb, oo + 2, none⟩ = some (.int .i64 h1.am) ∧ w'.cell? ⟨bb, oo + 3, none⟩ = some (.int .i64 h1.a) ∧ w'.cell? ⟨bb, oo + 4, none⟩ = some (.int .i64 h1.b) ∧ w'.cell? ⟨bb, oo + 5, none⟩ = some (.int .i64 h1.c) ∧ w'.cell? ⟨bb, oo + 6, none⟩ = some (.int .i64 h1.d) ∧ w'.cell? ⟨bb, oo + 7, none⟩ = some (.int .i64 h1.n) ∧ w'.cell? ⟨bb, oo + 8, none⟩ = some (.int .i64 h1.v) ∧ w'.cell? ⟨bb, oo + 9, none⟩ = some (.slice la ln lc)) ∧ w'.cell? ⟨w1.heap.size + 1, 0, none⟩ = some (.int .i64 a) ∧ w'.cell? ⟨w1.heap.size + 1, 1, none⟩ = some (.int .i64 b) ∧ w'.cell? ⟨w1.heap.size + 1, 2, none⟩ = some (.int .i64 c) ∧ w'.cell? ⟨w1.heap.size + 1, 3, none⟩ = some (.int .i64 d) ∧ w'.cell? ⟨w1.heap.size + 1, 4, none⟩ = some (.int .i64 m))) (by kernel_rfl) ?_ (fun hHeld => ?_)
         ·try dsimp only
          exact keepB HSE.out HY.out (show w1.heap.size < w6.heap.size by omega) (show bb < w6.heap.size by omega) (show w1.heap.size + 1 < w6.heap.size by omega) (by go_grown)
         refine wpAnyH_take (i := 0) (oi := ⟨some 103, .fieldAddr 56 (.tmp 3) 3, 0, "laws.go:914", #[], none⟩) (v := ?_) rfl (by kernel_rfl) (by kernel_rfl) (by kernel_rfl) (fun _ _ _ h => h) (Or.inl ⟨by rfl, ?_⟩) (by assumption) ?_
         rotate_left
         ·(intro w hSw; (try dsimp only at hSw); first | (go_simp; done) | (go_simp; with_reducible rfl))
         try simp only [Act.put, List.setIfInBounds_toArray, List.set_cons_zero, List.set_cons_succ]
         refine wpAnyH_take (i := 1) (oi := ⟨some 104, .load 54 (.tmp 103), 54, "laws.go:914", #[⟨0, .data⟩], none⟩) (v := ?_) rfl (by kernel_rfl) (by kernel_rfl) (by kernel_rfl) (fun _ _ _ h => h) (Or.inl ⟨by rfl, ?_⟩) (by assumption) ?_
         rotate_left
         ·(intro w hSw; (try dsimp only at hSw); first | (go_simp; done) | (go_simp; with_reducible rfl))
         try simp only [Act.put, List.setIfInBounds_toArray, List.set_cons_zero, List.set_cons_succ]
         refine wpAnyH_take (i := 2) (oi := ⟨some 105, .indexAddr 54 (.tmp 104) (.const (Go.Value.int Go.IntKind.i64 0)), 0, "laws.go:914", #[⟨1, .data⟩], none⟩) (v := ?_) rfl (by kernel_rfl) (by kernel_rfl) (by kernel_rfl) (fun _ _ _ h => h) (Or.inl ⟨by rfl, ?_⟩) (by assumption) ?_
         rotate_left
         ·(intro w hSw; (try dsimp only at hSw); first | (go_simp; done) | (go_simp; with_reducible rfl))
         try simp only [Act.put, List.setIfInBounds_toArray, List.set_cons_zero, List.set_cons_succ]
         refine wpAnyH_take (i := 3) (oi := ⟨some 106, .load 56 (.tmp 105), 56, "laws.go:914", #[⟨2, .data⟩], none⟩) (v := ?_) rfl (by kernel_rfl) (by kernel_rfl) (by kernel_rfl) (fun _ _ _ h => h) (Or.inl ⟨by rfl, ?_⟩) (by assumption) ?_
         rotate_left
         ·(intro w hSw; (try dsimp only at hSw); first | (go_simp; done) | (go_simp; with_reducible rfl))
         try simp only [Act.put, List.setIfInBounds_toArray, List.set_cons_zero, List.set_cons_succ]
         refine wpAnyH_take (i := 4) (oi := ⟨some 107, .move (.tmp 4), 3, "laws.go:914", #[], none⟩) (v := ?_) rfl (by kernel_rfl) (by kernel_rfl) (by kernel_rfl) (fun _ _ _ h => h) (Or.inl ⟨by rfl, ?_⟩) (by assumption) ?_
         rotate_left
         ·(intro w hSw; (try dsimp only at hSw); first | (go_simp; done) | (go_simp; with_reducible rfl))
         try simp only [Act.put, List.setIfInBounds_toArray, List.set_cons_zero, List.set_cons_succ]
         refine wpAnyH_take (i := 5) (oi := ⟨some 108, .load 24 (.tmp 5), 24, "laws.go:914", #[], none⟩) (v := ?_) rfl (by kernel_rfl) (by kernel_rfl) (by kernel_rfl) (fun _ _ _ h => h) (Or.inl ⟨by rfl, ?_⟩) (by assumption) ?_
         rotate_left
         ·(intro w hSw; (try dsimp only at hSw); first | (go_simp; done) | (go_simp; with_reducible rfl))
         try simp only [Act.put, List.setIfInBounds_toArray, List.set_cons_zero, List.set_cons_succ]
         refine wpAnyH_ready (rs := [6, 10]) (by kernel_rfl) (by simp) ?_
         refine AllReadyH.cons (o := ⟨some 109, .call { callee := Go.Callee.value (.func 27), args := #[.tmp 106, .tmp 107, .tmp 108], argTypes := #[56, 3, 24] }, 57, "laws.go:914", #[⟨3, .data⟩, ⟨4, .data⟩, ⟨5, .data⟩], none⟩) rfl (fun K hK => ?_) (AllReadyH.cons (o := ⟨some 14, .alloc 56, 0, "laws.go:914", #[], none⟩) rfl (fun K hK => ?_) AllReadyH.nil)
         ·
          go_simp
          (go_at_call 27; refine (HC.out _ (by go_grown)).mono ?_; rintro e w4 ⟨s4, rfl, hs4, hb4⟩; obtain ⟨ga, gn, gc, rfl⟩ := hs4.slice; have hbb4 := below_on (w := w6) (by go_grown) hb4; have hsb4 : w6.heap.size ≤ w4.heap.size := hbb4.size; clear hs4)
          (try go_wp2_with fail)
          refine hK.out _ _ ?_ (fun hHeld => ?_)
          ·try dsimp only
           exact keepB HSE.out HY.out (show w1.heap.size < w6.heap.size by omega) (show bb < w6.heap.size by omega) (show w1.heap.size + 1 < w6.heap.size by omega) (by go_grown)
          clear hK K
          try simp only [Act.put, List.setIfInBounds_toArray, List.set_cons_zero, List.set_cons_succ]
          refine wpAnyH_take (i := 7) (oi := ⟨some 102, .move (.tmp 109), 57, "laws.go:914", #[⟨6, .data⟩], none⟩) (v := ?_) rfl (by kernel_rfl) (by kernel_rfl) (by kernel_rfl) (fun _ _ _ h => h) (Or.inl ⟨by rfl, ?_⟩) (by assumption) ?_
          rotate_left
          ·(intro w hSw; (try dsimp only at hSw); first | (go_simp; done) | (go_simp; with_reducible rfl))
          try simp only [Act.put, List.setIfInBounds_toArray, List.set_cons_zero, List.set_cons_succ]
          refine wpAnyH_take (i := 8) (oi := ⟨some 110, .extract (.tmp 102) 0, 56, "laws.go:914", #[⟨7, .data⟩], none⟩) (v := ?_) rfl (by kernel_rfl) (by kernel_rfl) (by kernel_rfl) (fun _ _ _ h => h) (Or.inl ⟨by rfl, ?_⟩) (by assumption) ?_
          rotate_left
          ·(intro w hSw; (try dsimp only at hSw); first | (go_simp; done) | (go_simp; with_reducible rfl))
          try simp only [Act.put, List.setIfInBounds_toArray, List.set_cons_zero, List.set_cons_succ]
          refine wpAnyH_take (i := 9) (oi := ⟨some 111, .extract (.tmp 102) 1, 4, "laws.go:914", #[⟨7, .data⟩, ⟨11, .gcOnly Go.Departure.lateStores⟩], none⟩) (v := ?_) rfl (by kernel_rfl) (by kernel_rfl) (by kernel_rfl) (fun _ _ _ h => h) (Or.inl ⟨by rfl, ?_⟩) (by assumption) ?_
          rotate_left
          ·(intro w hSw; (try dsimp only at hSw); first | (go_simp; done) | (go_simp; with_reducible rfl))
          try simp only [Act.put, List.setIfInBounds_toArray, List.set_cons_zero, List.set_cons_succ]
          refine wpAnyH_ready (rs := [10]) (by kernel_rfl) (by simp) ?_
          refine AllReadyH.cons (o := ⟨some 14, .alloc 56, 0, "laws.go:914", #[], none⟩) rfl (fun K hK => ?_) AllReadyH.nil
          go_simp
          refine hK.out _ _ ?_ (fun hHeld => ?_)
          ·try dsimp only
           exact keepB HSE.out HY.out (show w1.heap.size < w6.heap.size by omega) (show bb < w6.heap.size by omega) (show w1.heap.size + 1 < w6.heap.size by omega) (by go_grown)
          clear hK K
          try simp only [Act.put, List.setIfInBounds_toArray, List.set_cons_zero, List.set_cons_succ]
          refine wpAnyH_ready (rs := [11]) (by kernel_rfl) (by simp) ?_
          refine AllReadyH.cons (o := ⟨none, .store 56 (.tmp 14) (.tmp 110), 0, "laws.go:914", #[⟨10, .data⟩, ⟨8, .data⟩, ⟨6, .chain⟩, ⟨0, .phase⟩, ⟨1, .phase⟩, ⟨2, .phase⟩, ⟨3, .phase⟩, ⟨4, .phase⟩, ⟨5, .phase⟩, ⟨6, .phase⟩, ⟨7, .phase⟩, ⟨8, .phase⟩, ⟨9, .textOnly Go.Departure.lateStores⟩, ⟨10, .phase⟩], none⟩) rfl (fun K hK => ?_) AllReadyH.nil
          go_simp
          refine hK.out _ _ ?_ (fun hHeld => ?_)
          ·try dsimp only
           exact keepB HSE.out HY.out (show w1.heap.size < w6.heap.size by omega) (show bb < w6.heap.size by omega) (show w1.heap.size + 1 < w6.heap.size by omega) (by go_grown)
          clear hK K
          try simp only [Act.put, List.setIfInBounds_toArray, List.set_cons_zero, List.set_cons_succ]
          refine wpAnyH_take (i := 12) (oi := ⟨some 15, .assign (.tmp 111), 4, "laws.go:914", #[⟨9, .data⟩, ⟨11, .chain⟩, ⟨0, .phase⟩, ⟨1, .phase⟩, ⟨2, .phase⟩, ⟨3, .phase⟩, ⟨4, .phase⟩, ⟨5, .phase⟩, ⟨6, .phase⟩, ⟨7, .phase⟩, ⟨8, .phase⟩, ⟨9, .phase⟩, ⟨10, .phase⟩, ⟨11, .phase⟩], none⟩) (v := ?_) rfl (by kernel_rfl) (by kernel_rfl) (by kernel_rfl) (fun _ _ _ h => h) (Or.inl ⟨by rfl, ?_⟩) (by assumption) ?_
          rotate_left
          ·(intro w hSw; (try dsimp only at hSw); first | (go_simp; done) | (go_simp; with_reducible rfl))
          try simp only [Act.put, List.setIfInBounds_toArray, List.set_cons_zero, List.set_cons_succ]
          refine wpAnyH_done (by kernel_rfl) ?_ _
          ((generalize hX : World.alloc _ _ = wX; have hbX : Below w6.heap.size w6 wX := below_on hbb4 (by subst hX; go_grown); clear hX); go_wp2_with fail; go_meet; exact ⟨rfl, hbX⟩)
          skip
         ·
          go_simp
          refine hK.out _ _ ?_ (fun hHeld => ?_)
          ·try dsimp only
           exact keepB HSE.out HY.out (show w1.heap.size < w6.heap.size by omega) (show bb < w6.heap.size by omega) (show w1.heap.size + 1 < w6.heap.size by omega) (by go_grown)
          clear hK K
          try simp only [Act.put, List.setIfInBounds_toArray, List.set_cons_zero, List.set_cons_succ]
          refine wpAnyH_ready (rs := [6]) (by kernel_rfl) (by simp) ?_
          refine AllReadyH.cons (o := ⟨some 109, .call { callee := Go.Callee.value (.func 27), args := #[.tmp 106, .tmp 107, .tmp 108], argTypes := #[56, 3, 24] }, 57, "laws.go:914", #[⟨3, .data⟩, ⟨4, .data⟩, ⟨5, .data⟩], none⟩) rfl (fun K hK => ?_) AllReadyH.nil
          go_simp
          (go_at_call 27; refine (HC.out _ (by go_grown)).mono ?_; rintro e w4 ⟨s4, rfl, hs4, hb4⟩; obtain ⟨ga, gn, gc, rfl⟩ := hs4.slice; have hbb4 := below_on (w := w6) (by go_grown) hb4; have hsb4 : w6.heap.size ≤ w4.heap.size := hbb4.size; clear hs4; have hb41 : w6.heap.size + 1 ≤ w4.heap.size := (by have := hb4.size; simpa using this); have hbz4 : C10 w4 w6.heap.size ⟨0, 0, 0, 0, 0, 0, 0, 0, 0⟩ (.slice none 0 0) := (c10_on (h := ⟨0, 0, 0, 0, 0, 0, 0, 0, 0⟩) (s := .slice none 0 0) (by refine ⟨?_, ?_, ?_, ?_, ?_, ?_, ?_, ?_, ?_, ?_, ?_⟩ <;> first | (simp [go_sem]; done) | (simp; omega)) hb4); have fbz4 : ∀ o, w4.frozen? ⟨w6.heap.size, o, none⟩ = false := (fun o => ((bcell hb4).2 _ o (by simp)).trans (by simp [go_sem])); obtain ⟨b0, b1, b2, b3, b4, b5, b6, b7, b8, b9, b10⟩ := id hbz4)
          (try go_wp2_with fail)
          refine hK.out _ _ ?_ (fun hHeld => ?_)
          ·try dsimp only
           exact keepB HSE.out HY.out (show w1.heap.size < w6.heap.size by omega) (show bb < w6.heap.size by omega) (show w1.heap.size + 1 < w6.heap.size by omega) (by go_grown)
          clear hK K
          try simp only [Act.put, List.setIfInBounds_toArray, List.set_cons_zero, List.set_cons_succ]
          refine wpAnyH_take (i := 7) (oi := ⟨some 102, .move (.tmp 109), 57, "laws.go:914", #[⟨6, .data⟩], none⟩) (v := ?_) rfl (by kernel_rfl) (by kernel_rfl) (by kernel_rfl) (fun _ _ _ h => h) (Or.inl ⟨by rfl, ?_⟩) (by assumption) ?_
          rotate_left
          ·(intro w hSw; (try dsimp only at hSw); first | (go_simp; done) | (go_simp; with_reducible rfl))
          try simp only [Act.put, List.setIfInBounds_toArray, List.set_cons_zero, List.set_cons_succ]
          refine wpAnyH_take (i := 8) (oi := ⟨some 110, .extract (.tmp 102) 0, 56, "laws.go:914", #[⟨7, .data⟩], none⟩) (v := ?_) rfl (by kernel_rfl) (by kernel_rfl) (by kernel_rfl) (fun _ _ _ h => h) (Or.inl ⟨by rfl, ?_⟩) (by assumption) ?_
          rotate_left
          ·(intro w hSw; (try dsimp only at hSw); first | (go_simp; done) | (go_simp; with_reducible rfl))
          try simp only [Act.put, List.setIfInBounds_toArray, List.set_cons_zero, List.set_cons_succ]
          refine wpAnyH_take (i := 9) (oi := ⟨some 111, .extract (.tmp 102) 1, 4, "laws.go:914", #[⟨7, .data⟩, ⟨11, .gcOnly Go.Departure.lateStores⟩], none⟩) (v := ?_) rfl (by kernel_rfl) (by kernel_rfl) (by kernel_rfl) (fun _ _ _ h => h) (Or.inl ⟨by rfl, ?_⟩) (by assumption) ?_
          rotate_left
          ·(intro w hSw; (try dsimp only at hSw); first | (go_simp; done) | (go_simp; with_reducible rfl))
          try simp only [Act.put, List.setIfInBounds_toArray, List.set_cons_zero, List.set_cons_succ]
          refine wpAnyH_ready (rs := [11]) (by kernel_rfl) (by simp) ?_
          refine AllReadyH.cons (o := ⟨none, .store 56 (.tmp 14) (.tmp 110), 0, "laws.go:914", #[⟨10, .data⟩, ⟨8, .data⟩, ⟨6, .chain⟩, ⟨0, .phase⟩, ⟨1, .phase⟩, ⟨2, .phase⟩, ⟨3, .phase⟩, ⟨4, .phase⟩, ⟨5, .phase⟩, ⟨6, .phase⟩, ⟨7, .phase⟩, ⟨8, .phase⟩, ⟨9, .textOnly Go.Departure.lateStores⟩, ⟨10, .phase⟩], none⟩) rfl (fun K hK => ?_) AllReadyH.nil
          go_simp
          refine hK.out _ _ ?_ (fun hHeld => ?_)
          ·try dsimp only
           exact keepB HSE.out HY.out (show w1.heap.size < w6.heap.size by omega) (show bb < w6.heap.size by omega) (show w1.heap.size + 1 < w6.heap.size by omega) (by go_grown)
          clear hK K
          try simp only [Act.put, List.setIfInBounds_toArray, List.set_cons_zero, List.set_cons_succ]
          refine wpAnyH_take (i := 12) (oi := ⟨some 15, .assign (.tmp 111), 4, "laws.go:914", #[⟨9, .data⟩, ⟨11, .chain⟩, ⟨0, .phase⟩, ⟨1, .phase⟩, ⟨2, .phase⟩, ⟨3, .phase⟩, ⟨4, .phase⟩, ⟨5, .phase⟩, ⟨6, .phase⟩, ⟨7, .phase⟩, ⟨8, .phase⟩, ⟨9, .phase⟩, ⟨10, .phase⟩, ⟨11, .phase⟩], none⟩) (v := ?_) rfl (by kernel_rfl) (by kernel_rfl) (by kernel_rfl) (fun _ _ _ h => h) (Or.inl ⟨by rfl, ?_⟩) (by assumption) ?_
          rotate_left
          ·(intro w hSw; (try dsimp only at hSw); first | (go_simp; done) | (go_simp; with_reducible rfl))
          try simp only [Act.put, List.setIfInBounds_toArray, List.set_cons_zero, List.set_cons_succ]
          refine wpAnyH_done (by kernel_rfl) ?_ _
          ((generalize hX : World.setCell _ _ _ = wX; have hbX : Below w6.heap.size w6 wX := hbb4.trans ((put10b (g := q4.1) hbz4 hX).2 w6.heap.size (Nat.le_refl _)); clear hX hbz4 fbz4 b0 b1 b2 b3 b4 b5 b6 b7 b8 b9 b10); go_wp2_with fail; go_meet; exact ⟨rfl, hbX⟩)
          skip
        case rest =>
         rename World => wX
         obtain ⟨rfl, hbX⟩ := hcut
         have HBX := Lib.hid (below_on HB.out hbX)
         have hxX := c10_on hx HBX.out
         have hyX := c5_on hy HBX.out
         clear x0 d0 d1 d2 d3 d4 d5 d6 d7 d8 d9 j0 j1 j2 j3 j4 j5 hbX
         obtain ⟨x0, d0, d1, d2, d3, d4, d5, d6, d7, d8, d9⟩ := id hxX
         go_wp2_with fail
         refine (FreeVars_any h (.cons h1 s1 .nil) wX _ _ (HF.out _ HBX.out)).mono ?_
         rintro e w7 ⟨v7, rfl, ho7, hb7⟩
         have HB7 := Lib.hid (below_on HBX.out hb7)
         have hx7 := c10_on hx HB7.out
         have hy7 := c5_on hy HB7.out
         go_wp2_with fail
         refine (pbHas_c _ _ _ fr _ (own_reads ho7) HFR.out HFL.out).mono ?_
         rintro e w8 ⟨rfl, rfl⟩
         clear hb7 ho7 x0 d0 d1 d2 d3 d4 d5 d6 d7 d8 d9 hxX hyX
         cases fr with
         | false =>
          obtain rfl : t = true := by simpa using HQ.out
          go_upto_region 18 with fail
          refine wp_region_held_drew (S := (fun _ => True)) (by kernel_rfl) ?_ (fun hHeld => ?_)
          ·try dsimp only
           try trivial
          refine wpAnyH_take (i := 0) (oi := ⟨some 116, .move (.tmp 7), 4, "laws.go:916", #[], none⟩) (v := ?_) rfl (by kernel_rfl) (by kernel_rfl) (by kernel_rfl) (fun _ _ _ h => h) (Or.inl ⟨by rfl, ?_⟩) (by assumption) ?_
          rotate_left
          ·(intro w hSw; (try dsimp only at hSw); first | (go_simp; done) | (go_simp; with_reducible rfl))
          try simp only [Act.put, List.setIfInBounds_toArray, List.set_cons_zero, List.set_cons_succ]
          refine wpAnyH_take (i := 1) (oi := ⟨some 117, .move (.tmp 16), 4, "laws.go:916", #[], none⟩) (v := ?_) rfl (by kernel_rfl) (by kernel_rfl) (by kernel_rfl) (fun _ _ _ h => h) (Or.inl ⟨by rfl, ?_⟩) (by assumption) ?_
          rotate_left
          ·(intro w hSw; (try dsimp only at hSw); first | (go_simp; done) | (go_simp; with_reducible rfl))
          try simp only [Act.put, List.setIfInBounds_toArray, List.set_cons_zero, List.set_cons_succ]
          refine wpAnyH_take (i := 2) (oi := ⟨some 118, .unOp Go.UnOp.not 4 (.tmp 117), 4, "laws.go:916", #[⟨1, .data⟩], none⟩) (v := ?_) rfl (by kernel_rfl) (by kernel_rfl) (by kernel_rfl) (fun _ _ _ h => h) (Or.inl ⟨by rfl, ?_⟩) (by assumption) ?_
          rotate_left
          ·(intro w hSw; (try dsimp only at hSw); first | (go_simp; done) | (go_simp; with_reducible rfl))
          try simp only [Act.put, List.setIfInBounds_toArray, List.set_cons_zero, List.set_cons_succ]
          refine wpAnyH_take (i := 3) (oi := ⟨some 119, .move (.tmp 118), 4, "laws.go:916", #[⟨2, .data⟩], none⟩) (v := ?_) rfl (by kernel_rfl) (by kernel_rfl) (by kernel_rfl) (fun _ _ _ h => h) (Or.inl ⟨by rfl, ?_⟩) (by assumption) ?_
          rotate_left
          ·(intro w hSw; (try dsimp only at hSw); first | (go_simp; done) | (go_simp; with_reducible rfl))
          try simp only [Act.put, List.setIfInBounds_toArray, List.set_cons_zero, List.set_cons_succ]
          refine wpAnyH_take (i := 4) (oi := ⟨some 120, .move (.tmp 15), 4, "laws.go:916", #[⟨3, .guard⟩], some (3, false)⟩) (v := undef) rfl (by kernel_rfl) (by kernel_rfl) (by kernel_rfl) (fun _ _ _ h => h) (Or.inr ⟨by rfl, rfl⟩) (by assumption) ?_
          try simp only [Act.put, List.setIfInBounds_toArray, List.set_cons_zero, List.set_cons_succ]
          refine wpAnyH_take (i := 5) (oi := ⟨some 121, .move (.tmp 120), 4, "laws.go:916", #[⟨4, .data⟩, ⟨3, .chain⟩, ⟨3, .guard⟩], some (3, false)⟩) (v := undef) rfl (by kernel_rfl) (by kernel_rfl) (by kernel_rfl) (fun _ _ _ h => h) (Or.inr ⟨by rfl, rfl⟩) (by assumption) ?_
          try simp only [Act.put, List.setIfInBounds_toArray, List.set_cons_zero, List.set_cons_succ]
          refine wpAnyH_take (i := 6) (oi := ⟨some 122, .load 24 (.tmp 5), 24, "laws.go:916", #[⟨5, .guard⟩], some (5, true)⟩) (v := undef) rfl (by kernel_rfl) (by kernel_rfl) (by kernel_rfl) (fun _ _ _ h => h) (Or.inr ⟨by rfl, rfl⟩) (by assumption) ?_
          try simp only [Act.put, List.setIfInBounds_toArray, List.set_cons_zero, List.set_cons_succ]
          refine wpAnyH_take (i := 7) (oi := ⟨some 123, .call { callee := Go.Callee.value (.func 43), args := #[.tmp 122], argTypes := #[24] }, 74, "laws.go:916", #[⟨6, .data⟩, ⟨5, .chain⟩, ⟨5, .guard⟩], some (5, true)⟩) (v := undef) rfl (by kernel_rfl) (by kernel_rfl) (by kernel_rfl) (fun _ _ _ h => h) (Or.inr ⟨by rfl, rfl⟩) (by assumption) ?_
          try simp only [Act.put, List.setIfInBounds_toArray, List.set_cons_zero, List.set_cons_succ]
          refine wpAnyH_take (i := 8) (oi := ⟨some 124, .fieldAddr 56 (.tmp 3) 2, 0, "laws.go:916", #[⟨5, .guard⟩], some (5, true)⟩) (v := undef) rfl (by kernel_rfl) (by kernel_rfl) (by kernel_rfl) (fun _ _ _ h => h) (Or.inr ⟨by rfl, rfl⟩) (by assumption) ?_
          try simp only [Act.put, List.setIfInBounds_toArray, List.set_cons_zero, List.set_cons_succ]
          refine wpAnyH_take (i := 9) (oi := ⟨some 125, .load 3 (.tmp 124), 3, "laws.go:916", #[⟨8, .data⟩, ⟨5, .guard⟩], some (5, true)⟩) (v := undef) rfl (by kernel_rfl) (by kernel_rfl) (by kernel_rfl) (fun _ _ _ h => h) (Or.inr ⟨by rfl, rfl⟩) (by assumption) ?_
          try simp only [Act.put, List.setIfInBounds_toArray, List.set_cons_zero, List.set_cons_succ]
          refine wpAnyH_take (i := 10) (oi := ⟨some 126, .call { callee := Go.Callee.value (.func 41), args := #[.tmp 123, .tmp 125], argTypes := #[74, 3] }, 4, "laws.go:916", #[⟨7, .data⟩, ⟨9, .data⟩, ⟨7, .chain⟩, ⟨5, .guard⟩], some (5, true)⟩) (v := undef) rfl (by kernel_rfl) (by kernel_rfl) (by kernel_rfl) (fun _ _ _ h => h) (Or.inr ⟨by rfl, rfl⟩) (by assumption) ?_
          try simp only [Act.put, List.setIfInBounds_toArray, List.set_cons_zero, List.set_cons_succ]
          refine wpAnyH_take (i := 11) (oi := ⟨some 127, .unOp Go.UnOp.not 4 (.tmp 126), 4, "laws.go:916", #[⟨10, .data⟩, ⟨5, .guard⟩], some (5, true)⟩) (v := undef) rfl (by kernel_rfl) (by kernel_rfl) (by kernel_rfl) (fun _ _ _ h => h) (Or.inr ⟨by rfl, rfl⟩) (by assumption) ?_
          try simp only [Act.put, List.setIfInBounds_toArray, List.set_cons_zero, List.set_cons_succ]
          refine wpAnyH_take (i := 12) (oi := ⟨some 128, .pick (.tmp 121) (.tmp 127) (.const (Go.Value.bool false)), 4, "laws.go:916", #[⟨5, .data⟩, ⟨11, .data⟩, ⟨3, .guard⟩], some (3, false)⟩) (v := undef) rfl (by kernel_rfl) (by kernel_rfl) (by kernel_rfl) (fun _ _ _ h => h) (Or.inr ⟨by rfl, rfl⟩) (by assumption) ?_
          try simp only [Act.put, List.setIfInBounds_toArray, List.set_cons_zero, List.set_cons_succ]
          refine wpAnyH_take (i := 13) (oi := ⟨some 129, .pick (.tmp 119) (.const (Go.Value.bool true)) (.tmp 128), 4, "laws.go:916", #[⟨3, .data⟩, ⟨12, .data⟩], none⟩) (v := ?_) rfl (by kernel_rfl) (by kernel_rfl) (by kernel_rfl) (fun _ _ _ h => h) (Or.inl ⟨by rfl, ?_⟩) (by assumption) ?_
          rotate_left
          ·(intro w hSw; (try dsimp only at hSw); first | (go_simp; done) | (go_simp; with_reducible rfl))
          try simp only [Act.put, List.setIfInBounds_toArray, List.set_cons_zero, List.set_cons_succ]
          refine wpAnyH_take (i := 14) (oi := ⟨some 130, .binOp Go.BinOp.eql 4 (.tmp 116) (.tmp 129) 4, 4, "laws.go:916", #[⟨0, .data⟩, ⟨13, .data⟩], none⟩) (v := ?_) rfl (by kernel_rfl) (by kernel_rfl) (by kernel_rfl) (fun _ _ _ h => h) (Or.inl ⟨by rfl, ?_⟩) (by assumption) ?_
          rotate_left
          ·(intro w hSw; (try dsimp only at hSw); first | (go_simp; done) | (go_simp; with_reducible rfl))
          try simp only [Act.put, List.setIfInBounds_toArray, List.set_cons_zero, List.set_cons_succ]
          refine wpAnyH_take (i := 15) (oi := ⟨some 2, .assign (.tmp 130), 4, "laws.go:916", #[⟨14, .data⟩, ⟨10, .chain⟩, ⟨0, .phase⟩, ⟨1, .phase⟩, ⟨2, .phase⟩, ⟨3, .phase⟩, ⟨4, .phase⟩, ⟨5, .phase⟩, ⟨6, .phase⟩, ⟨7, .phase⟩, ⟨8, .phase⟩, ⟨9, .phase⟩, ⟨10, .phase⟩, ⟨11, .phase⟩, ⟨12, .phase⟩, ⟨13, .phase⟩, ⟨14, .phase⟩], none⟩) (v := ?_) rfl (by kernel_rfl) (by kernel_rfl) (by kernel_rfl) (fun _ _ _ h => h) (Or.inl ⟨by rfl, ?_⟩) (by assumption) ?_
          rotate_left
          ·(intro w hSw; (try dsimp only at hSw); first | (go_simp; done) | (go_simp; with_reducible rfl))
          try simp only [Act.put, List.setIfInBounds_toArray, List.set_cons_zero, List.set_cons_succ]
          refine wpAnyH_done (by kernel_rfl) ?_ _
          go_wp2
          go_ret
          exact ⟨by simp, below_on hw0 (below_drw HB7.out)⟩
         | true =>
          cases t1 with
          | false =>
           obtain rfl : t = false := by simpa using HQ.out
           go_upto_region 18 with fail
           refine wp_region_held_drew (S := (fun _ => True)) (by kernel_rfl) ?_ (fun hHeld => ?_)
           ·try dsimp only
            try trivial
           refine wpAnyH_take (i := 0) (oi := ⟨some 116, .move (.tmp 7), 4, "laws.go:916", #[], none⟩) (v := ?_) rfl (by kernel_rfl) (by kernel_rfl) (by kernel_rfl) (fun _ _ _ h => h) (Or.inl ⟨by rfl, ?_⟩) (by assumption) ?_
           rotate_left
           ·(intro w hSw; (try dsimp only at hSw); first | (go_simp; done) | (go_simp; with_reducible rfl))
           try simp only [Act.put, List.setIfInBounds_toArray, List.set_cons_zero, List.set_cons_succ]
           refine wpAnyH_take (i := 1) (oi := ⟨some 117, .move (.tmp 16), 4, "laws.go:916", #[], none⟩) (v := ?_) rfl (by kernel_rfl) (by kernel_rfl) (by kernel_rfl) (fun _ _ _ h => h) (Or.inl ⟨by rfl, ?_⟩) (by assumption) ?_
           rotate_left
           ·(intro w hSw; (try dsimp only at hSw); first | (go_simp; done) | (go_simp; with_reducible rfl))
           try simp only [Act.put, List.setIfInBounds_toArray, List.set_cons_zero, List.set_cons_succ]
           refine wpAnyH_take (i := 2) (oi := ⟨some 118, .unOp Go.UnOp.not 4 (.tmp 117), 4, "laws.go:916", #[⟨1, .data⟩], none⟩) (v := ?_) rfl (by kernel_rfl) (by kernel_rfl) (by kernel_rfl) (fun _ _ _ h => h) (Or.inl ⟨by rfl, ?_⟩) (by assumption) ?_
           rotate_left
           ·(intro w hSw; (try dsimp only at hSw); first | (go_simp; done) | (go_simp; with_reducible rfl))
           try simp only [Act.put, List.setIfInBounds_toArray, List.set_cons_zero, List.set_cons_succ]
           refine wpAnyH_take (i := 3) (oi := ⟨some 119, .move (.tmp 118), 4, "laws.go:916", #[⟨2, .data⟩], none⟩) (v := ?_) rfl (by kernel_rfl) (by kernel_rfl) (by kernel_rfl) (fun _ _ _ h => h) (Or.inl ⟨by rfl, ?_⟩) (by assumption) ?_
           rotate_left
           ·(intro w hSw; (try dsimp only at hSw); first | (go_simp; done) | (go_simp; with_reducible rfl))
           try simp only [Act.put, List.setIfInBounds_toArray, List.set_cons_zero, List.set_cons_succ]
           refine wpAnyH_take (i := 4) (oi := ⟨some 120, .move (.tmp 15), 4, "laws.go:916", #[⟨3, .guard⟩], some (3, false)⟩) (v := ?_) rfl (by kernel_rfl) (by kernel_rfl) (by kernel_rfl) (fun _ _ _ h => h) (Or.inl ⟨by rfl, ?_⟩) (by assumption) ?_
           rotate_left
           ·(intro w hSw; (try dsimp only at hSw); first | (go_simp; done) | (go_simp; with_reducible rfl))
           try simp only [Act.put, List.setIfInBounds_toArray, List.set_cons_zero, List.set_cons_succ]
           refine wpAnyH_take (i := 5) (oi := ⟨some 121, .move (.tmp 120), 4, "laws.go:916", #[⟨4, .data⟩, ⟨3, .chain⟩, ⟨3, .guard⟩], some (3, false)⟩) (v := ?_) rfl (by kernel_rfl) (by kernel_rfl) (by kernel_rfl) (fun _ _ _ h => h) (Or.inl ⟨by rfl, ?_⟩) (by assumption) ?_
           rotate_left
           ·(intro w hSw; (try dsimp only at hSw); first | (go_simp; done) | (go_simp; with_reducible rfl))
           try simp only [Act.put, List.setIfInBounds_toArray, List.set_cons_zero, List.set_cons_succ]
           refine wpAnyH_take (i := 6) (oi := ⟨some 122, .load 24 (.tmp 5), 24, "laws.go:916", #[⟨5, .guard⟩], some (5, true)⟩) (v := undef) rfl (by kernel_rfl) (by kernel_rfl) (by kernel_rfl) (fun _ _ _ h => h) (Or.inr ⟨by rfl, rfl⟩) (by assumption) ?_
           try simp only [Act.put, List.setIfInBounds_toArray, List.set_cons_zero, List.set_cons_succ]
           refine wpAnyH_take (i := 7) (oi := ⟨some 123, .call { callee := Go.Callee.value (.func 43), args := #[.tmp 122], argTypes := #[24] }, 74, "laws.go:916", #[⟨6, .data⟩, ⟨5, .chain⟩, ⟨5, .guard⟩], some (5, true)⟩) (v := undef) rfl (by kernel_rfl) (by kernel_rfl) (by kernel_rfl) (fun _ _ _ h => h) (Or.inr ⟨by rfl, rfl⟩) (by assumption) ?_
           try simp only [Act.put, List.setIfInBounds_toArray, List.set_cons_zero, List.set_cons_succ]
           refine wpAnyH_take (i := 8) (oi := ⟨some 124, .fieldAddr 56 (.tmp 3) 2, 0, "laws.go:916", #[⟨5, .guard⟩], some (5, true)⟩) (v := undef) rfl (by kernel_rfl) (by kernel_rfl) (by kernel_rfl) (fun _ _ _ h => h) (Or.inr ⟨by rfl, rfl⟩) (by assumption) ?_
           try simp only [Act.put, List.setIfInBounds_toArray, List.set_cons_zero, List.set_cons_succ]
           refine wpAnyH_take (i := 9) (oi := ⟨some 125, .load 3 (.tmp 124), 3, "laws.go:916", #[⟨8, .data⟩, ⟨5, .guard⟩], some (5, true)⟩) (v := undef) rfl (by kernel_rfl) (by kernel_rfl) (by kernel_rfl) (fun _ _ _ h => h) (Or.inr ⟨by rfl, rfl⟩) (by assumption) ?_
           try simp only [Act.put, List.setIfInBounds_toArray, List.set_cons_zero, List.set_cons_succ]
           refine wpAnyH_take (i := 10) (oi := ⟨some 126, .call { callee := Go.Callee.value (.func 41), args := #[.tmp 123, .tmp 125], argTypes := #[74, 3] }, 4, "laws.go:916", #[⟨7, .data⟩, ⟨9, .data⟩, ⟨7, .chain⟩, ⟨5, .guard⟩], some (5, true)⟩) (v := undef) rfl (by kernel_rfl) (by kernel_rfl) (by kernel_rfl) (fun _ _ _ h => h) (Or.inr ⟨by rfl, rfl⟩) (by assumption) ?_
           try simp only [Act.put, List.setIfInBounds_toArray, List.set_cons_zero, List.set_cons_succ]
           refine wpAnyH_take (i := 11) (oi := ⟨some 127, .unOp Go.UnOp.not 4 (.tmp 126), 4, "laws.go:916", #[⟨10, .data⟩, ⟨5, .guard⟩], some (5, true)⟩) (v := undef) rfl (by kernel_rfl) (by kernel_rfl) (by kernel_rfl) (fun _ _ _ h => h) (Or.inr ⟨by rfl, rfl⟩) (by assumption) ?_
           try simp only [Act.put, List.setIfInBounds_toArray, List.set_cons_zero, List.set_cons_succ]
           refine wpAnyH_take (i := 12) (oi := ⟨some 128, .pick (.tmp 121) (.tmp 127) (.const (Go.Value.bool false)), 4, "laws.go:916", #[⟨5, .data⟩, ⟨11, .data⟩, ⟨3, .guard⟩], some (3, false)⟩) (v := ?_) rfl (by kernel_rfl) (by kernel_rfl) (by kernel_rfl) (fun _ _ _ h => h) (Or.inl ⟨by rfl, ?_⟩) (by assumption) ?_
           rotate_left
           ·(intro w hSw; (try dsimp only at hSw); first | (go_simp; done) | (go_simp; with_reducible rfl))
           try simp only [Act.put, List.setIfInBounds_toArray, List.set_cons_zero, List.set_cons_succ]
           refine wpAnyH_take (i := 13) (oi := ⟨some 129, .pick (.tmp 119) (.const (Go.Value.bool true)) (.tmp 128), 4, "laws.go:916", #[⟨3, .data⟩, ⟨12, .data⟩], none⟩) (v := ?_) rfl (by kernel_rfl) (by kernel_rfl) (by kernel_rfl) (fun _ _ _ h => h) (Or.inl ⟨by rfl, ?_⟩) (by assumption) ?_
           rotate_left
           ·(intro w hSw; (try dsimp only at hSw); first | (go_simp; done) | (go_simp; with_reducible rfl))
           try simp only [Act.put, List.setIfInBounds_toArray, List.set_cons_zero, List.set_cons_succ]
           refine wpAnyH_take (i := 14) (oi := ⟨some 130, .binOp Go.BinOp.eql 4 (.tmp 116) (.tmp 129) 4, 4, "laws.go:916", #[⟨0, .data⟩, ⟨13, .data⟩], none⟩) (v := ?_) rfl (by kernel_rfl) (by kernel_rfl) (by kernel_rfl) (fun _ _ _ h => h) (Or.inl ⟨by rfl, ?_⟩) (by assumption) ?_
           rotate_left
           ·(intro w hSw; (try dsimp only at hSw); first | (go_simp; done) | (go_simp; with_reducible rfl))
           try simp only [Act.put, List.setIfInBounds_toArray, List.set_cons_zero, List.set_cons_succ]
           refine wpAnyH_take (i := 15) (oi := ⟨some 2, .assign (.tmp 130), 4, "laws.go:916", #[⟨14, .data⟩, ⟨10, .chain⟩, ⟨0, .phase⟩, ⟨1, .phase⟩, ⟨2, .phase⟩, ⟨3, .phase⟩, ⟨4, .phase⟩, ⟨5, .phase⟩, ⟨6, .phase⟩, ⟨7, .phase⟩, ⟨8, .phase⟩, ⟨9, .phase⟩, ⟨10, .phase⟩, ⟨11, .phase⟩, ⟨12, .phase⟩, ⟨13, .phase⟩, ⟨14, .phase⟩], none⟩) (v := ?_) rfl (by kernel_rfl) (by kernel_rfl) (by kernel_rfl) (fun _ _ _ h => h) (Or.inl ⟨by rfl, ?_⟩) (by assumption) ?_
           rotate_left
           ·(intro w hSw; (try dsimp only at hSw); first | (go_simp; done) | (go_simp; with_reducible rfl))
           try simp only [Act.put, List.setIfInBounds_toArray, List.set_cons_zero, List.set_cons_succ]
           refine wpAnyH_done (by kernel_rfl) ?_ _
           go_wp2
           go_ret
           exact ⟨by simp, below_on hw0 (below_drw HB7.out)⟩
          | true =>
           have hQ : t = !dc := by simpa using HQ.out
           subst hQ
           have HX7 := Lib.hid hx7
           have HY7 := Lib.hid hy7
           go_upto_region 18 with fail
           refine wp_region_held_drew (S := (fun w' => w'.cell? ⟨w1.heap.size, 8, none⟩ = some (.int .i64 h.v) ∧ w'.cell? ⟨w1.heap.size + 1, 0, none⟩ = some (.int .i64 a) ∧ w'.cell? ⟨w1.heap.size + 1, 1, none⟩ = some (.int .i64 b) ∧ w'.cell? ⟨w1.heap.size + 1, 2, none⟩ = some (.int .i64 c) ∧ w'.cell? ⟨w1.heap.size + 1, 3, none⟩ = some (.int .i64 d) ∧ w'.cell? ⟨w1.heap.size + 1, 4, none⟩ = some (.int .i64 m))) (by kernel_rfl) ?_ (fun hHeld => ?_)
           ·try dsimp only
            exact keepV HX7.out HY7.out (by go_grown)
           refine wpAnyH_take (i := 0) (oi := ⟨some 116, .move (.tmp 7), 4, "laws.go:916", #[], none⟩) (v := ?_) rfl (by kernel_rfl) (by kernel_rfl) (by kernel_rfl) (fun _ _ _ h => h) (Or.inl ⟨by rfl, ?_⟩) (by assumption) ?_
           rotate_left
           ·(intro w hSw; (try dsimp only at hSw); first | (go_simp; done) | (go_simp; with_reducible rfl))
           try simp only [Act.put, List.setIfInBounds_toArray, List.set_cons_zero, List.set_cons_succ]
           refine wpAnyH_take (i := 1) (oi := ⟨some 117, .move (.tmp 16), 4, "laws.go:916", #[], none⟩) (v := ?_) rfl (by kernel_rfl) (by kernel_rfl) (by kernel_rfl) (fun _ _ _ h => h) (Or.inl ⟨by rfl, ?_⟩) (by assumption) ?_
           rotate_left
           ·(intro w hSw; (try dsimp only at hSw); first | (go_simp; done) | (go_simp; with_reducible rfl))
           try simp only [Act.put, List.setIfInBounds_toArray, List.set_cons_zero, List.set_cons_succ]
           refine wpAnyH_take (i := 2) (oi := ⟨some 118, .unOp Go.UnOp.not 4 (.tmp 117), 4, "laws.go:916", #[⟨1, .data⟩], none⟩) (v := ?_) rfl (by kernel_rfl) (by kernel_rfl) (by kernel_rfl) (fun _ _ _ h => h) (Or.inl ⟨by rfl, ?_⟩) (by assumption) ?_
           rotate_left
           ·(intro w hSw; (try dsimp only at hSw); first | (go_simp; done) | (go_simp; with_reducible rfl))
           try simp only [Act.put, List.setIfInBounds_toArray, List.set_cons_zero, List.set_cons_succ]
           refine wpAnyH_take (i := 3) (oi := ⟨some 119, .move (.tmp 118), 4, "laws.go:916", #[⟨2, .data⟩], none⟩) (v := ?_) rfl (by kernel_rfl) (by kernel_rfl) (by kernel_rfl) (fun _ _ _ h => h) (Or.inl ⟨by rfl, ?_⟩) (by assumption) ?_
           rotate_left
           ·(intro w hSw; (try dsimp only at hSw); first | (go_simp; done) | (go_simp; with_reducible rfl))
           try simp only [Act.put, List.setIfInBounds_toArray, List.set_cons_zero, List.set_cons_succ]
           refine wpAnyH_take (i := 4) (oi := ⟨some 120, .move (.tmp 15), 4, "laws.go:916", #[⟨3, .guard⟩], some (3, false)⟩) (v := ?_) rfl (by kernel_rfl) (by kernel_rfl) (by kernel_rfl) (fun _ _ _ h => h) (Or.inl ⟨by rfl, ?_⟩) (by assumption) ?_
           rotate_left
           ·(intro w hSw; (try dsimp only at hSw); first | (go_simp; done) | (go_simp; with_reducible rfl))
           try simp only [Act.put, List.setIfInBounds_toArray, List.set_cons_zero, List.set_cons_succ]
           refine wpAnyH_take (i := 5) (oi := ⟨some 121, .move (.tmp 120), 4, "laws.go:916", #[⟨4, .data⟩, ⟨3, .chain⟩, ⟨3, .guard⟩], some (3, false)⟩) (v := ?_) rfl (by kernel_rfl) (by kernel_rfl) (by kernel_rfl) (fun _ _ _ h => h) (Or.inl ⟨by rfl, ?_⟩) (by assumption) ?_
           rotate_left
           ·(intro w hSw; (try dsimp only at hSw); first | (go_simp; done) | (go_simp; with_reducible rfl))
           try simp only [Act.put, List.setIfInBounds_toArray, List.set_cons_zero, List.set_cons_succ]
           refine wpAnyH_take (i := 6) (oi := ⟨some 122, .load 24 (.tmp 5), 24, "laws.go:916", #[⟨5, .guard⟩], some (5, true)⟩) (v := ?_) rfl (by kernel_rfl) (by kernel_rfl) (by kernel_rfl) (fun _ _ _ h => h) (Or.inl ⟨by rfl, ?_⟩) (by assumption) ?_
           rotate_left
           ·(intro w hSw; (try dsimp only at hSw); first | (go_simp; done) | (go_simp; with_reducible rfl))
           try simp only [Act.put, List.setIfInBounds_toArray, List.set_cons_zero, List.set_cons_succ]
           refine wpAnyH_take (i := 8) (oi := ⟨some 124, .fieldAddr 56 (.tmp 3) 2, 0, "laws.go:916", #[⟨5, .guard⟩], some (5, true)⟩) (v := ?_) rfl (by kernel_rfl) (by kernel_rfl) (by kernel_rfl) (fun _ _ _ h => h) (Or.inl ⟨by rfl, ?_⟩) (by assumption) ?_
           rotate_left
           ·(intro w hSw; (try dsimp only at hSw); first | (go_simp; done) | (go_simp; with_reducible rfl))
           try simp only [Act.put, List.setIfInBounds_toArray, List.set_cons_zero, List.set_cons_succ]
           refine wpAnyH_take (i := 9) (oi := ⟨some 125, .load 3 (.tmp 124), 3, "laws.go:916", #[⟨8, .data⟩, ⟨5, .guard⟩], some (5, true)⟩) (v := ?_) rfl (by kernel_rfl) (by kernel_rfl) (by kernel_rfl) (fun _ _ _ h => h) (Or.inl ⟨by rfl, ?_⟩) (by assumption) ?_
           rotate_left
           ·(intro w hSw; (try dsimp only at hSw); first | (go_simp; done) | (go_simp; with_reducible rfl))
           try simp only [Act.put, List.setIfInBounds_toArray, List.set_cons_zero, List.set_cons_succ]
           refine wpAnyH_ready (rs := [7]) (by kernel_rfl) (by simp) ?_
           refine AllReadyH.cons (o := ⟨some 123, .call { callee := Go.Callee.value (.func 43), args := #[.tmp 122], argTypes := #[24] }, 74, "laws.go:916", #[⟨6, .data⟩, ⟨5, .chain⟩, ⟨5, .guard⟩], some (5, true)⟩) rfl (fun K hK => ?_) AllReadyH.nil
           go_simp
           (go_at_call 43; refine (TermVars_t a b c d m _).mono ?_; rintro e w9 ⟨v9, rfl, ho9, hb9⟩; have hbb9 := below_on (w := w7) (by go_grown) hb9; have HO9 := Lib.hid (own_reads ho9); clear ho9)
           (try go_wp2_with fail)
           refine hK.out _ _ ?_ (fun hHeld => ?_)
           ·try dsimp only
            exact keepV HX7.out HY7.out (by go_grown)
           clear hK K
           try simp only [Act.put, List.setIfInBounds_toArray, List.set_cons_zero, List.set_cons_succ]
           refine wpAnyH_ready (rs := [10]) (by kernel_rfl) (by simp) ?_
           refine AllReadyH.cons (o := ⟨some 126, .call { callee := Go.Callee.value (.func 41), args := #[.tmp 123, .tmp 125], argTypes := #[74, 3] }, 4, "laws.go:916", #[⟨7, .data⟩, ⟨9, .data⟩, ⟨7, .chain⟩, ⟨5, .guard⟩], some (5, true)⟩) rfl (fun K hK => ?_) AllReadyH.nil
           go_simp
           (go_at_call 41; refine (pbHas_c _ _ _ dc _ HO9.out HDC.out (by have := vl_len a b c d 4; omega)).mono ?_; rintro e w10 ⟨rfl, rfl⟩)
           (try go_wp2_with fail)
           refine hK.out _ _ ?_ (fun hHeld => ?_)
           ·try dsimp only
            exact keepV HX7.out HY7.out (by go_grown)
           clear hK K
           try simp only [Act.put, List.setIfInBounds_toArray, List.set_cons_zero, List.set_cons_succ]
           refine wpAnyH_take (i := 11) (oi := ⟨some 127, .unOp Go.UnOp.not 4 (.tmp 126), 4, "laws.go:916", #[⟨10, .data⟩, ⟨5, .guard⟩], some (5, true)⟩) (v := ?_) rfl (by kernel_rfl) (by kernel_rfl) (by kernel_rfl) (fun _ _ _ h => h) (Or.inl ⟨by rfl, ?_⟩) (by assumption) ?_
           rotate_left
           ·(intro w hSw; (try dsimp only at hSw); first | (go_simp; done) | (go_simp; with_reducible rfl))
           try simp only [Act.put, List.setIfInBounds_toArray, List.set_cons_zero, List.set_cons_succ]
           refine wpAnyH_take (i := 12) (oi := ⟨some 128, .pick (.tmp 121) (.tmp 127) (.const (Go.Value.bool false)), 4, "laws.go:916", #[⟨5, .data⟩, ⟨11, .data⟩, ⟨3, .guard⟩], some (3, false)⟩) (v := ?_) rfl (by kernel_rfl) (by kernel_rfl) (by kernel_rfl) (fun _ _ _ h => h) (Or.inl ⟨by rfl, ?_⟩) (by assumption) ?_
           rotate_left
           ·(intro w hSw; (try dsimp only at hSw); first | (go_simp; done) | (go_simp; with_reducible rfl))
           try simp only [Act.put, List.setIfInBounds_toArray, List.set_cons_zero, List.set_cons_succ]
           refine wpAnyH_take (i := 13) (oi := ⟨some 129, .pick (.tmp 119) (.const (Go.Value.bool true)) (.tmp 128), 4, "laws.go:916", #[⟨3, .data⟩, ⟨12, .data⟩], none⟩) (v := ?_) rfl (by kernel_rfl) (by kernel_rfl) (by kernel_rfl) (fun _ _ _ h => h) (Or.inl ⟨by rfl, ?_⟩) (by assumption) ?_
           rotate_left
           ·(intro w hSw; (try dsimp only at hSw); first | (go_simp; done) | (go_simp; with_reducible rfl))
           try simp only [Act.put, List.setIfInBounds_toArray, List.set_cons_zero, List.set_cons_succ]
           refine wpAnyH_take (i := 14) (oi := ⟨some 130, .binOp Go.BinOp.eql 4 (.tmp 116) (.tmp 129) 4, 4, "laws.go:916", #[⟨0, .data⟩, ⟨13, .data⟩], none⟩) (v := ?_) rfl (by kernel_rfl) (by kernel_rfl) (by kernel_rfl) (fun _ _ _ h => h) (Or.inl ⟨by rfl, ?_⟩) (by assumption) ?_
           rotate_left
           ·(intro w hSw; (try dsimp only at hSw); first | (go_simp; done) | (go_simp; with_reducible rfl))
           try simp only [Act.put, List.setIfInBounds_toArray, List.set_cons_zero, List.set_cons_succ]
           refine wpAnyH_take (i := 15) (oi := ⟨some 2, .assign (.tmp 130), 4, "laws.go:916", #[⟨14, .data⟩, ⟨10, .chain⟩, ⟨0, .phase⟩, ⟨1, .phase⟩, ⟨2, .phase⟩, ⟨3, .phase⟩, ⟨4, .phase⟩, ⟨5, .phase⟩, ⟨6, .phase⟩, ⟨7, .phase⟩, ⟨8, .phase⟩, ⟨9, .phase⟩, ⟨10, .phase⟩, ⟨11, .phase⟩, ⟨12, .phase⟩, ⟨13, .phase⟩, ⟨14, .phase⟩], none⟩) (v := ?_) rfl (by kernel_rfl) (by kernel_rfl) (by kernel_rfl) (fun _ _ _ h => h) (Or.inl ⟨by rfl, ?_⟩) (by assumption) ?_
           rotate_left
           ·(intro w hSw; (try dsimp only at hSw); first | (go_simp; done) | (go_simp; with_reducible rfl))
           try simp only [Act.put, List.setIfInBounds_toArray, List.set_cons_zero, List.set_cons_succ]
           refine wpAnyH_done (by kernel_rfl) ?_ _
           go_wp2
           go_ret
           exact ⟨by simp, below_on hw0 (below_on HB7.out hbb9)⟩
      ·have hqf : qB h.k = false := by simpa using hqk
       have hk67 : h.k ≠ 6 ∧ h.k ≠ 7 := by
        unfold qB at hqf
        simpa using hqf
       obtain ⟨hk6, hk7⟩ := hk67
       have e6 : (h.k != 6) = true := by simpa using hk6
       have e7 : (h.k != 7) = true := by simpa using hk7
       have e6' : (h.k == 6) = false := by simpa using hk6
       have e7' : (h.k == 7) = false := by simpa using hk7
       have HP := Lib.hid (fun (h2 : h.k ≠ 2) => (ss_parts HSV.out HVF.out h2 hqf).symm.trans HT.out)
       have HOK := Lib.hid (vf_parts hv).2.1
       have h600 := (vf_parts hv).2.2
       clear hqk hqf hv
       go_wp2_with fail
       rcases HSW.out with ⟨h0, yy, cp, e, _, _⟩ | ⟨h0, bb, oo, cp, e, hcp1, hcp2, hlo, hb, hel⟩
       ·obtain rfl : f = .nil := Fo.len_zero h0
        injection e with e1 e2 e3
        subst e1 e2 e3
        refine wp_loop_rounds 1 ?_
        rw [rounds_succ]
        by_cases h2 : h.k = 2
        ·have e2 : (h.k == 2) = true := by simpa using h2
         go_wp2
         go_ret
         exact ⟨by simp [h2], below_on hw0 hB6⟩
        ·have e2 : (h.k == 2) = false := by simpa using h2
         obtain rfl : true = t := HP.out h2
         go_wp2
         go_ret
         exact ⟨by simp, below_on hw0 hB6⟩
       ·injection e with e1 e2 e3
        subst e1 e2 e3
        have HST := Lib.hid (show CpR ⟨v, a, b, c, d, m⟩ t h f bb oo w.heap.size W (.bool true) (.int .i64 0) w6 from ⟨0, true, f, rfl, rfl, by omega, HOK.out, Nat.le_refl _, fun h2 => by rw [Bool.true_and]; exact HP.out h2, by simpa using hel, hB6⟩)
        unfold maxLen at hcp2
        clear hel hx6 hy6 x0 d0 d1 d2 d3 d4 d5 d6 d7 d8 d9 j0 j1 j2 j3 j4 j5 hB6 hxl hyl
        go_loopw [10, 11] (fun all i wr => CpR ⟨v, a, b, c, d, m⟩ t h f bb oo w.heap.size W all i wr) (fun _ i _ => f.len - (intOf i).toNat)
        case atStart => exact HST.out
        case round =>
         obtain ⟨k, q', r, rfl, rfl, hk, hrok, hdr, hmx, hr, hbw⟩ := hrel
         clear HST
         have hxr := c10_on hx hbw
         have hyr := c5_on hy hbw
         obtain ⟨x0, d0, d1, d2, d3, d4, d5, d6, d7, d8, d9⟩ := id hxr
         obtain ⟨j0, j1, j2, j3, j4, j5⟩ := id hyr
         cases r with
         | nil =>
          simp only [Fo.len] at hk
          have hkl : ¬ k < f.len := by omega
          have HB := Lib.hid hbw
          by_cases h2 : h.k = 2
          ·have e2 : (h.k == 2) = true := by simpa using h2
           clear hbw hmx
           go_wp2
           go_ret
           exact ⟨by simp [h2], below_on hw0 HB.out⟩
          ·have e2 : (h.k == 2) = false := by simpa using h2
           have hq : q' = t := by rw [← hmx h2]; simp [Fo.sb, Fo.okB]
           subst hq
           clear hbw hmx
           go_wp2
           go_ret
           exact ⟨by simp, below_on hw0 HB.out⟩
         | cons h' s' r' =>
          simp only [Fo.len] at hk
          simp only [Fo.size] at hdr
          have hkl : k < f.len := by omega
          have hk0 : (0 : Int) ≤ k := by omega
          have hz' : s'.size + 1 ≤ 600 := by omega
          obtain ⟨hv', hok'⟩ := sub_valid hrok hz'
          have HR := Lib.hid hr.2
          have HK := Lib.hid hok'
          have HB := Lib.hid hbw
          have HY := Lib.hid hyr
          have HMX := Lib.hid (show h.k ≠ 2 → ((q' && sbK ⟨v, a, b, c, d, m⟩ h' s') && (r'.sb ⟨v, a, b, c, d, m⟩).okB) = t from fun h2 => by rw [Bool.and_assoc]; exact hmx h2)
          obtain ⟨⟨sl, hrow, hsl⟩, _⟩ := FEl.below hbw (Nat.le_refl _) hlo hb hr
          have hsr := hbw.size
          obtain ⟨la, ln, lc, rfl⟩ := FS.slice (show FS wr w.heap.size s' sl from hsl)
          have HC := Lib.hid (fun V (hV : Below wr.heap.size wr V) => SubstFormula_any ⟨v, a, b, c, d, m⟩ h' s' V w.heap.size _ (FS.below hV (Nat.le_refl _) (show FS wr w.heap.size s' _ from hsl)))
          obtain ⟨q4, hq4⟩ : ∃ q4, okQ (ssB ⟨v, a, b, c, d, m⟩ h' s') (sbF ⟨v, a, b, c, d, m⟩ h' s').1 (sbF ⟨v, a, b, c, d, m⟩ h' s').2 = q4 := ⟨_, rfl⟩
          rw [hq4, ss_sbK HSV.out hv'] at HC
          obtain ⟨t', ht'⟩ : ∃ t', sbK ⟨v, a, b, c, d, m⟩ h' s' = t' := ⟨_, rfl⟩
          rw [ht'] at HC HMX
          have HSE := Lib.hid (show wr.cell? ⟨w1.heap.size, 9, none⟩ = some (.slice (some ⟨bb, oo, none⟩) f.len sc) ∧ FRow wr bb (oo + k * 10) h' (.slice la ln lc) from ⟨d9, hrow⟩)
          clear hsl hbw hv' hok' hrok hmx hr hq4 ht' hrow hxr hyr
          go_wp2_with fail
          refine wp_region_held_drew (S := (fun w' => w'.cell? ⟨w1.heap.size, 9, none⟩ = some (.slice (some ⟨bb, oo, none⟩) f.len sc) ∧ (w'.cell? ⟨bb, oo + k * 10, none⟩ = some (.int .i64 h'.k) ∧ w'.cell? ⟨bb, oo + k * 10 + 1, none⟩ = some (.int .i64 h'.ak) ∧ w'.cell? ⟨bb, oo + k * 10 + 2, none⟩ = some (.int .i64 h'.am) ∧ w'.cell? ⟨bb, oo + k * 10 + 3, none⟩ = some (.int .i64 h'.a) ∧ w'.cell? ⟨bb, oo + k * 10 + 4, none⟩ = some (.int .i64 h'.b) ∧ w'.cell? ⟨bb, oo + k * 10 + 5, none⟩ = some (.int .i64 h'.c) ∧ w'.cell? ⟨bb, oo + k * 10 + 6, none⟩ = some (.int .i64 h'.d) ∧ w'.cell? ⟨bb, oo + k * 10 + 7, none⟩ = some (.int .i64 h'.n) ∧ w'.cell? ⟨bb, oo + k * 10 + 8, none⟩ = some (.int .i64 h'.v) ∧ w'.cell? ⟨bb, oo + k * 10 + 9, none⟩ = some (.slice la ln lc)) ∧ w'.cell? ⟨w1.heap.size + 1, 0, none⟩ = some (.int .i64 a) ∧ w'.cell? ⟨w1.heap.size + 1, 1, none⟩ = some (.int .i64 b) ∧ w'.cell? ⟨w1.heap.size + 1, 2, none⟩ = some (.int .i64 c) ∧ w'.cell? ⟨w1.heap.size + 1, 3, none⟩ = some (.int .i64 d) ∧ w'.cell? ⟨w1.heap.size + 1, 4, none⟩ = some (.int .i64 m))) (by kernel_rfl) ?_ (fun hHeld => ?_)
          ·try dsimp only
           exact keepB HSE.out HY.out (show w1.heap.size < wr.heap.size by omega) (show bb < wr.heap.size by omega) (show w1.heap.size + 1 < wr.heap.size by omega) (by go_grown)
          refine wpAnyH_take (i := 0) (oi := ⟨some 80, .fieldAddr 56 (.tmp 3) 3, 0, "laws.go:909", #[], none⟩) (v := ?_) rfl (by kernel_rfl) (by kernel_rfl) (by kernel_rfl) (fun _ _ _ h => h) (Or.inl ⟨by rfl, ?_⟩) (by assumption) ?_
          rotate_left
          ·(intro w hSw; (try dsimp only at hSw); first | (go_simp; done) | (go_simp; with_reducible rfl))
          try simp only [Act.put, List.setIfInBounds_toArray, List.set_cons_zero, List.set_cons_succ]
          refine wpAnyH_take (i := 1) (oi := ⟨some 81, .load 54 (.tmp 80), 54, "laws.go:909", #[⟨0, .data⟩], none⟩) (v := ?_) rfl (by kernel_rfl) (by kernel_rfl) (by kernel_rfl) (fun _ _ _ h => h) (Or.inl ⟨by rfl, ?_⟩) (by assumption) ?_
          rotate_left
          ·(intro w hSw; (try dsimp only at hSw); first | (go_simp; done) | (go_simp; with_reducible rfl))
          try simp only [Act.put, List.setIfInBounds_toArray, List.set_cons_zero, List.set_cons_succ]
          refine wpAnyH_take (i := 2) (oi := ⟨some 82, .move (.tmp 11), 3, "laws.go:909", #[], none⟩) (v := ?_) rfl (by kernel_rfl) (by kernel_rfl) (by kernel_rfl) (fun _ _ _ h => h) (Or.inl ⟨by rfl, ?_⟩) (by assumption) ?_
          rotate_left
          ·(intro w hSw; (try dsimp only at hSw); first | (go_simp; done) | (go_simp; with_reducible rfl))
          try simp only [Act.put, List.setIfInBounds_toArray, List.set_cons_zero, List.set_cons_succ]
          refine wpAnyH_take (i := 3) (oi := ⟨some 83, .indexAddr 54 (.tmp 81) (.tmp 82), 0, "laws.go:909", #[⟨1, .data⟩, ⟨2, .data⟩], none⟩) (v := ?_) rfl (by kernel_rfl) (by kernel_rfl) (by kernel_rfl) (fun _ _ _ h => h) (Or.inl ⟨by rfl, ?_⟩) (by assumption) ?_
          rotate_left
          ·(intro w hSw; (try dsimp only at hSw); first | (go_simp; done) | (go_simp; with_reducible rfl))
          try simp only [Act.put, List.setIfInBounds_toArray, List.set_cons_zero, List.set_cons_succ]
          refine wpAnyH_take (i := 4) (oi := ⟨some 84, .load 56 (.tmp 83), 56, "laws.go:909", #[⟨3, .data⟩], none⟩) (v := ?_) rfl (by kernel_rfl) (by kernel_rfl) (by kernel_rfl) (fun _ _ _ h => h) (Or.inl ⟨by rfl, ?_⟩) (by assumption) ?_
          rotate_left
          ·(intro w hSw; (try dsimp only at hSw); first | (go_simp; done) | (go_simp; with_reducible rfl))
          try simp only [Act.put, List.setIfInBounds_toArray, List.set_cons_zero, List.set_cons_succ]
          refine wpAnyH_take (i := 5) (oi := ⟨some 85, .move (.tmp 4), 3, "laws.go:909", #[], none⟩) (v := ?_) rfl (by kernel_rfl) (by kernel_rfl) (by kernel_rfl) (fun _ _ _ h => h) (Or.inl ⟨by rfl, ?_⟩) (by assumption) ?_
          rotate_left
          ·(intro w hSw; (try dsimp only at hSw); first | (go_simp; done) | (go_simp; with_reducible rfl))
          try simp only [Act.put, List.setIfInBounds_toArray, List.set_cons_zero, List.set_cons_succ]
          refine wpAnyH_take (i := 6) (oi := ⟨some 86, .load 24 (.tmp 5), 24, "laws.go:909", #[], none⟩) (v := ?_) rfl (by kernel_rfl) (by kernel_rfl) (by kernel_rfl) (fun _ _ _ h => h) (Or.inl ⟨by rfl, ?_⟩) (by assumption) ?_
          rotate_left
          ·(intro w hSw; (try dsimp only at hSw); first | (go_simp; done) | (go_simp; with_reducible rfl))
          try simp only [Act.put, List.setIfInBounds_toArray, List.set_cons_zero, List.set_cons_succ]
          refine wpAnyH_ready (rs := [7, 11]) (by kernel_rfl) (by simp) ?_
          refine AllReadyH.cons (o := ⟨some 87, .call { callee := Go.Callee.value (.func 27), args := #[.tmp 84, .tmp 85, .tmp 86], argTypes := #[56, 3, 24] }, 57, "laws.go:909", #[⟨4, .data⟩, ⟨5, .data⟩, ⟨6, .data⟩], none⟩) rfl (fun K hK => ?_) (AllReadyH.cons (o := ⟨some 12, .alloc 56, 0, "laws.go:909", #[], none⟩) rfl (fun K hK => ?_) AllReadyH.nil)
          ·
           go_simp
           (go_at_call 27; refine (HC.out _ (by go_grown)).mono ?_; rintro e w4 ⟨s4, rfl, hs4, hb4⟩; obtain ⟨ga, gn, gc, rfl⟩ := hs4.slice; have hbb4 := below_on (w := wr) (by go_grown) hb4; have hsb4 : wr.heap.size ≤ w4.heap.size := hbb4.size; clear hs4)
           (try go_wp2_with fail)
           refine hK.out _ _ ?_ (fun hHeld => ?_)
           ·try dsimp only
            exact keepB HSE.out HY.out (show w1.heap.size < wr.heap.size by omega) (show bb < wr.heap.size by omega) (show w1.heap.size + 1 < wr.heap.size by omega) (by go_grown)
           clear hK K
           try simp only [Act.put, List.setIfInBounds_toArray, List.set_cons_zero, List.set_cons_succ]
           refine wpAnyH_take (i := 8) (oi := ⟨some 79, .move (.tmp 87), 57, "laws.go:909", #[⟨7, .data⟩], none⟩) (v := ?_) rfl (by kernel_rfl) (by kernel_rfl) (by kernel_rfl) (fun _ _ _ h => h) (Or.inl ⟨by rfl, ?_⟩) (by assumption) ?_
           rotate_left
           ·(intro w hSw; (try dsimp only at hSw); first | (go_simp; done) | (go_simp; with_reducible rfl))
           try simp only [Act.put, List.setIfInBounds_toArray, List.set_cons_zero, List.set_cons_succ]
           refine wpAnyH_take (i := 9) (oi := ⟨some 88, .extract (.tmp 79) 0, 56, "laws.go:909", #[⟨8, .data⟩], none⟩) (v := ?_) rfl (by kernel_rfl) (by kernel_rfl) (by kernel_rfl) (fun _ _ _ h => h) (Or.inl ⟨by rfl, ?_⟩) (by assumption) ?_
           rotate_left
           ·(intro w hSw; (try dsimp only at hSw); first | (go_simp; done) | (go_simp; with_reducible rfl))
           try simp only [Act.put, List.setIfInBounds_toArray, List.set_cons_zero, List.set_cons_succ]
           refine wpAnyH_take (i := 10) (oi := ⟨some 89, .extract (.tmp 79) 1, 4, "laws.go:909", #[⟨8, .data⟩, ⟨12, .gcOnly Go.Departure.lateStores⟩], none⟩) (v := ?_) rfl (by kernel_rfl) (by kernel_rfl) (by kernel_rfl) (fun _ _ _ h => h) (Or.inl ⟨by rfl, ?_⟩) (by assumption) ?_
           rotate_left
           ·(intro w hSw; (try dsimp only at hSw); first | (go_simp; done) | (go_simp; with_reducible rfl))
           try simp only [Act.put, List.setIfInBounds_toArray, List.set_cons_zero, List.set_cons_succ]
           refine wpAnyH_ready (rs := [11]) (by kernel_rfl) (by simp) ?_
           refine AllReadyH.cons (o := ⟨some 12, .alloc 56, 0, "laws.go:909", #[], none⟩) rfl (fun K hK => ?_) AllReadyH.nil
           go_simp
           refine hK.out _ _ ?_ (fun hHeld => ?_)
           ·try dsimp only
            exact keepB HSE.out HY.out (show w1.heap.size < wr.heap.size by omega) (show bb < wr.heap.size by omega) (show w1.heap.size + 1 < wr.heap.size by omega) (by go_grown)
           clear hK K
           try simp only [Act.put, List.setIfInBounds_toArray, List.set_cons_zero, List.set_cons_succ]
           refine wpAnyH_ready (rs := [12]) (by kernel_rfl) (by simp) ?_
           refine AllReadyH.cons (o := ⟨none, .store 56 (.tmp 12) (.tmp 88), 0, "laws.go:909", #[⟨11, .data⟩, ⟨9, .data⟩, ⟨7, .chain⟩, ⟨0, .phase⟩, ⟨1, .phase⟩, ⟨2, .phase⟩, ⟨3, .phase⟩, ⟨4, .phase⟩, ⟨5, .phase⟩, ⟨6, .phase⟩, ⟨7, .phase⟩, ⟨8, .phase⟩, ⟨9, .phase⟩, ⟨10, .textOnly Go.Departure.lateStores⟩, ⟨11, .phase⟩], none⟩) rfl (fun K hK => ?_) AllReadyH.nil
           go_simp
           refine hK.out _ _ ?_ (fun hHeld => ?_)
           ·try dsimp only
            exact keepB HSE.out HY.out (show w1.heap.size < wr.heap.size by omega) (show bb < wr.heap.size by omega) (show w1.heap.size + 1 < wr.heap.size by omega) (by go_grown)
           clear hK K
           try simp only [Act.put, List.setIfInBounds_toArray, List.set_cons_zero, List.set_cons_succ]
           refine wpAnyH_take (i := 13) (oi := ⟨some 13, .assign (.tmp 89), 4, "laws.go:909", #[⟨10, .data⟩, ⟨12, .chain⟩, ⟨0, .phase⟩, ⟨1, .phase⟩, ⟨2, .phase⟩, ⟨3, .phase⟩, ⟨4, .phase⟩, ⟨5, .phase⟩, ⟨6, .phase⟩, ⟨7, .phase⟩, ⟨8, .phase⟩, ⟨9, .phase⟩, ⟨10, .phase⟩, ⟨11, .phase⟩, ⟨12, .phase⟩], none⟩) (v := ?_) rfl (by kernel_rfl) (by kernel_rfl) (by kernel_rfl) (fun _ _ _ h => h) (Or.inl ⟨by rfl, ?_⟩) (by assumption) ?_
           rotate_left
           ·(intro w hSw; (try dsimp only at hSw); first | (go_simp; done) | (go_simp; with_reducible rfl))
           try simp only [Act.put, List.setIfInBounds_toArray, List.set_cons_zero, List.set_cons_succ]
           refine wpAnyH_done (by kernel_rfl) ?_ _
           (generalize hX : World.alloc _ _ = wX; have hbX : Below wr.heap.size wr wX := below_on hbb4 (by subst hX; go_grown); clear hX)
           have HBX := Lib.hid (below_on HB.out hbX)
           clear hbX
           cases q' with
           | false =>
            go_wp2
            go_roundw
            case rel => exact ⟨k + 1, false, r', by go_num, rfl, by omega, HK.out, by omega, fun h2 => by simpa using HMX.out h2, by rw [show oo + (k + 1) * 10 = oo + k * 10 + 10 by omega]; exact HR.out, HBX.out⟩
            case measure => simp [intOf]; omega
           | true =>
            go_wp2
            go_roundw
            case rel => exact ⟨k + 1, t', r', by go_num, rfl, by omega, HK.out, by omega, fun h2 => by simpa using HMX.out h2, by rw [show oo + (k + 1) * 10 = oo + k * 10 + 10 by omega]; exact HR.out, HBX.out⟩
            case measure => simp [intOf]; omega
          ·
           go_simp
           refine hK.out _ _ ?_ (fun hHeld => ?_)
           ·try dsimp only
            exact keepB HSE.out HY.out (show w1.heap.size < wr.heap.size by omega) (show bb < wr.heap.size by omega) (show w1.heap.size + 1 < wr.heap.size by omega) (by go_grown)
           clear hK K
           try simp only [Act.put, List.setIfInBounds_toArray, List.set_cons_zero, List.set_cons_succ]
           refine wpAnyH_ready (rs := [7]) (by kernel_rfl) (by simp) ?_
           refine AllReadyH.cons (o := ⟨some 87, .call { callee := Go.Callee.value (.func 27), args := #[.tmp 84, .tmp 85, .tmp 86], argTypes := #[56, 3, 24] }, 57, "laws.go:909", #[⟨4, .data⟩, ⟨5, .data⟩, ⟨6, .data⟩], none⟩) rfl (fun K hK => ?_) AllReadyH.nil
           go_simp
           (go_at_call 27; refine (HC.out _ (by go_grown)).mono ?_; rintro e w4 ⟨s4, rfl, hs4, hb4⟩; obtain ⟨ga, gn, gc, rfl⟩ := hs4.slice; have hbb4 := below_on (w := wr) (by go_grown) hb4; have hsb4 : wr.heap.size ≤ w4.heap.size := hbb4.size; clear hs4; have hb41 : wr.heap.size + 1 ≤ w4.heap.size := (by have := hb4.size; simpa using this); have hbz4 : C10 w4 wr.heap.size ⟨0, 0, 0, 0, 0, 0, 0, 0, 0⟩ (.slice none 0 0) := (c10_on (h := ⟨0, 0, 0, 0, 0, 0, 0, 0, 0⟩) (s := .slice none 0 0) (by refine ⟨?_, ?_, ?_, ?_, ?_, ?_, ?_, ?_, ?_, ?_, ?_⟩ <;> first | (simp [go_sem]; done) | (simp; omega)) hb4); have fbz4 : ∀ o, w4.frozen? ⟨wr.heap.size, o, none⟩ = false := (fun o => ((bcell hb4).2 _ o (by simp)).trans (by simp [go_sem])); obtain ⟨b0, b1, b2, b3, b4, b5, b6, b7, b8, b9, b10⟩ := id hbz4)
           (try go_wp2_with fail)
           refine hK.out _ _ ?_ (fun hHeld => ?_)
           ·try dsimp only
            exact keepB HSE.out HY.out (show w1.heap.size < wr.heap.size by omega) (show bb < wr.heap.size by omega) (show w1.heap.size + 1 < wr.heap.size by omega) (by go_grown)
           clear hK K
           try simp only [Act.put, List.setIfInBounds_toArray, List.set_cons_zero, List.set_cons_succ]
           refine wpAnyH_take (i := 8) (oi := ⟨some 79, .move (.tmp 87), 57, "laws.go:909", #[⟨7, .data⟩], none⟩) (v := ?_) rfl (by kernel_rfl) (by kernel_rfl) (by kernel_rfl) (fun _ _ _ h => h) (Or.inl ⟨by rfl, ?_⟩) (by assumption) ?_
           rotate_left
           ·(intro w hSw; (try dsimp only at hSw); first | (go_simp; done) | (go_simp; with_reducible rfl))
           try simp only [Act.put, List.setIfInBounds_toArray, List.set_cons_zero, List.set_cons_succ]
           refine wpAnyH_take (i := 9) (oi := ⟨some 88, .extract (.tmp 79) 0, 56, "laws.go:909", #[⟨8, .data⟩], none⟩) (v := ?_) rfl (by kernel_rfl) (by kernel_rfl) (by kernel_rfl) (fun _ _ _ h => h) (Or.inl ⟨by rfl, ?_⟩) (by assumption) ?_
           rotate_left
           ·(intro w hSw; (try dsimp only at hSw); first | (go_simp; done) | (go_simp; with_reducible rfl))
           try simp only [Act.put, List.setIfInBounds_toArray, List.set_cons_zero, List.set_cons_succ]
           refine wpAnyH_take (i := 10) (oi := ⟨some 89, .extract (.tmp 79) 1, 4, "laws.go:909", #[⟨8, .data⟩, ⟨12, .gcOnly Go.Departure.lateStores⟩], none⟩) (v := ?_) rfl (by kernel_rfl) (by kernel_rfl) (by kernel_rfl) (fun _ _ _ h => h) (Or.inl ⟨by rfl, ?_⟩) (by assumption) ?_
           rotate_left
           ·(intro w hSw; (try dsimp only at hSw); first | (go_simp; done) | (go_simp; with_reducible rfl))
           try simp only [Act.put, List.setIfInBounds_toArray, List.set_cons_zero, List.set_cons_succ]
           refine wpAnyH_ready (rs := [12]) (by kernel_rfl) (by simp) ?_
           refine AllReadyH.cons (o := ⟨none, .store 56 (.tmp 12) (.tmp 88), 0, "laws.go:909", #[⟨11, .data⟩, ⟨9, .data⟩, ⟨7, .chain⟩, ⟨0, .phase⟩, ⟨1, .phase⟩, ⟨2, .phase⟩, ⟨3, .phase⟩, ⟨4, .phase⟩, ⟨5, .phase⟩, ⟨6, .phase⟩, ⟨7, .phase⟩, ⟨8, .phase⟩, ⟨9, .phase⟩, ⟨10, .textOnly Go.Departure.lateStores⟩, ⟨11, .phase⟩], none⟩) rfl (fun K hK => ?_) AllReadyH.nil
           go_simp
           refine hK.out _ _ ?_ (fun hHeld => ?_)
           ·try dsimp only
            exact keepB HSE.out HY.out (show w1.heap.size < wr.heap.size by omega) (show bb < wr.heap.size by omega) (show w1.heap.size + 1 < wr.heap.size by omega) (by go_grown)
           clear hK K
           try simp only [Act.put, List.setIfInBounds_toArray, List.set_cons_zero, List.set_cons_succ]
           refine wpAnyH_take (i := 13) (oi := ⟨some 13, .assign (.tmp 89), 4, "laws.go:909", #[⟨10, .data⟩, ⟨12, .chain⟩, ⟨0, .phase⟩, ⟨1, .phase⟩, ⟨2, .phase⟩, ⟨3, .phase⟩, ⟨4, .phase⟩, ⟨5, .phase⟩, ⟨6, .phase⟩, ⟨7, .phase⟩, ⟨8, .phase⟩, ⟨9, .phase⟩, ⟨10, .phase⟩, ⟨11, .phase⟩, ⟨12, .phase⟩], none⟩) (v := ?_) rfl (by kernel_rfl) (by kernel_rfl) (by kernel_rfl) (fun _ _ _ h => h) (Or.inl ⟨by rfl, ?_⟩) (by assumption) ?_
           rotate_left
           ·(intro w hSw; (try dsimp only at hSw); first | (go_simp; done) | (go_simp; with_reducible rfl))
           try simp only [Act.put, List.setIfInBounds_toArray, List.set_cons_zero, List.set_cons_succ]
           refine wpAnyH_done (by kernel_rfl) ?_ _
           (generalize hX : World.setCell _ _ _ = wX; have hbX : Below wr.heap.size wr wX := hbb4.trans ((put10b (g := q4.1) hbz4 hX).2 wr.heap.size (Nat.le_refl _)); clear hX hbz4 fbz4 b0 b1 b2 b3 b4 b5 b6 b7 b8 b9 b10)
           have HBX := Lib.hid (below_on HB.out hbX)
           clear hbX
           cases q' with
           | false =>
            go_wp2
            go_roundw
            case rel => exact ⟨k + 1, false, r', by go_num, rfl, by omega, HK.out, by omega, fun h2 => by simpa using HMX.out h2, by rw [show oo + (k + 1) * 10 = oo + k * 10 + 10 by omega]; exact HR.out, HBX.out⟩
            case measure => simp [intOf]; omega
           | true =>
            go_wp2
            go_roundw
            case rel => exact ⟨k + 1, t', r', by go_num, rfl, by omega, HK.out, by omega, fun h2 => by simpa using HMX.out h2, by rw [show oo + (k + 1) * 10 = oo + k * 10 + 10 by omega]; exact HR.out, HBX.out⟩
            case measure => simp [intOf]; omega
 ·have hn' : (1048576 : Int) < (n : Int) := by omega
  go_enter Try.func9, Try.ntmps9
  go_wp2
  go_ret
  exact ⟨rfl, Below.refl _ _⟩

end Go.Proofs.Ytcgolbkpfncgpaa

namespace Go.Proofs.Ytcgolbkpfncgpaa
open Go.ChangeShapes Go.WideShapes Go.ChangeAt Go.RowKit Go.Joins

set_option maxRecDepth 100000 in
theorem fnCapture_lifted (os : Os) (started : os.Started) (H : Type) (enc : TypeId × Value → H) :
  ReturnsInHanded {} Try.checked os 9 .any (Rows.fnCaptureSpec.pre6 enc Try.prog Try.f9 Rows.fnCaptureRow.domain false) (Rows.fnCaptureSpec.post enc Try.prog Try.f9 false true false false) := by
 refine returnsInHanded_of_change (C := Try.checked) Try.own started (by kernel_rfl) Try.func9
  (ChangeSpec.witness6 (enc := enc) (C := Try.checked) false ⟨#[], #[.slice none 0 0], []⟩ 8 (by kernel_rfl) (by kernel_rfl) (by kernel_rfl) (by kernel_rfl)) ?_
 intro W base args ds gs before hval0 hW _ _
 have hval : ∀ (j : Nat) t v, Try.f9.params[j]? = some t → args[j]? = some v → Value.okWide Try.prog W .any base t v := hval0
 have hW' := hW
 obtain ⟨p, q, hA0, hV, rfl, _, _⟩ := hW
 have hA : DataW.TrodAll enc Try.prog W 0 (fun _ => true) true Try.f9.params.toList args.toList ds p := hA0
 rw [Try.params9] at hA hval
 obtain ⟨v0, d0, rfl, rfl, h0⟩ := trodAll_one hA
 obtain ⟨rfl, rfl⟩ := trodVars_none hV
 obtain ⟨sp, n, cap, rfl, hcode⟩ := code_of Try.underlying22 Try.underlying5 (by kernel_rfl) (hval 0 22 v0 rfl rfl) h0
 clear hA0 hval0
 refine (capture_walk sp n cap W hcode).mono fun e W' ⟨he, hb⟩ => ⟨_, he, ?_⟩
 exact law_post Try.laidOut (by kernel_rfl) rfl rfl Try.underlying4 hW' rfl hb

theorem fnCapture_holds : Rows.FnCaptureSaid :=
 OpenClaim.holds_of_wide 9 Try.f9 rfl rfl rfl rfl rfl rfl rfl ⟨rfl, rfl, rfl, rfl, rfl⟩ rfl rfl rfl rfl rfl (by kernel_rfl) Try.func9 (by show joinedFacts Try.prog 9 Try.f9 Rows.fnCaptureSpec Rows.fnCaptureRow = true; unfold joinedFacts; rw [Try.mayEnterT, Try.liftsFinalF, Try.makeC]; kernel_rfl)
  (of_decide_eq_true (by kernel_rfl)) (by unfold Func.isWrapper; rw [if_neg (by decide +kernel)]; exact ⟨rfl, rfl⟩)
  (fun os started H enc _ => fnCapture_lifted os started H enc)

end Go.Proofs.Ytcgolbkpfncgpaa
