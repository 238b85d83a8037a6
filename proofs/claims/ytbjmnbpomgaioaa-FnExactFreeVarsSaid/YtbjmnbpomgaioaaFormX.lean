/- Free variables: freeIn at an atom. -/
import Derived.Test.YtbjmnbpomgaioaaFormV
namespace Go.Proofs.Ytbjmnbpomgaioaa
open Go.RowKit

theorem sel_in {a b c d : Int} {L : List Int} {x : Int} (h : vl a b c d 4 = L) (hx : x ∈ L) : x = 0 ∨ x = 1 ∨ x = 2 ∨ x = 3 := by
  subst h
  simp only [vl, List.mem_map, List.mem_filter, List.mem_range] at hx
  obtain ⟨k, ⟨hk, _⟩, rfl⟩ := hx
  simp only [Int.ofNat_eq_natCast]
  omega
theorem vl_mem (a b c d : Int) (j : Nat) (hj : j < 4) : decide ((j : Int) ∈ vl a b c d 4) = decide (sel a b c d (j : Int) 0 ≠ 0) := by
  apply decide_eq_decide.2
  simp only [vl, List.mem_map, List.mem_filter, List.mem_range, decide_eq_true_eq, Int.ofNat_eq_natCast]
  constructor
  · rintro ⟨k, ⟨hk, h⟩, e⟩
    have : k = j := by omega
    subst this
    exact h
  · intro h
    exact ⟨j, ⟨hj, h⟩, rfl⟩
def tkB (L : List Int) (k : Nat) (j : Int) : Bool := decide (j ∈ L.take k)
theorem tk_next {L : List Int} {k : Nat} {x : Int} (hx : L[k]? = some x) (j : Int) : tkB L (k + 1) j = (tkB L k j || decide (j = x)) := by
  unfold tkB
  rw [List.take_add_one, hx]
  simp [Bool.decide_or]
/-- The slice v reads as the ints L, and lies in a block from B on. -/
def RdG (W : World) (B : Nat) (v : Value) (L : List Int) : Prop :=
  ∃ sp cap, v = .slice sp L.length cap ∧ (L.length = 0 ∨ ∃ b, sp = some ⟨b, 0, none⟩ ∧ B ≤ b ∧ b < W.heap.size ∧ ∀ i x, L[i]? = some x → W.cell? ⟨b, i, none⟩ = some (.int .i64 x))
theorem rdg_of {w : World} {B : Nat} {v : Value} {L : List Int} (h : OwnI w B v L) : RdG w B v L := by
  have h' : w.ownsRow B 3 1 v L.length (L.map (Value.int .i64)) := h
  rcases h'.2 with ⟨rfl, hn⟩ | ⟨g, cap, cur, rfl, hb, hg, _⟩
  · exact ⟨none, 0, by rw [hn], Or.inl hn⟩
  · refine ⟨some ⟨g, 0, none⟩, cap, rfl, Or.inr ⟨g, rfl, hb, (Array.getElem?_eq_some_iff.1 hg).1, fun i x hx => ?_⟩⟩
    have hi : i < L.length := (List.getElem?_eq_some_iff.1 hx).1
    rw [h'.cellAt i (by omega)]
    simp [hx]
theorem rdg_set {W : World} {B t j : Nat} {v x : Value} {L : List Int} (h : RdG W B v L) (ht : t < B) : RdG (W.setCell ⟨t, j, none⟩ x) B v L := by
  obtain ⟨sp, cap, rfl, h⟩ := h
  refine ⟨sp, cap, rfl, ?_⟩
  rcases h with h0 | ⟨b, rfl, h1, h2, h3⟩
  · exact .inl h0
  · exact .inr ⟨b, rfl, h1, by simpa [World.setCell] using h2, fun i y hy => by simp [go_sem, h3 i y hy]⟩

theorem AtomVars_l (k m a b c d n : Int) (w : World) :
    Calls Try.prog 105 #[.agg #[.int .i64 k, .int .i64 m, .int .i64 a, .int .i64 b, .int .i64 c, .int .i64 d, .int .i64 n]] w (VarsT a b c d w) := by
  have H := Lib.hid fun W => TermVars_t a b c d n W
  go_enter Try.func105, Try.ntmps105
  go_wp2_with (go_at_call 117; refine (H.out _).mono ?_; rintro e w1 ⟨v, rfl, ho, hb⟩; have HO := Lib.hid (own_mono ho (B' := w.heap.size) (by simp)); clear ho)
  go_ret
  exact ⟨_, rfl, HO.out, below_on (by go_grown) hb⟩
def AtI (L : List Int) (w : World) (v i : Value) (wr : World) : Prop :=
  ∃ k : Nat, k ≤ L.length ∧ i = .int .i64 k ∧ FiS w (tkB L k 0) (tkB L k 1) (tkB L k 2) (tkB L k 3) wr ∧ RdG wr (w.heap.size + 2) v L

set_option maxRecDepth 10000 in
set_option maxHeartbeats 2000000 in
theorem fi_a (k m a b c d n : Int) : FiAt (.iface 105 (.agg #[.int .i64 k, .int .i64 m, .int .i64 a, .int .i64 b, .int .i64 c, .int .i64 d, .int .i64 n])) (fun v => decide (sel a b c d v 0 ≠ 0)) := by
  intro w
  have hta := fun w => Try.ta_atom k m a b c d n w
  have htb := fun w => Try.tb_other 105 (.agg #[.int .i64 k, .int .i64 m, .int .i64 a, .int .i64 b, .int .i64 c, .int .i64 d, .int .i64 n]) (.inr (.inr (.inr rfl))) w
  have HC := Lib.hid fun W => AtomVars_l k m a b c d n W
  obtain ⟨L, hL⟩ : ∃ L, vl a b c d 4 = L := ⟨_, rfl⟩
  have HM : Hid (FiT (decide (sel a b c d 0 0 ≠ 0)) (decide (sel a b c d 1 0 ≠ 0)) (decide (sel a b c d 2 0 ≠ 0)) (decide (sel a b c d 3 0 ≠ 0)) = FiT (tkB L L.length 0) (tkB L L.length 1) (tkB L L.length 2) (tkB L L.length 3)) := by
    show _ = _
    have e0 := vl_mem a b c d 0 (by omega)
    have e1 := vl_mem a b c d 1 (by omega)
    have e2 := vl_mem a b c d 2 (by omega)
    have e3 := vl_mem a b c d 3 (by omega)
    rw [hL] at e0 e1 e2 e3
    unfold tkB
    rw [List.take_length]
    exact (congr (congr (congr (congrArg FiT e0) e1) e2) e3).symm
  show Calls Try.prog 84 #[_] w (FiT (decide (sel a b c d 0 0 ≠ 0)) (decide (sel a b c d 1 0 ≠ 0)) (decide (sel a b c d 2 0 ≠ 0)) (decide (sel a b c d 3 0 ≠ 0)) w)
  rw [HM.out]
  have hlen : L.length ≤ 4 := by rw [← hL]; exact vl_len _ _ _ _ _
  have HIN := Lib.hid fun x hx => sel_in (x := x) hL hx
  have HCL : Hid (∀ W, Calls Try.prog 105 #[.agg #[.int .i64 k, .int .i64 m, .int .i64 a, .int .i64 b, .int .i64 c, .int .i64 d, .int .i64 n]] W fun e w' => ∃ v, e = .returned v ∧ OwnI w' W.heap.size v L ∧ Below W.heap.size W w') := by
    intro W
    have := HC.out W
    unfold VarsT at this
    rw [hL] at this
    exact this
  clear HC HM hL
  go_enter Try.func84, Try.ntmps84
  go_wp2
  generalize hW : World.alloc _ _ = W
  have hS : FiS w false false false false W := by
    subst hW
    first | exact fiS_new w _ _ | exact fiS_on (fiS_new w _ _) (by go_grown)
  clear hW
  refine wp_loop_rounds 1 ?_
  rw [rounds_succ]
  go_wp2_with fail
  refine (HCL.out _).mono ?_
  rintro e w2 ⟨v, rfl, ho2, hb2⟩
  have hS2 : FiS w false false false false w2 := fiS_on hS (below_on (by go_grown) hb2)
  have hsW : w.heap.size + 2 ≤ W.heap.size := hS.2.2.1
  have HG := Lib.hid (show RdG w2 (w.heap.size + 2) v L from rdg_of (own_mono ho2 (Nat.le_trans hsW (by simp))))
  obtain ⟨sp, cap, rfl, _⟩ := id HG.out
  obtain ⟨N, hN⟩ : ∃ N, N = L.length := ⟨_, rfl⟩
  have HN := Lib.hid hN
  have HST := Lib.hid (show AtI L w (.slice sp L.length cap) (.int .i64 0) w2 from ⟨0, by omega, rfl, by simpa [tkB] using hS2, HG.out⟩)
  rw [← hN] at HST hlen ⊢
  clear hS hS2 hb2 ho2 HCL HG hN hta htb hsW
  go_wp2_with fail
  go_loopw [43] (fun i wr => AtI L w (.slice sp N cap) i wr) (fun i _ => N - (intOf i).toNat)
  case atStart => exact HST.out
  case round =>
    obtain ⟨k, hk, rfl, hst, hrd⟩ := hrel
    have HS := Lib.hid hst
    have HD := Lib.hid hrd
    clear hst hrd HST
    have hkN : k ≤ N := by rw [HN.out]; exact hk
    by_cases hlt : k < N
    · have hk' : (k : Int) < (N : Int) := by omega
      obtain ⟨x, hx⟩ : ∃ x, L[k]? = some x := ⟨_, List.getElem?_eq_getElem (by rw [← HN.out]; exact hlt)⟩
      obtain ⟨sp', cap', he, h0 | ⟨b, hb, h1, h2, h3⟩⟩ := HD.out
      · have := HN.out; omega
      · obtain rfl : sp = some ⟨b, 0, none⟩ := by injection he with e1; rw [e1]; exact hb
        have hc := h3 k x hx
        have HX := Lib.hid hx
        have hin := HIN.out x (List.mem_of_getElem? hx)
        clear he hb h3 hx
        obtain ⟨hbw, ⟨h0', h1', h2', h3', h4', h5'⟩, ⟨g0, g1, g2, g3, g4, g5⟩⟩ := HS.out
        rcases hin with rfl | rfl | rfl | rfl
        · go_wp2
          go_roundw
          case rel => exact ⟨k + 1, by rw [← HN.out]; omega, by go_num, by rw [tk_next HX.out 0, tk_next HX.out 1, tk_next HX.out 2, tk_next HX.out 3]; simpa using fiS_set0 true HS.out, rdg_set (HN.out ▸ HD.out) (by omega)⟩
          case measure => simp [intOf]; omega
        · go_wp2
          go_roundw
          case rel => exact ⟨k + 1, by rw [← HN.out]; omega, by go_num, by rw [tk_next HX.out 0, tk_next HX.out 1, tk_next HX.out 2, tk_next HX.out 3]; simpa using fiS_set1 true HS.out, rdg_set (HN.out ▸ HD.out) (by omega)⟩
          case measure => simp [intOf]; omega
        · go_wp2
          go_roundw
          case rel => exact ⟨k + 1, by rw [← HN.out]; omega, by go_num, by rw [tk_next HX.out 0, tk_next HX.out 1, tk_next HX.out 2, tk_next HX.out 3]; simpa using fiS_set2 true HS.out, rdg_set (HN.out ▸ HD.out) (by omega)⟩
          case measure => simp [intOf]; omega
        · go_wp2
          go_roundw
          case rel => exact ⟨k + 1, by rw [← HN.out]; omega, by go_num, by rw [tk_next HX.out 0, tk_next HX.out 1, tk_next HX.out 2, tk_next HX.out 3]; simpa using fiS_set3 true HS.out, rdg_set (HN.out ▸ HD.out) (by omega)⟩
          case measure => simp [intOf]; omega
    · have hkN' : ¬ (k : Int) < (N : Int) := by omega
      obtain rfl : k = N := by omega
      obtain ⟨q0, hq0⟩ : ∃ q, tkB L k 0 = q := ⟨_, rfl⟩
      obtain ⟨q1, hq1⟩ : ∃ q, tkB L k 1 = q := ⟨_, rfl⟩
      obtain ⟨q2, hq2⟩ : ∃ q, tkB L k 2 = q := ⟨_, rfl⟩
      obtain ⟨q3, hq3⟩ : ∃ q, tkB L k 3 = q := ⟨_, rfl⟩
      rw [hq0, hq1, hq2, hq3] at HS
      have HQ := Lib.hid (And.intro hq0 (And.intro hq1 (And.intro hq2 hq3)))
      clear hq0 hq1 hq2 hq3
      obtain ⟨hbw, ⟨h0, h1, h2, h3, h4, h5⟩, ⟨g0, g1, g2, g3, g4, g5⟩⟩ := HS.out
      go_wp2
      (try simp only [Exit.inBlock, Exit.then])
      refine bodyPost_ret (v := .agg #[.bool q0, .bool q1, .bool q2, .bool q3]) ?_ rfl ⟨by rw [← HN.out, HQ.out.1, HQ.out.2.1, HQ.out.2.2.1, HQ.out.2.2.2], by go_grown⟩
      rw [results_cell1 rfl]
      go_simp

end Go.Proofs.Ytbjmnbpomgaioaa
