/- DivideSet of the model. -/
import Derived.Test.YtmhpjaaffpomnaaDoorSeD
namespace Go.Proofs.YtmhpjaaffpomnaaDoor
open Go.RowKit

set_option maxRecDepth 10000 in
set_option maxHeartbeats 4000000 in
theorem specDivideSet_any (h l : List UInt8) (k : Int) (w : World) (hh : h.length ≤ 1000000000) (hl : l.length ≤ 1000000000) (k0 : -9223372036854775808 ≤ k) (k1 : k ≤ 9223372036854775807) :
    Calls Tryd.prog 38 #[.agg #[.string (bs h), .string (bs l)], .int .i64 k] w fun e w' => e = .returned (.tuple #[.agg #[.string (bs (dvR h l k).1.1), .string (bs (dvR h l k).1.2)], .bool (dvR h l k).2]) ∧ Below w.heap.size w w' := by
  have HV := Lib.hid fun w => specSetValid_b h l w hh hl
  have HS := Lib.hid (svS_parts (h := h) (l := l))
  have H2 := Lib.hid fun w => l1In_any k 1 240 w
  obtain ⟨v, hv⟩ : ∃ v, svS h l = v := ⟨_, rfl⟩
  have HQ : Hid (svS h l = v) := Lib.hid hv
  rw [hv] at HV
  clear hv
  cases v with
  | false =>
    have HF : Hid (dvR h l k = (([], []), false)) := Lib.hid (by unfold dvR; rw [HQ.out]; rfl)
    go_enter Tryd.func38, Tryd.ntmps38
    go_wp2_with fail
    generalize hW0 : World.alloc w _ = W0
    obtain ⟨hx, hsx, hwx⟩ := s2_new hW0
    clear hW0
    generalize hW : World.alloc W0 _ = W2
    obtain ⟨hr, hsr, hwr⟩ := s2_new hW
    rw [hsx] at hr
    clear hW
    have X1 := s2_on hx hwr
    have B1 := below_on hwx hwr
    have hne : w.heap.size ≤ w.heap.size + 1 := by omega
    clear hx hwx hwr hsx hsr
    refine (HV.out _).mono ?_
    rintro e w3 ⟨rfl, hb3⟩
    have X3 := s2_on X1 hb3
    have R3 := s2_on hr hb3
    have B3 := below_on B1 hb3
    clear X1 hr B1 hb3
    obtain ⟨x0, x1, x2, x3⟩ := id X3
    obtain ⟨a0, a1, a2, a3⟩ := id R3
    go_wp2
    generalize hW : World.setCell _ _ _ = W8
    obtain ⟨⟨_, r1, r2, _⟩, _, _, hb8⟩ := s2_put hW _ _ R3
    refine bodyPost_ret (v := .tuple #[.agg #[.string ⟨#[]⟩, .string ⟨#[]⟩], .bool false]) (by simp [results, Tryd.results38, go_sem, r1, r2]) rfl ⟨by rw [HF.out]; rfl, ?_⟩
    exact hb8 w B3 hne
  | true =>
    by_cases hc : 1 ≤ k ∧ k ≤ 240
    case neg =>
      have HF : Hid (dvR h l k = (([], []), false)) := Lib.hid (by unfold dvR; rw [HQ.out, decide_eq_false hc]; rfl)
      have e2 : inB k 1 240 = false := by unfold inB; exact decide_eq_false hc
      rw [e2] at H2
      clear hc e2
      go_enter Tryd.func38, Tryd.ntmps38
      go_wp2_with fail
      generalize hW0 : World.alloc w _ = W0
      obtain ⟨hx, hsx, hwx⟩ := s2_new hW0
      clear hW0
      generalize hW : World.alloc W0 _ = W2
      obtain ⟨hr, hsr, hwr⟩ := s2_new hW
      rw [hsx] at hr
      clear hW
      have X1 := s2_on hx hwr
      have B1 := below_on hwx hwr
      have hne : w.heap.size ≤ w.heap.size + 1 := by omega
      clear hx hwx hwr hsx hsr
      refine (HV.out _).mono ?_
      rintro e w3 ⟨rfl, hb3⟩
      have X3 := s2_on X1 hb3
      have R3 := s2_on hr hb3
      have B3 := below_on B1 hb3
      clear X1 hr B1 hb3
      obtain ⟨x0, x1, x2, x3⟩ := id X3
      obtain ⟨a0, a1, a2, a3⟩ := id R3
      go_wp2_with fail
      refine (H2.out _).mono ?_
      rintro e w' ⟨rfl, rfl⟩
      go_wp2
      generalize hW : World.setCell _ _ _ = W8
      obtain ⟨⟨_, r1, r2, _⟩, _, _, hb8⟩ := s2_put hW _ _ R3
      refine bodyPost_ret (v := .tuple #[.agg #[.string ⟨#[]⟩, .string ⟨#[]⟩], .bool false]) (by simp [results, Tryd.results38, go_sem, r1, r2]) rfl ⟨by rw [HF.out]; rfl, ?_⟩
      exact hb8 w B3 hne
    have e2 : inB k 1 240 = true := by unfold inB; exact decide_eq_true hc
    rw [e2] at H2
    obtain ⟨K, rfl⟩ : ∃ K : Nat, k = K := ⟨k.toNat, by omega⟩
    have hK : K ≤ 400 := by omega
    obtain ⟨q1, q2, q3, q4, q5, q6⟩ := HS.out HQ.out
    have hK1 : 1 ≤ K := by omega
    have hK2 : K ≤ 240 := by omega
    have c2 : PerS (dvA (atS h l) K) h.length l.length := per_dv (per_at h l) hK1
    have c1 : 0 < l.length := by omega
    have HAS := Lib.hid fun (n : Nat) (hn : n ≤ 9223372036854775807) w => l7Has_any h l n w q6 (by omega) (by omega) hn
    have hfb : ∀ n, bitS (inS (dvA (atS h l) K) n) = dvA (atS h l) K n := fun n => bits_in (bits_dv (bits_at q6 q1 q2) K) n
    obtain ⟨f, hf⟩ : ∃ f : Nat → Bool, (fun n => inS (dvA (atS h l) K) n) = f := ⟨_, rfl⟩
    have hfn : ∀ n, inS (dvA (atS h l) K) n = f n := fun n => by rw [← hf]
    have ea : dvA (atS h l) K = fun n => bitS (f n) := funext fun n => by rw [← hfn, hfb]
    have HFN : Hid (∀ n, inS (atS h l) (K * n) = f n) := Lib.hid fun n => hfn n
    obtain ⟨N, hN⟩ : ∃ k, h.length = k := ⟨_, rfl⟩
    obtain ⟨p, hp⟩ : ∃ k, l.length = k := ⟨_, rfl⟩
    rw [hN, hp, ea] at c2
    rw [hp] at c1
    have hs1 := bs_size h
    have hs2 := bs_size l
    rw [hN] at hs1
    rw [hp] at hs2
    obtain ⟨m, hm⟩ : ∃ m, N + p = m := ⟨_, rfl⟩
    have hmb : m ≤ 100000 := by omega
    have hNm : N < m := by omega
    have hwm : IntKind.i64.wrap ((N : Int) + (p : Int)) = (m : Int) := by rw [IntKind.wrap_i64]; omega
    obtain ⟨M, hmk, hMs⟩ := br_new m (by omega)
    obtain ⟨HT, LT⟩ := rng_take f N p
    obtain ⟨b1, b2⟩ := raw_bits (f := f) (N := N) (p := p)
    have hraw := raw_at c1 c2
    obtain ⟨A, hA⟩ : ∃ X, rawH (fun n => bitS (f n)) N = X := ⟨_, rfl⟩
    obtain ⟨Bb, hB⟩ : ∃ X, rawL (fun n => bitS (f n)) N p = X := ⟨_, rfl⟩
    have hAl : A.length = N := by rw [← hA]; simp [rawH]
    have hBl : Bb.length = p := by rw [← hB]; simp [rawL]
    rw [hA, hB] at hraw
    rw [hA] at b1 HT
    rw [hB] at b2 LT
    rw [hm] at HT LT
    have HR := Lib.hid fun w => l7Result_any A Bb w (fun e => by rw [e] at hBl; simp at hBl; omega) b1 b2 (by omega) (by omega)
    rw [hraw] at HR
    obtain ⟨r, hr0⟩ : ∃ r, resA (fun n => bitS (f n)) = r := ⟨_, rfl⟩
    rw [hr0] at HR
    have HF : Hid (dvR h l K = r) := Lib.hid (by unfold dvR; rw [HQ.out, decide_eq_true hc, ← hr0, ← ea]; rfl)
    have HLN : Hid (((List.range m).map fun i => bitS (f i)).length = m) := Lib.hid (by simp)
    generalize hlb : ((List.range m).map fun i => bitS (f i)) = lb at HT LT HLN
    have HHT := Lib.hid HT
    have HLT := Lib.hid LT
    have HLB := Lib.hid hlb
    have HMS := Lib.hid hMs
    have hmN : m - N = p := by omega
    have HMN := Lib.hid hmN
    clear c1 c2 hfb hf hfn ea hN hp hm HT LT b1 b2 hraw hA hB hAl hBl hr0 hlb hMs hmN hc e2 k0 k1 q1 q2 q3 q4 q5 q6 hh hl
    go_enter Tryd.func38, Tryd.ntmps38
    go_wp2_with fail
    generalize hW0 : World.alloc w _ = W0
    obtain ⟨hx, hsx, hwx⟩ := s2_new hW0
    clear hW0
    generalize hW : World.alloc W0 _ = W2
    obtain ⟨hr, hsr, hwr⟩ := s2_new hW
    rw [hsx] at hr
    clear hW
    have X1 := s2_on hx hwr
    have B1 := below_on hwx hwr
    have hne : w.heap.size ≤ w.heap.size + 1 := by omega
    clear hx hwx hwr hsx hsr
    refine (HV.out _).mono ?_
    rintro e w3 ⟨rfl, hb3⟩
    have X3 := s2_on X1 hb3
    have R3 := s2_on hr hb3
    have B3 := below_on B1 hb3
    clear X1 hr B1 hb3
    obtain ⟨x0, x1, x2, x3⟩ := id X3
    obtain ⟨a0, a1, a2, a3⟩ := id R3
    go_wp2_with fail
    refine (H2.out _).mono ?_
    rintro e w' ⟨rfl, rfl⟩
    have hws : w.heap.size + 1 < w3.heap.size := R3.1
    go_wp2_with fail
    generalize hW : World.alloc w3 _ = W4
    obtain ⟨hr0, hs4, hwW⟩ := heap_last hW
    clear hW
    have X4 := Lib.hid (s2_on X3 hwW)
    have R4 := Lib.hid (s2_on R3 hwW)
    have B4 := Lib.hid (below_on B3 hwW)
    obtain ⟨rb, hrb⟩ : ∃ rb, w3.heap.size = rb := ⟨_, rfl⟩
    rw [hrb] at hr0 hws ⊢
    have HBR : Hid (BR W4 rb (fun i => bitS (f i)) m 0) := Lib.hid ⟨M, hr0, HMS.out, fun i h => absurd h (by omega)⟩
    clear hr0 hs4 hwW X3 R3 B3 x0 x1 x2 x3 a0 a1 a2 a3 hmk hrb
    go_loopw [7] (fun i wr => ∃ k : Nat, i = .int .i64 k ∧ k ≤ m ∧ BR wr rb (fun i => bitS (f i)) m k ∧ S2 wr w.heap.size (bs h) (bs l) ∧ S2 wr (w.heap.size + 1) ⟨#[]⟩ ⟨#[]⟩ ∧ Below w.heap.size w wr) (fun i _ => m - (intOf i).toNat)
    case atStart => exact ⟨0, rfl, Nat.zero_le _, HBR.out, X4.out, R4.out, B4.out⟩
    case round =>
      obtain ⟨k, rfl, hk, hbr, hx, hrz, hb⟩ := hrel
      by_cases hlt : k < m
      · have hk' : (k : Int) < (m : Int) := by omega
        have hwk : IntKind.i64.wrap ((k : Int) + 1) = ((k + 1 : Nat) : Int) := by rw [IntKind.wrap_i64]; omega
        obtain ⟨j, hj⟩ : ∃ j, K * k = j := ⟨_, rfl⟩
        have hjb : j ≤ 1000000000 := by rw [← hj]; exact Nat.le_trans (Nat.mul_le_mul hK2 (show k ≤ 100000 by omega)) (by omega)
        have hji : (K : Int) * (k : Int) = (j : Int) := by rw [← hj]; exact (Int.natCast_mul K k).symm
        have hwj : IntKind.i64.wrap (j : Int) = (j : Int) := by rw [IntKind.wrap_i64]; omega
        have C1 := Lib.hid (HAS.out j (by omega))
        have hfk := HFN.out k
        rw [hj] at hfk
        rw [hfk] at C1
        have X5 := Lib.hid hx
        have R5 := Lib.hid hrz
        have B5 := Lib.hid hb
        have BR5 := Lib.hid hbr
        obtain ⟨x0, x1, x2, x3⟩ := id hx
        clear hx hrz hb hbr hfk hj
        go_wp2_with fail
        refine (C1.out _).mono ?_
        rintro e w5 ⟨rfl, hb5⟩
        have hbr5 := br_on BR5.out hb5
        have X6 := Lib.hid (s2_on X5.out hb5)
        have R6 := Lib.hid (s2_on R5.out hb5)
        have B6 := Lib.hid (below_on B5.out hb5)
        obtain ⟨⟨v1, hv1⟩, hf1, hbl1⟩ := br_cell hbr5 hlt
        have HBR5 := Lib.hid hbr5
        clear hbr5 hb5 x0 x1 x2 x3
        go_wp2_with fail
        refine (l7Bit_any _ _).mono ?_
        rintro e w6 ⟨rfl, rfl⟩
        go_wp2
        go_roundw
        case rel => exact ⟨k + 1, rfl, by omega, br_put HBR5.out hlt rfl, s2_set X6.out (by omega), s2_set R6.out (by omega), B6.out.setCell (by show w.heap.size ≤ rb; omega) _⟩
        case measure => simp [intOf]; omega
      · have hk' : ¬ (k : Int) < (m : Int) := by omega
        obtain rfl : k = m := by omega
        have hrow := br_row hbr
        rw [HLB.out] at hrow
        have HROW := Lib.hid hrow
        have hsl1 := slice_upto rb N k (Nat.le_of_lt hNm)
        have hsl2 := slice_from rb N k hNm
        rw [HMN.out] at hsl2
        have hcv1 : ∀ W, RowB W rb lb → (convert 52 9 (.slice (some ⟨rb, 0, none⟩) N k)).run Tryd.prog W = .ok (.string (bs A)) W := fun W hW => conv_upto hW (by rw [HLN.out]; omega) HHT.out
        have hcv2 : ∀ W, RowB W rb lb → (convert 52 9 (.slice (some ⟨rb, N, none⟩) p p)).run Tryd.prog W = .ok (.string (bs Bb)) W := fun W hW => conv_from hW (by rw [HLN.out, ← HMN.out]; omega) HLT.out
        have X := Lib.hid hx
        have R := Lib.hid hrz
        have B := Lib.hid hb
        obtain ⟨x0, x1, x2, x3⟩ := id hx
        clear hbr hrow hx hrz hb
        go_upto_region 8 with fail
        clear x0 x1 x2 x3
        refine wp_region_held_drew (S := (fun w' => RowB w' rb lb ∧ w'.cell? ⟨w.heap.size, 0, none⟩ = some (.string (bs h)) ∧ w'.cell? ⟨w.heap.size, 1, none⟩ = some (.string (bs l)))) (by kernel_rfl) ?_ (fun hHeld => ?_)
        · try dsimp only
          first | (refine ⟨rowb_on HROW.out ?_, s2_keep X.out ?_⟩ <;> go_grown; done) | exact ⟨rowb_set (rowb_set (rowb_on HROW.out hbW7) (by omega)) (by omega), (s2_set (s2_set (s2_on X.out hbW7) (by omega)) (by omega)).2.1, (s2_set (s2_set (s2_on X.out hbW7) (by omega)) (by omega)).2.2.1⟩
        refine wpAnyH_take (i := 0) (oi := { dst := some 40, op := Go.Op.move (Go.Operand.tmp 6), type := 52, pos := "l7_sets.go:232", after := #[], guard := none }) (v := ?_) rfl (by kernel_rfl) (by kernel_rfl) (by kernel_rfl) (fun _ _ _ h => h) (Or.inl ⟨by rfl, ?_⟩) (by assumption) ?_
        rotate_left
        · (intro w hSw; (try dsimp only at hSw); first | (go_simp; done) | (go_simp; with_reducible rfl))
        try simp only [Act.put, List.setIfInBounds_toArray, List.set_cons_zero, List.set_cons_succ]
        refine wpAnyH_take (i := 1) (oi := { dst := some 41, op := Go.Op.fieldAddr 26 (Go.Operand.tmp 2) 0, type := 0, pos := "l7_sets.go:232", after := #[], guard := none }) (v := ?_) rfl (by kernel_rfl) (by kernel_rfl) (by kernel_rfl) (fun _ _ _ h => h) (Or.inl ⟨by rfl, ?_⟩) (by assumption) ?_
        rotate_left
        · (intro w hSw; (try dsimp only at hSw); first | (go_simp; done) | (go_simp; with_reducible rfl))
        try simp only [Act.put, List.setIfInBounds_toArray, List.set_cons_zero, List.set_cons_succ]
        refine wpAnyH_take (i := 2) (oi := { dst := some 42, op := Go.Op.load 9 (Go.Operand.tmp 41), type := 9, pos := "l7_sets.go:232", after := #[{ on := 1, ground := Go.Ground.data }], guard := none }) (v := ?_) rfl (by kernel_rfl) (by kernel_rfl) (by kernel_rfl) (fun _ _ _ h => h) (Or.inl ⟨by rfl, ?_⟩) (by assumption) ?_
        rotate_left
        · (intro w hSw; (try dsimp only at hSw); first | (go_simp; done) | (go_simp; with_reducible rfl))
        try simp only [Act.put, List.setIfInBounds_toArray, List.set_cons_zero, List.set_cons_succ]
        refine wpAnyH_take (i := 3) (oi := { dst := some 43, op := Go.Op.call { callee := Go.Callee.builtin Go.Builtin.len, args := #[Go.Operand.tmp 42], argTypes := #[9] }, type := 3, pos := "l7_sets.go:232", after := #[{ on := 2, ground := Go.Ground.data }], guard := none }) (v := ?_) rfl (by kernel_rfl) (by kernel_rfl) (by kernel_rfl) (fun _ _ _ h => h) (Or.inl ⟨by rfl, ?_⟩) (by assumption) ?_
        rotate_left
        · (intro w hSw; (try dsimp only at hSw); first | (go_simp; done) | (go_simp; with_reducible rfl))
        try simp only [Act.put, List.setIfInBounds_toArray, List.set_cons_zero, List.set_cons_succ]
        refine wpAnyH_take (i := 4) (oi := { dst := some 44, op := Go.Op.slice 52 (Go.Operand.tmp 40) none (some (Go.Operand.tmp 43)) none, type := 52, pos := "l7_sets.go:232", after := #[{ on := 0, ground := Go.Ground.data }, { on := 3, ground := Go.Ground.data }], guard := none }) (v := ?_) rfl (by kernel_rfl) (by kernel_rfl) (by kernel_rfl) (fun _ _ _ h => h) (Or.inl ⟨by rfl, ?_⟩) (by assumption) ?_
        rotate_left
        · (intro w hSw; (try dsimp only at hSw); first | (go_simp; done) | (go_simp; with_reducible rfl))
        try simp only [Act.put, List.setIfInBounds_toArray, List.set_cons_zero, List.set_cons_succ]
        refine wpAnyH_take (i := 5) (oi := { dst := some 45, op := Go.Op.convert 52 9 (Go.Operand.tmp 44), type := 9, pos := "l7_sets.go:232", after := #[{ on := 4, ground := Go.Ground.data }], guard := none }) (v := ?_) rfl (by kernel_rfl) (by kernel_rfl) (by kernel_rfl) (fun _ _ _ h => h) (Or.inl ⟨by rfl, ?_⟩) (by assumption) ?_
        rotate_left
        · (intro w hSw; (try dsimp only at hSw); first | (go_simp; done) | (go_simp; with_reducible rfl))
        try simp only [Act.put, List.setIfInBounds_toArray, List.set_cons_zero, List.set_cons_succ]
        refine wpAnyH_take (i := 6) (oi := { dst := some 46, op := Go.Op.move (Go.Operand.tmp 6), type := 52, pos := "l7_sets.go:232", after := #[], guard := none }) (v := ?_) rfl (by kernel_rfl) (by kernel_rfl) (by kernel_rfl) (fun _ _ _ h => h) (Or.inl ⟨by rfl, ?_⟩) (by assumption) ?_
        rotate_left
        · (intro w hSw; (try dsimp only at hSw); first | (go_simp; done) | (go_simp; with_reducible rfl))
        try simp only [Act.put, List.setIfInBounds_toArray, List.set_cons_zero, List.set_cons_succ]
        refine wpAnyH_take (i := 7) (oi := { dst := some 47, op := Go.Op.fieldAddr 26 (Go.Operand.tmp 2) 0, type := 0, pos := "l7_sets.go:232", after := #[], guard := none }) (v := ?_) rfl (by kernel_rfl) (by kernel_rfl) (by kernel_rfl) (fun _ _ _ h => h) (Or.inl ⟨by rfl, ?_⟩) (by assumption) ?_
        rotate_left
        · (intro w hSw; (try dsimp only at hSw); first | (go_simp; done) | (go_simp; with_reducible rfl))
        try simp only [Act.put, List.setIfInBounds_toArray, List.set_cons_zero, List.set_cons_succ]
        refine wpAnyH_take (i := 8) (oi := { dst := some 48, op := Go.Op.load 9 (Go.Operand.tmp 47), type := 9, pos := "l7_sets.go:232", after := #[{ on := 7, ground := Go.Ground.data }], guard := none }) (v := ?_) rfl (by kernel_rfl) (by kernel_rfl) (by kernel_rfl) (fun _ _ _ h => h) (Or.inl ⟨by rfl, ?_⟩) (by assumption) ?_
        rotate_left
        · (intro w hSw; (try dsimp only at hSw); first | (go_simp; done) | (go_simp; with_reducible rfl))
        try simp only [Act.put, List.setIfInBounds_toArray, List.set_cons_zero, List.set_cons_succ]
        refine wpAnyH_take (i := 9) (oi := { dst := some 49, op := Go.Op.call { callee := Go.Callee.builtin Go.Builtin.len, args := #[Go.Operand.tmp 48], argTypes := #[9] }, type := 3, pos := "l7_sets.go:232", after := #[{ on := 8, ground := Go.Ground.data }], guard := none }) (v := ?_) rfl (by kernel_rfl) (by kernel_rfl) (by kernel_rfl) (fun _ _ _ h => h) (Or.inl ⟨by rfl, ?_⟩) (by assumption) ?_
        rotate_left
        · (intro w hSw; (try dsimp only at hSw); first | (go_simp; done) | (go_simp; with_reducible rfl))
        try simp only [Act.put, List.setIfInBounds_toArray, List.set_cons_zero, List.set_cons_succ]
        refine wpAnyH_take (i := 10) (oi := { dst := some 50, op := Go.Op.slice 52 (Go.Operand.tmp 46) (some (Go.Operand.tmp 49)) none none, type := 52, pos := "l7_sets.go:232", after := #[{ on := 6, ground := Go.Ground.data }, { on := 9, ground := Go.Ground.data }], guard := none }) (v := ?_) rfl (by kernel_rfl) (by kernel_rfl) (by kernel_rfl) (fun _ _ _ h => h) (Or.inl ⟨by rfl, ?_⟩) (by assumption) ?_
        rotate_left
        · (intro w hSw; (try dsimp only at hSw); first | (go_simp; done) | (go_simp; with_reducible rfl))
        try simp only [Act.put, List.setIfInBounds_toArray, List.set_cons_zero, List.set_cons_succ]
        refine wpAnyH_take (i := 11) (oi := { dst := some 51, op := Go.Op.convert 52 9 (Go.Operand.tmp 50), type := 9, pos := "l7_sets.go:232", after := #[{ on := 10, ground := Go.Ground.data }], guard := none }) (v := ?_) rfl (by kernel_rfl) (by kernel_rfl) (by kernel_rfl) (fun _ _ _ h => h) (Or.inl ⟨by rfl, ?_⟩) (by assumption) ?_
        rotate_left
        · (intro w hSw; (try dsimp only at hSw); first | (go_simp; done) | (go_simp; with_reducible rfl))
        try simp only [Act.put, List.setIfInBounds_toArray, List.set_cons_zero, List.set_cons_succ]
        refine wpAnyH_ready (rs := [12]) (by kernel_rfl) (by simp) ?_
        refine AllReadyH.cons (o := { dst := some 52, op := Go.Op.call { callee := Go.Callee.value (Go.Operand.func 44), args := #[Go.Operand.tmp 45, Go.Operand.tmp 51], argTypes := #[9, 9] }, type := 29, pos := "l7_sets.go:232", after := #[{ on := 5, ground := Go.Ground.data }, { on := 11, ground := Go.Ground.data }], guard := none }) rfl (fun K hK => ?_) AllReadyH.nil
        go_simp
        (go_at_call 44; refine (HR.out _).mono ?_; rintro e w7 ⟨rfl, hb7⟩; have hbW7 := below_on (w := wr) (by go_grown) hb7; have R7 := s2_on R.out hbW7; obtain ⟨a0, a1, a2, a3⟩ := id R7)
        (try go_wp2_with fail)
        refine hK.out _ _ ?_ (fun hHeld => ?_)
        · try dsimp only
          first | (refine ⟨rowb_on HROW.out ?_, s2_keep X.out ?_⟩ <;> go_grown; done) | exact ⟨rowb_set (rowb_set (rowb_on HROW.out hbW7) (by omega)) (by omega), (s2_set (s2_set (s2_on X.out hbW7) (by omega)) (by omega)).2.1, (s2_set (s2_set (s2_on X.out hbW7) (by omega)) (by omega)).2.2.1⟩
        clear hK K
        try simp only [Act.put, List.setIfInBounds_toArray, List.set_cons_zero, List.set_cons_succ]
        refine wpAnyH_take (i := 13) (oi := { dst := some 53, op := Go.Op.extract (Go.Operand.tmp 52) 0, type := 26, pos := "l7_sets.go:232", after := #[{ on := 12, ground := Go.Ground.data }], guard := none }) (v := ?_) rfl (by kernel_rfl) (by kernel_rfl) (by kernel_rfl) (fun _ _ _ h => h) (Or.inl ⟨by rfl, ?_⟩) (by assumption) ?_
        rotate_left
        · (intro w hSw; (try dsimp only at hSw); first | (go_simp; done) | (go_simp; with_reducible rfl))
        try simp only [Act.put, List.setIfInBounds_toArray, List.set_cons_zero, List.set_cons_succ]
        refine wpAnyH_take (i := 14) (oi := { dst := some 54, op := Go.Op.extract (Go.Operand.tmp 52) 1, type := 4, pos := "l7_sets.go:232", after := #[{ on := 12, ground := Go.Ground.data }], guard := none }) (v := ?_) rfl (by kernel_rfl) (by kernel_rfl) (by kernel_rfl) (fun _ _ _ h => h) (Or.inl ⟨by rfl, ?_⟩) (by assumption) ?_
        rotate_left
        · (intro w hSw; (try dsimp only at hSw); first | (go_simp; done) | (go_simp; with_reducible rfl))
        try simp only [Act.put, List.setIfInBounds_toArray, List.set_cons_zero, List.set_cons_succ]
        refine wpAnyH_ready (rs := [15]) (by kernel_rfl) (by simp) ?_
        refine AllReadyH.cons (o := { dst := none, op := Go.Op.store 26 (Go.Operand.tmp 4) (Go.Operand.tmp 53), type := 0, pos := "l7_sets.go:232", after := #[{ on := 13, ground := Go.Ground.data }, { on := 12, ground := Go.Ground.chain }, { on := 0, ground := Go.Ground.phase }, { on := 1, ground := Go.Ground.phase }, { on := 2, ground := Go.Ground.phase }, { on := 3, ground := Go.Ground.phase }, { on := 4, ground := Go.Ground.phase }, { on := 5, ground := Go.Ground.phase }, { on := 6, ground := Go.Ground.phase }, { on := 7, ground := Go.Ground.phase }, { on := 8, ground := Go.Ground.phase }, { on := 9, ground := Go.Ground.phase }, { on := 10, ground := Go.Ground.phase }, { on := 11, ground := Go.Ground.phase }, { on := 12, ground := Go.Ground.phase }, { on := 13, ground := Go.Ground.phase }, { on := 14, ground := Go.Ground.phase }], guard := none }) rfl (fun K hK => ?_) AllReadyH.nil
        go_simp
        refine hK.out _ _ ?_ (fun hHeld => ?_)
        · try dsimp only
          first | (refine ⟨rowb_on HROW.out ?_, s2_keep X.out ?_⟩ <;> go_grown; done) | exact ⟨rowb_set (rowb_set (rowb_on HROW.out hbW7) (by omega)) (by omega), (s2_set (s2_set (s2_on X.out hbW7) (by omega)) (by omega)).2.1, (s2_set (s2_set (s2_on X.out hbW7) (by omega)) (by omega)).2.2.1⟩
        clear hK K
        try simp only [Act.put, List.setIfInBounds_toArray, List.set_cons_zero, List.set_cons_succ]
        refine wpAnyH_take (i := 16) (oi := { dst := some 5, op := Go.Op.assign (Go.Operand.tmp 54), type := 4, pos := "l7_sets.go:232", after := #[{ on := 14, ground := Go.Ground.data }, { on := 15, ground := Go.Ground.chain }, { on := 0, ground := Go.Ground.phase }, { on := 1, ground := Go.Ground.phase }, { on := 2, ground := Go.Ground.phase }, { on := 3, ground := Go.Ground.phase }, { on := 4, ground := Go.Ground.phase }, { on := 5, ground := Go.Ground.phase }, { on := 6, ground := Go.Ground.phase }, { on := 7, ground := Go.Ground.phase }, { on := 8, ground := Go.Ground.phase }, { on := 9, ground := Go.Ground.phase }, { on := 10, ground := Go.Ground.phase }, { on := 11, ground := Go.Ground.phase }, { on := 12, ground := Go.Ground.phase }, { on := 13, ground := Go.Ground.phase }, { on := 14, ground := Go.Ground.phase }, { on := 15, ground := Go.Ground.phase }], guard := none }) (v := ?_) rfl (by kernel_rfl) (by kernel_rfl) (by kernel_rfl) (fun _ _ _ h => h) (Or.inl ⟨by rfl, ?_⟩) (by assumption) ?_
        rotate_left
        · (intro w hSw; (try dsimp only at hSw); first | (go_simp; done) | (go_simp; with_reducible rfl))
        try simp only [Act.put, List.setIfInBounds_toArray, List.set_cons_zero, List.set_cons_succ]
        refine wpAnyH_done (by kernel_rfl) ?_ _
        go_wp2
        generalize hW8 : World.setCell _ _ _ = W8
        obtain ⟨⟨_, r1, r2, _⟩, _, _, hb8⟩ := s2_put hW8 _ _ R7
        refine bodyPost_ret (v := .tuple #[.agg #[.string (bs r.1.1), .string (bs r.1.2)], .bool r.2]) (by simp [results, Tryd.results38, go_sem, r1, r2]) rfl ⟨by rw [HF.out], ?_⟩
        exact below_on (hb8 w (below_on B.out hbW7) hne) (by go_grown)

end Go.Proofs.YtmhpjaaffpomnaaDoor
