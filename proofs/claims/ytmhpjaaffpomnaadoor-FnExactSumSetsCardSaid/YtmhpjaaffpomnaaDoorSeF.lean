/- SumSets of the model. -/
import Derived.Test.YtmhpjaaffpomnaaDoorSeE
namespace Go.Proofs.YtmhpjaaffpomnaaDoor
open Go.RowKit

theorem bm_put {W : World} {b m j : Nat} {g : Nat → Bool} (h : BR W b (fun i => bitS (g i)) m m) (hj : j < m) : BR (W.setCell ⟨b, j, none⟩ (.int .u8 49)) b (fun i => bitS (g i || decide (i = j))) m m := by
  obtain ⟨c, h1, h2, h3⟩ := h
  refine ⟨_, heap_setCell_same _ _ _ _ _ _ h1, by simpa using h2, fun i hi => ?_⟩
  by_cases e : i = j
  · subst e
    rw [Array.getElem?_setIfInBounds_self_of_lt (by omega)]
    simp [bitS]
  · rw [Array.getElem?_setIfInBounds_ne (by omega), h3 i hi]
    simp [e]
theorem bm_as {W : World} {b m : Nat} {g g' : Nat → Bool} (h : BR W b (fun i => bitS (g i)) m m) (e : ∀ n, n < m → g n = g' n) : BR W b (fun i => bitS (g' i)) m m := by
  obtain ⟨c, h1, h2, h3⟩ := h
  exact ⟨c, h1, h2, fun i hi => by rw [h3 i hi]; simp only [e i hi]⟩
/-- What is told when the first numbers are done. -/
def gA (a b : Nat → UInt8) (k n : Nat) : Bool := (List.range k).any fun i => decide (i ≤ n) && (inS a i && inS b (n - i))
def gB (a b : Nat → UInt8) (k j n : Nat) : Bool := gA a b k n || (inS a k && (List.range j).any fun i => inS b i && decide (k + i = n))
theorem gA_next (a b : Nat → UInt8) (k n : Nat) : gA a b (k + 1) n = (gA a b k n || (decide (k ≤ n) && (inS a k && inS b (n - k)))) := by
  unfold gA
  rw [List.range_succ, List.any_append]
  simp
theorem gB_zero (a b : Nat → UInt8) (k n : Nat) : gB a b k 0 n = gA a b k n := by simp [gB]
theorem gB_off {a b : Nat → UInt8} {k : Nat} (h : inS a k = false) (j n : Nat) : gB a b k j n = gA a b (k + 1) n := by
  rw [gA_next]
  simp [gB, h]
theorem gB_skip {a b : Nat → UInt8} {k j : Nat} (h : inS b j = false) (n : Nat) : gB a b k j n = gB a b k (j + 1) n := by
  unfold gB
  rw [List.range_succ, List.any_append]
  simp [h]
theorem gB_put {a b : Nat → UInt8} {k j : Nat} (h1 : inS a k = true) (h2 : inS b j = true) (n : Nat) : (gB a b k j n || decide (n = k + j)) = gB a b k (j + 1) n := by
  unfold gB
  rw [List.range_succ, List.any_append]
  simp [h1, h2, Bool.or_assoc]
  congr 2
  rw [decide_eq_decide]
  exact eq_comm
theorem gB_end {a b : Nat → UInt8} {k j m n : Nat} (hj : m ≤ k + j) (hn : n < m) : gB a b k j n = gA a b (k + 1) n := by
  rw [gA_next]
  unfold gB
  congr 1
  rw [Bool.eq_iff_iff]
  simp only [Bool.and_eq_true, List.any_eq_true, List.mem_range, decide_eq_true_eq]
  constructor
  · rintro ⟨h1, i, hi, h2, rfl⟩
    exact ⟨by omega, h1, by rw [Nat.add_sub_cancel_left]; exact h2⟩
  · rintro ⟨h0, h1, h2⟩
    exact ⟨h1, n - k, by omega, h2, by omega⟩
theorem gA_sum {a b : Nat → UInt8} {m n : Nat} (hn : n < m) : gA a b m n = sumB a b n := by
  rw [Bool.eq_iff_iff, sumB_iff]
  unfold gA
  simp only [List.any_eq_true, List.mem_range, Bool.and_eq_true, decide_eq_true_eq]
  constructor
  · rintro ⟨i, _, h0, h1, h2⟩
    exact ⟨i, n - i, by omega, h1, h2⟩
  · rintro ⟨i, j, rfl, h1, h2⟩
    exact ⟨i, by omega, by omega, h1, by rw [Nat.add_sub_cancel_left]; exact h2⟩

set_option maxRecDepth 10000 in
set_option maxHeartbeats 8000000 in
theorem specSumSets_any (h l h' l' : List UInt8) (w : World) (hh : h.length ≤ 1000000000) (hl : l.length ≤ 1000000000) (hh' : h'.length ≤ 1000000000) (hl' : l'.length ≤ 1000000000) :
    Calls Tryd.prog 40 #[.agg #[.string (bs h), .string (bs l)], .agg #[.string (bs h'), .string (bs l')]] w fun e w' => e = .returned (.tuple #[.agg #[.string (bs (smR h l h' l').1.1), .string (bs (smR h l h' l').1.2)], .bool (smR h l h' l').2]) ∧ Below w.heap.size w w' := by
  have HV := Lib.hid fun w => specSetValid_b h l w hh hl
  have HV2 := Lib.hid fun w => specSetValid_b h' l' w hh' hl'
  have HS := Lib.hid (svS_parts (h := h) (l := l))
  have HS2 := Lib.hid (svS_parts (h := h') (l := l'))
  obtain ⟨v, hv⟩ : ∃ v, svS h l = v := ⟨_, rfl⟩
  obtain ⟨v2, hv2⟩ : ∃ v, svS h' l' = v := ⟨_, rfl⟩
  have HQ : Hid (svS h l = v) := Lib.hid hv
  have HQ2 : Hid (svS h' l' = v2) := Lib.hid hv2
  rw [hv] at HV
  rw [hv2] at HV2
  clear hv hv2
  cases v with
  | false =>
    have HF : Hid (smR h l h' l' = (([], []), false)) := Lib.hid (by unfold smR; rw [HQ.out]; rfl)
    go_enter Tryd.func40, Tryd.ntmps40
    go_wp2_with fail
    generalize hW0 : World.alloc w _ = W0
    obtain ⟨hx, hsx, hwx⟩ := s2_new hW0
    clear hW0
    generalize hW : World.alloc W0 _ = W1
    obtain ⟨hz, hsz, hwz⟩ := s2_new hW
    rw [hsx] at hz
    clear hW
    generalize hW : World.alloc W1 _ = W2
    obtain ⟨hr, hsr, hwr⟩ := s2_new hW
    rw [hsz, hsx] at hr
    clear hW
    have X1 := s2_on hx (below_on hwz hwr)
    have Z1 := s2_on hz hwr
    have B1 := below_on hwx (below_on hwz hwr)
    have hne : w.heap.size ≤ w.heap.size + 1 + 1 := by omega
    clear hx hz hwx hwz hwr hsx hsz hsr
    refine (HV.out _).mono ?_
    rintro e w3 ⟨rfl, hb3⟩
    have X3 := s2_on X1 hb3
    have Z3 := s2_on Z1 hb3
    have R3 := s2_on hr hb3
    have B3 := below_on B1 hb3
    clear X1 Z1 hr B1 hb3
    obtain ⟨x0, x1, x2, x3⟩ := id X3
    obtain ⟨z0, z1, z2, z3⟩ := id Z3
    obtain ⟨a0, a1, a2, a3⟩ := id R3
    go_wp2
    generalize hW : World.setCell _ _ _ = W8
    obtain ⟨⟨_, r1, r2, _⟩, _, _, hb8⟩ := s2_put hW _ _ R3
    refine bodyPost_ret (v := .tuple #[.agg #[.string ⟨#[]⟩, .string ⟨#[]⟩], .bool false]) (by simp [results, Tryd.results40, go_sem, r1, r2]) rfl ⟨by rw [HF.out]; rfl, ?_⟩
    exact hb8 w B3 hne
  | true =>
    cases v2 with
    | false =>
      have HF : Hid (smR h l h' l' = (([], []), false)) := Lib.hid (by unfold smR; rw [HQ.out, HQ2.out]; rfl)
      go_enter Tryd.func40, Tryd.ntmps40
      go_wp2_with fail
      generalize hW0 : World.alloc w _ = W0
      obtain ⟨hx, hsx, hwx⟩ := s2_new hW0
      clear hW0
      generalize hW : World.alloc W0 _ = W1
      obtain ⟨hz, hsz, hwz⟩ := s2_new hW
      rw [hsx] at hz
      clear hW
      generalize hW : World.alloc W1 _ = W2
      obtain ⟨hr, hsr, hwr⟩ := s2_new hW
      rw [hsz, hsx] at hr
      clear hW
      have X1 := s2_on hx (below_on hwz hwr)
      have Z1 := s2_on hz hwr
      have B1 := below_on hwx (below_on hwz hwr)
      have hne : w.heap.size ≤ w.heap.size + 1 + 1 := by omega
      clear hx hz hwx hwz hwr hsx hsz hsr
      refine (HV.out _).mono ?_
      rintro e w3 ⟨rfl, hb3⟩
      have X3 := s2_on X1 hb3
      have Z3 := s2_on Z1 hb3
      have R3 := s2_on hr hb3
      have B3 := below_on B1 hb3
      clear X1 Z1 hr B1 hb3
      obtain ⟨x0, x1, x2, x3⟩ := id X3
      obtain ⟨z0, z1, z2, z3⟩ := id Z3
      obtain ⟨a0, a1, a2, a3⟩ := id R3
      go_wp2_with fail
      refine (HV2.out _).mono ?_
      rintro e w4 ⟨rfl, hb4⟩
      have X4 := s2_on X3 hb4
      have Z4 := s2_on Z3 hb4
      have R4 := s2_on R3 hb4
      have B4 := below_on B3 hb4
      clear X3 Z3 R3 B3 hb4 x0 x1 x2 x3 z0 z1 z2 z3 a0 a1 a2 a3
      obtain ⟨x0, x1, x2, x3⟩ := id X4
      obtain ⟨z0, z1, z2, z3⟩ := id Z4
      obtain ⟨a0, a1, a2, a3⟩ := id R4
      go_wp2
      generalize hW : World.setCell _ _ _ = W8
      obtain ⟨⟨_, r1, r2, _⟩, _, _, hb8⟩ := s2_put hW _ _ R4
      refine bodyPost_ret (v := .tuple #[.agg #[.string ⟨#[]⟩, .string ⟨#[]⟩], .bool false]) (by simp [results, Tryd.results40, go_sem, r1, r2]) rfl ⟨by rw [HF.out]; rfl, ?_⟩
      exact hb8 w B4 hne
    | true =>
      obtain ⟨q1, q2, q3, q4, q5, q6⟩ := HS.out HQ.out
      obtain ⟨p1, p2, p3, p4, p5, p6⟩ := HS2.out HQ2.out
      have hs1 := bs_size h
      have hs2 := bs_size h'
      have hs3 := bs_size l
      have hs4 := bs_size l'
      have hper0 := per_sm (per_at h l) (per_at h' l')
      obtain ⟨H, hH⟩ : ∃ k, h.length = k := ⟨_, rfl⟩
      obtain ⟨H', hH'⟩ : ∃ k, h'.length = k := ⟨_, rfl⟩
      obtain ⟨L, hL⟩ : ∃ k, l.length = k := ⟨_, rfl⟩
      obtain ⟨L', hL'⟩ : ∃ k, l'.length = k := ⟨_, rfl⟩
      obtain ⟨p, hp⟩ : ∃ k, L * L' = k := ⟨_, rfl⟩
      rw [hH, hH', hL, hL', hp] at hper0
      have hpi : (L : Int) * (L' : Int) = (p : Int) := by rw [← hp]; exact (Int.natCast_mul L L').symm
      have hpb : p ≤ 57600 := by rw [← hp]; exact Nat.le_trans (Nat.mul_le_mul (show L ≤ 240 by omega) (show L' ≤ 240 by omega)) (by omega)
      have hp0 : 0 < p := by rw [← hp]; exact Nat.mul_pos (by omega) (by omega)
      have hwp : IntKind.i64.wrap (p : Int) = (p : Int) := by rw [IntKind.wrap_i64]; omega
      by_cases hbig : 400 < p
      · have hd : decide ((400 : Int) < (p : Int)) = true := decide_eq_true (by omega)
        have hd2 : decide (400 < p) = true := decide_eq_true hbig
        have HF : Hid (smR h l h' l' = (([], []), false)) := Lib.hid (by unfold smR; rw [hL, hL', hp, decide_eq_false (show ¬ p ≤ 400 by omega), Bool.and_false]; rfl)
        rw [hH] at hs1
        rw [hH'] at hs2
        rw [hL] at hs3
        rw [hL'] at hs4
        clear q1 q2 q3 q4 q5 q6 p1 p2 p3 p4 p5 p6 hH hH' hL hL' hp hpb hbig hh hl hh' hl' hper0
        go_enter Tryd.func40, Tryd.ntmps40
        go_wp2_with fail
        generalize hW0 : World.alloc w _ = W0
        obtain ⟨hx, hsx, hwx⟩ := s2_new hW0
        clear hW0
        generalize hW : World.alloc W0 _ = W1
        obtain ⟨hz, hsz, hwz⟩ := s2_new hW
        rw [hsx] at hz
        clear hW
        generalize hW : World.alloc W1 _ = W2
        obtain ⟨hr, hsr, hwr⟩ := s2_new hW
        rw [hsz, hsx] at hr
        clear hW
        have X1 := s2_on hx (below_on hwz hwr)
        have Z1 := s2_on hz hwr
        have B1 := below_on hwx (below_on hwz hwr)
        have hne : w.heap.size ≤ w.heap.size + 1 + 1 := by omega
        clear hx hz hwx hwz hwr hsx hsz hsr
        refine (HV.out _).mono ?_
        rintro e w3 ⟨rfl, hb3⟩
        have X3 := s2_on X1 hb3
        have Z3 := s2_on Z1 hb3
        have R3 := s2_on hr hb3
        have B3 := below_on B1 hb3
        clear X1 Z1 hr B1 hb3
        obtain ⟨x0, x1, x2, x3⟩ := id X3
        obtain ⟨z0, z1, z2, z3⟩ := id Z3
        obtain ⟨a0, a1, a2, a3⟩ := id R3
        go_wp2_with fail
        refine (HV2.out _).mono ?_
        rintro e w4 ⟨rfl, hb4⟩
        have X4 := s2_on X3 hb4
        have Z4 := s2_on Z3 hb4
        have R4 := s2_on R3 hb4
        have B4 := below_on B3 hb4
        clear X3 Z3 R3 B3 hb4 x0 x1 x2 x3 z0 z1 z2 z3 a0 a1 a2 a3
        obtain ⟨x0, x1, x2, x3⟩ := id X4
        obtain ⟨z0, z1, z2, z3⟩ := id Z4
        obtain ⟨a0, a1, a2, a3⟩ := id R4
        go_wp2
        generalize hW : World.setCell _ _ _ = W8
        obtain ⟨⟨_, r1, r2, _⟩, _, _, hb8⟩ := s2_put hW _ _ R4
        refine bodyPost_ret (v := .tuple #[.agg #[.string ⟨#[]⟩, .string ⟨#[]⟩], .bool false]) (by simp [results, Tryd.results40, go_sem, r1, r2]) rfl ⟨by rw [HF.out]; rfl, ?_⟩
        exact hb8 w B4 hne
      · have hd : decide ((400 : Int) < (p : Int)) = false := decide_eq_false (by omega)
        have hd2 : decide (400 < p) = false := decide_eq_false hbig
        have HF0 : Hid (smR h l h' l' = resA (smA (atS h l) (atS h' l'))) := Lib.hid (by unfold smR; rw [HQ.out, HQ2.out, hL, hL', hp, decide_eq_true (show p ≤ 400 by omega)]; rfl)
        have HA := Lib.hid fun (n : Nat) (hn : n ≤ 9223372036854775807) w => l7Has_any h l n w q6 hh hl hn
        have HB0 := Lib.hid fun (n : Nat) (hn : n ≤ 9223372036854775807) w => l7Has_any h' l' n w p6 hh' hl' hn
        obtain ⟨A, hA⟩ : ∃ A, atS h l = A := ⟨_, rfl⟩
        obtain ⟨B, hB⟩ : ∃ A, atS h' l' = A := ⟨_, rfl⟩
        rw [hA] at HA
        rw [hB] at HB0
        rw [hA, hB] at HF0 hper0
        obtain ⟨u1, hu1⟩ : ∃ k, H + H' = k := ⟨_, rfl⟩
        obtain ⟨u2, hu2⟩ : ∃ k, u1 + L = k := ⟨_, rfl⟩
        obtain ⟨u3, hu3⟩ : ∃ k, u2 + L' = k := ⟨_, rfl⟩
        obtain ⟨N, hN⟩ : ∃ k, u3 + p = k := ⟨_, rfl⟩
        obtain ⟨m, hm⟩ : ∃ k, N + p = k := ⟨_, rfl⟩
        have hw1 : IntKind.i64.wrap ((H : Int) + (H' : Int)) = (u1 : Int) := by rw [IntKind.wrap_i64]; omega
        have hw2 : IntKind.i64.wrap ((u1 : Int) + (L : Int)) = (u2 : Int) := by rw [IntKind.wrap_i64]; omega
        have hw3 : IntKind.i64.wrap ((u2 : Int) + (L' : Int)) = (u3 : Int) := by rw [IntKind.wrap_i64]; omega
        have hw4 : IntKind.i64.wrap ((u3 : Int) + (p : Int)) = (N : Int) := by rw [IntKind.wrap_i64]; omega
        have hw5 : IntKind.i64.wrap ((N : Int) + (p : Int)) = (m : Int) := by rw [IntKind.wrap_i64]; omega
        have hmb : m ≤ 100000 := by omega
        have hNm : N < m := by omega
        obtain ⟨M, hmk, hMs⟩ := br_new m (by omega)
        obtain ⟨HT, LT⟩ := rng_take (sumB A B) N p
        obtain ⟨b1, b2⟩ := raw_bits (f := sumB A B) (N := N) (p := p)
        have hraw := raw_at (a := smA A B) hp0 (per_up hper0 (show H + H' + p ≤ N by omega))
        obtain ⟨X0, hX0⟩ : ∃ X, rawH (fun n => bitS (sumB A B n)) N = X := ⟨_, rfl⟩
        obtain ⟨Y0, hY0⟩ : ∃ X, rawL (fun n => bitS (sumB A B n)) N p = X := ⟨_, rfl⟩
        have hAl : X0.length = N := by rw [← hX0]; simp [rawH]
        have hBl : Y0.length = p := by rw [← hY0]; simp [rawL]
        have hraw2 : atS X0 Y0 = smA A B := by rw [← hX0, ← hY0]; exact hraw
        rw [hX0] at b1 HT
        rw [hY0] at b2 LT
        rw [hm] at HT LT
        have HR := Lib.hid fun w => l7Result_any X0 Y0 w (fun e => by rw [e] at hBl; simp at hBl; omega) b1 b2 (by omega) (by omega)
        rw [hraw2] at HR
        obtain ⟨r, hr0⟩ : ∃ r, resA (smA A B) = r := ⟨_, rfl⟩
        rw [hr0] at HR HF0
        have HLN : Hid (((List.range m).map fun i => bitS (sumB A B i)).length = m) := Lib.hid (by simp)
        generalize hlb : ((List.range m).map fun i => bitS (sumB A B i)) = lb at HT LT HLN
        have HHT := Lib.hid HT
        have HLT := Lib.hid LT
        have HLB := Lib.hid hlb
        have HMS := Lib.hid hMs
        have hmN : m - N = p := by omega
        have HMN := Lib.hid hmN
        rw [hH] at hs1
        rw [hH'] at hs2
        rw [hL] at hs3
        rw [hL'] at hs4
        clear q1 q2 q3 q4 q5 q6 p1 p2 p3 p4 p5 p6 hH hH' hL hL' hp hpb hbig hh hl hh' hl' hper0 hA hB hu1 hu2 hu3 hN hm HT LT b1 b2 hraw hraw2 hX0 hY0 hAl hBl hr0 hlb hMs hmN hp0
        go_enter Tryd.func40, Tryd.ntmps40
        go_wp2_with fail
        generalize hW0 : World.alloc w _ = W0
        obtain ⟨hx, hsx, hwx⟩ := s2_new hW0
        clear hW0
        generalize hW : World.alloc W0 _ = W1
        obtain ⟨hz, hsz, hwz⟩ := s2_new hW
        rw [hsx] at hz
        clear hW
        generalize hW : World.alloc W1 _ = W2
        obtain ⟨hr, hsr, hwr⟩ := s2_new hW
        rw [hsz, hsx] at hr
        clear hW
        have X1 := s2_on hx (below_on hwz hwr)
        have Z1 := s2_on hz hwr
        have B1 := below_on hwx (below_on hwz hwr)
        have hne : w.heap.size ≤ w.heap.size + 1 + 1 := by omega
        clear hx hz hwx hwz hwr hsx hsz hsr
        refine (HV.out _).mono ?_
        rintro e w3 ⟨rfl, hb3⟩
        have X3 := s2_on X1 hb3
        have Z3 := s2_on Z1 hb3
        have R3 := s2_on hr hb3
        have B3 := below_on B1 hb3
        clear X1 Z1 hr B1 hb3
        obtain ⟨x0, x1, x2, x3⟩ := id X3
        obtain ⟨z0, z1, z2, z3⟩ := id Z3
        obtain ⟨a0, a1, a2, a3⟩ := id R3
        go_wp2_with fail
        refine (HV2.out _).mono ?_
        rintro e w4 ⟨rfl, hb4⟩
        have X4 := s2_on X3 hb4
        have Z4 := s2_on Z3 hb4
        have R4 := s2_on R3 hb4
        have B4 := below_on B3 hb4
        clear X3 Z3 R3 B3 hb4 x0 x1 x2 x3 z0 z1 z2 z3 a0 a1 a2 a3
        obtain ⟨x0, x1, x2, x3⟩ := id X4
        obtain ⟨z0, z1, z2, z3⟩ := id Z4
        obtain ⟨a0, a1, a2, a3⟩ := id R4
        have hws : w.heap.size + 1 + 1 < w4.heap.size := R4.1
        go_wp2_with fail
        generalize hW : World.alloc w4 _ = W5
        obtain ⟨hr0, hs5, hwW⟩ := heap_last hW
        clear hW
        have X5 := Lib.hid (s2_on X4 hwW)
        have Z5 := Lib.hid (s2_on Z4 hwW)
        have R5 := Lib.hid (s2_on R4 hwW)
        have B5 := Lib.hid (below_on B4 hwW)
        obtain ⟨rb, hrb⟩ : ∃ rb, w4.heap.size = rb := ⟨_, rfl⟩
        rw [hrb] at hr0 hws ⊢
        have HBR : Hid (BR W5 rb (fun _ => bitS false) m 0) := Lib.hid ⟨M, hr0, HMS.out, fun i h => absurd h (by omega)⟩
        clear hr0 hs5 hwW X4 Z4 R4 B4 x0 x1 x2 x3 z0 z1 z2 z3 a0 a1 a2 a3 hmk hrb
        go_loopw [9] (fun i wr => ∃ k : Nat, i = .int .i64 k ∧ k ≤ m ∧ BR wr rb (fun _ => bitS false) m k ∧ S2 wr w.heap.size (bs h) (bs l) ∧ S2 wr (w.heap.size + 1) (bs h') (bs l') ∧ S2 wr (w.heap.size + 1 + 1) ⟨#[]⟩ ⟨#[]⟩ ∧ Below w.heap.size w wr) (fun i _ => m - (intOf i).toNat)
        case atStart => exact ⟨0, rfl, Nat.zero_le _, HBR.out, X5.out, Z5.out, R5.out, B5.out⟩
        case round =>
          obtain ⟨k, rfl, hk, hbr, hx, hz, hrz, hb⟩ := hrel
          by_cases hlt : k < m
          · have hk' : (k : Int) < (m : Int) := by omega
            have hwk : IntKind.i64.wrap ((k : Int) + 1) = ((k + 1 : Nat) : Int) := by rw [IntKind.wrap_i64]; omega
            have X6 := Lib.hid hx
            have Z6 := Lib.hid hz
            have R6 := Lib.hid hrz
            have B6 := Lib.hid hb
            have BR6 := Lib.hid hbr
            obtain ⟨⟨v1, hv1⟩, hf1, hbl1⟩ := br_cell hbr hlt
            clear hx hz hrz hb hbr
            go_wp2
            go_roundw
            case rel => exact ⟨k + 1, rfl, by omega, br_put BR6.out hlt rfl, s2_set X6.out (by omega), s2_set Z6.out (by omega), s2_set R6.out (by omega), B6.out.setCell (by show w.heap.size ≤ rb; omega) _⟩
            case measure => simp [intOf]; omega
          · have hk' : ¬ (k : Int) < (m : Int) := by omega
            obtain rfl : k = m := by omega
            have BR6 : Hid (BR wr rb (fun n => bitS (gA A B 0 n)) k k) := Lib.hid (bm_as (g := fun _ => false) hbr fun n _ => by simp [gA])
            have X6 := Lib.hid hx
            have Z6 := Lib.hid hz
            have R6 := Lib.hid hrz
            have B6 := Lib.hid hb
            clear hx hz hrz hb hbr
            go_wp2_with fail
            go_loopw [10] (fun i wx => ∃ a : Nat, i = .int .i64 a ∧ a ≤ k ∧ BR wx rb (fun n => bitS (gA A B a n)) k k ∧ S2 wx w.heap.size (bs h) (bs l) ∧ S2 wx (w.heap.size + 1) (bs h') (bs l') ∧ S2 wx (w.heap.size + 1 + 1) ⟨#[]⟩ ⟨#[]⟩ ∧ Below w.heap.size w wx) (fun i _ => k - (intOf i).toNat)
            case atStart => exact ⟨0, rfl, Nat.zero_le _, BR6.out, X6.out, Z6.out, R6.out, B6.out⟩
            case round =>
              obtain ⟨a, rfl, ha, hbr, hx, hz, hrz, hb⟩ := hrel
              rename World => wx
              have BR7 := Lib.hid hbr
              have X7 := Lib.hid hx
              have Z7 := Lib.hid hz
              have R7 := Lib.hid hrz
              have B7 := Lib.hid hb
              by_cases hak : a < k
              · have ha' : (a : Int) < (k : Int) := by omega
                have hwa : IntKind.i64.wrap ((a : Int) + 1) = ((a + 1 : Nat) : Int) := by rw [IntKind.wrap_i64]; omega
                have C1 := Lib.hid (HA.out a (by omega))
                obtain ⟨x, hxe⟩ : ∃ x, inS A a = x := ⟨_, rfl⟩
                have HXE := Lib.hid hxe
                rw [hxe] at C1
                clear hbr hx hz hrz hb hxe
                go_wp2_with fail
                go_loopw [11] (fun i wy => ∃ b : Nat, i = .int .i64 b ∧ b ≤ k ∧ BR wy rb (fun n => bitS (gB A B a b n)) k k ∧ S2 wy w.heap.size (bs h) (bs l) ∧ S2 wy (w.heap.size + 1) (bs h') (bs l') ∧ S2 wy (w.heap.size + 1 + 1) ⟨#[]⟩ ⟨#[]⟩ ∧ Below w.heap.size w wy) (fun i _ => k - (intOf i).toNat)
                case atStart => exact ⟨0, rfl, Nat.zero_le _, bm_as BR7.out (fun n _ => (gB_zero A B a n).symm), X7.out, Z7.out, R7.out, B7.out⟩
                case round =>
                  obtain ⟨b, rfl, hbk, hbr, hx, hz, hrz, hb⟩ := hrel
                  rename World => wy
                  have BR8 := Lib.hid hbr
                  have X8 := Lib.hid hx
                  have Z8 := Lib.hid hz
                  have R8 := Lib.hid hrz
                  have B8 := Lib.hid hb
                  obtain ⟨t, ht⟩ : ∃ t, a + b = t := ⟨_, rfl⟩
                  have hwt : IntKind.i64.wrap ((a : Int) + (b : Int)) = (t : Int) := by rw [IntKind.wrap_i64]; omega
                  have hwb : IntKind.i64.wrap ((b : Int) + 1) = ((b + 1 : Nat) : Int) := by rw [IntKind.wrap_i64]; omega
                  have HTT := Lib.hid ht
                  clear hbr hx hz hrz hb ht
                  by_cases htk : t < k
                  · have g0 : decide ((t : Int) < (k : Int)) = true := decide_eq_true (by omega)
                    have g1 : decide (t < k) = true := decide_eq_true htk
                    have htk' : (t : Int) < (k : Int) := by omega
                    have hbk2 : b < k := by have := HTT.out; omega
                    obtain ⟨x0, x1, x2, x3⟩ := id X8.out
                    go_wp2_with fail
                    refine (C1.out _).mono ?_
                    rintro e w9 ⟨rfl, hb9⟩
                    have BR9 := Lib.hid (br_on BR8.out hb9)
                    have X9 := Lib.hid (s2_on X8.out hb9)
                    have Z9 := Lib.hid (s2_on Z8.out hb9)
                    have R9 := Lib.hid (s2_on R8.out hb9)
                    have B9 := Lib.hid (below_on B8.out hb9)
                    clear x0 x1 x2 x3 hb9
                    cases x with
                    | false =>
                      have HN := Lib.hid (bm_as BR9.out fun n _ => gB_off HXE.out b n)
                      go_wp2
                      go_roundw
                      case rel => exact ⟨a + 1, rfl, by omega, HN.out, X9.out, Z9.out, R9.out, B9.out⟩
                      case measure => simp [intOf]; omega
                    | true =>
                      have C2 := Lib.hid (HB0.out b (by omega))
                      obtain ⟨y, hye⟩ : ∃ x, inS B b = x := ⟨_, rfl⟩
                      have HYE := Lib.hid hye
                      rw [hye] at C2
                      clear hye
                      obtain ⟨z0, z1, z2, z3⟩ := id Z9.out
                      go_wp2_with fail
                      refine (C2.out _).mono ?_
                      rintro e w10 ⟨rfl, hb10⟩
                      have hbr10 := br_on BR9.out hb10
                      have BR10 := Lib.hid hbr10
                      have X10 := Lib.hid (s2_on X9.out hb10)
                      have Z10 := Lib.hid (s2_on Z9.out hb10)
                      have R10 := Lib.hid (s2_on R9.out hb10)
                      have B10 := Lib.hid (below_on B9.out hb10)
                      obtain ⟨⟨v1, hv1⟩, hf1, hbl1⟩ := br_cell hbr10 htk
                      clear z0 z1 z2 z3 hb10 hbr10
                      cases y with
                      | false =>
                        have HN := Lib.hid (bm_as BR10.out fun n _ => gB_skip HYE.out n)
                        go_wp2
                        go_roundw
                        case rel => exact ⟨b + 1, rfl, by omega, HN.out, X10.out, Z10.out, R10.out, B10.out⟩
                        case measure => simp [intOf]; omega
                      | true =>
                        have HN : Hid (BR (w10.setCell ⟨rb, t, none⟩ (.int .u8 49)) rb (fun n => bitS (gB A B a (b + 1) n)) k k) := Lib.hid (bm_as (bm_put BR10.out htk) fun n _ => by rw [← HTT.out]; exact gB_put HXE.out HYE.out n)
                        go_wp2
                        go_roundw
                        case rel => exact ⟨b + 1, rfl, by omega, HN.out, s2_set X10.out (by omega), s2_set Z10.out (by omega), s2_set R10.out (by omega), B10.out.setCell (by show w.heap.size ≤ rb; omega) _⟩
                        case measure => simp [intOf]; omega
                  · have g0 : decide ((t : Int) < (k : Int)) = false := decide_eq_false (by omega)
                    have g1 : decide (t < k) = false := decide_eq_false htk
                    have HN := Lib.hid (bm_as BR8.out fun n q => gB_end (a := A) (b := B) (k := a) (j := b) (m := k) (by have := HTT.out; omega) q)
                    go_wp2
                    go_roundw
                    case rel => exact ⟨a + 1, rfl, by omega, HN.out, X8.out, Z8.out, R8.out, B8.out⟩
                    case measure => simp [intOf]; omega
              · have ha' : ¬ (a : Int) < (k : Int) := by omega
                obtain rfl : a = k := by omega
                have hrow := br_row (bm_as hbr fun n q => gA_sum q)
                rw [HLB.out] at hrow
                have HROW := Lib.hid hrow
                have hsl1 := slice_upto rb N a (Nat.le_of_lt hNm)
                have hsl2 := slice_from rb N a hNm
                rw [HMN.out] at hsl2
                have hcv1 : ∀ W, RowB W rb lb → (convert 52 9 (.slice (some ⟨rb, 0, none⟩) N a)).run Tryd.prog W = .ok (.string (bs X0)) W := fun W hW => conv_upto hW (by rw [HLN.out]; omega) HHT.out
                have hcv2 : ∀ W, RowB W rb lb → (convert 52 9 (.slice (some ⟨rb, N, none⟩) p p)).run Tryd.prog W = .ok (.string (bs Y0)) W := fun W hW => conv_from hW (by rw [HLN.out, ← HMN.out]; omega) HLT.out
                clear hbr hrow hx hz hrz hb
                go_upto_region 18 with fail
                refine wp_region_held_drew (S := (fun w' => RowB w' rb lb)) (by kernel_rfl) ?_ (fun hHeld => ?_)
                · try dsimp only
                  first | (refine rowb_on HROW.out ?_; go_grown; done) | exact rowb_set (rowb_set (rowb_on HROW.out hb05) (by omega)) (by omega)
                refine wpAnyH_take (i := 0) (oi := { dst := some 95, op := Go.Op.move (Go.Operand.tmp 8), type := 52, pos := "l7_sets.go:253", after := #[], guard := none }) (v := ?_) rfl (by kernel_rfl) (by kernel_rfl) (by kernel_rfl) (fun _ _ _ h => h) (Or.inl ⟨by rfl, ?_⟩) (by assumption) ?_
                rotate_left
                · (intro w hSw; (try dsimp only at hSw); first | (go_simp; done) | (go_simp; with_reducible rfl))
                try simp only [Act.put, List.setIfInBounds_toArray, List.set_cons_zero, List.set_cons_succ]
                refine wpAnyH_take (i := 1) (oi := { dst := some 96, op := Go.Op.move (Go.Operand.tmp 7), type := 3, pos := "l7_sets.go:253", after := #[], guard := none }) (v := ?_) rfl (by kernel_rfl) (by kernel_rfl) (by kernel_rfl) (fun _ _ _ h => h) (Or.inl ⟨by rfl, ?_⟩) (by assumption) ?_
                rotate_left
                · (intro w hSw; (try dsimp only at hSw); first | (go_simp; done) | (go_simp; with_reducible rfl))
                try simp only [Act.put, List.setIfInBounds_toArray, List.set_cons_zero, List.set_cons_succ]
                refine wpAnyH_take (i := 2) (oi := { dst := some 97, op := Go.Op.slice 52 (Go.Operand.tmp 95) none (some (Go.Operand.tmp 96)) none, type := 52, pos := "l7_sets.go:253", after := #[{ on := 0, ground := Go.Ground.data }, { on := 1, ground := Go.Ground.data }], guard := none }) (v := ?_) rfl (by kernel_rfl) (by kernel_rfl) (by kernel_rfl) (fun _ _ _ h => h) (Or.inl ⟨by rfl, ?_⟩) (by assumption) ?_
                rotate_left
                · (intro w hSw; (try dsimp only at hSw); first | (go_simp; done) | (go_simp; with_reducible rfl))
                try simp only [Act.put, List.setIfInBounds_toArray, List.set_cons_zero, List.set_cons_succ]
                refine wpAnyH_take (i := 3) (oi := { dst := some 98, op := Go.Op.convert 52 9 (Go.Operand.tmp 97), type := 9, pos := "l7_sets.go:253", after := #[{ on := 2, ground := Go.Ground.data }], guard := none }) (v := ?_) rfl (by kernel_rfl) (by kernel_rfl) (by kernel_rfl) (fun _ _ _ h => h) (Or.inl ⟨by rfl, ?_⟩) (by assumption) ?_
                rotate_left
                · (intro w hSw; (try dsimp only at hSw); first | (go_simp; done) | (go_simp; with_reducible rfl))
                try simp only [Act.put, List.setIfInBounds_toArray, List.set_cons_zero, List.set_cons_succ]
                refine wpAnyH_take (i := 4) (oi := { dst := some 99, op := Go.Op.move (Go.Operand.tmp 8), type := 52, pos := "l7_sets.go:253", after := #[], guard := none }) (v := ?_) rfl (by kernel_rfl) (by kernel_rfl) (by kernel_rfl) (fun _ _ _ h => h) (Or.inl ⟨by rfl, ?_⟩) (by assumption) ?_
                rotate_left
                · (intro w hSw; (try dsimp only at hSw); first | (go_simp; done) | (go_simp; with_reducible rfl))
                try simp only [Act.put, List.setIfInBounds_toArray, List.set_cons_zero, List.set_cons_succ]
                refine wpAnyH_take (i := 5) (oi := { dst := some 100, op := Go.Op.move (Go.Operand.tmp 7), type := 3, pos := "l7_sets.go:253", after := #[], guard := none }) (v := ?_) rfl (by kernel_rfl) (by kernel_rfl) (by kernel_rfl) (fun _ _ _ h => h) (Or.inl ⟨by rfl, ?_⟩) (by assumption) ?_
                rotate_left
                · (intro w hSw; (try dsimp only at hSw); first | (go_simp; done) | (go_simp; with_reducible rfl))
                try simp only [Act.put, List.setIfInBounds_toArray, List.set_cons_zero, List.set_cons_succ]
                refine wpAnyH_take (i := 6) (oi := { dst := some 101, op := Go.Op.slice 52 (Go.Operand.tmp 99) (some (Go.Operand.tmp 100)) none none, type := 52, pos := "l7_sets.go:253", after := #[{ on := 4, ground := Go.Ground.data }, { on := 5, ground := Go.Ground.data }], guard := none }) (v := ?_) rfl (by kernel_rfl) (by kernel_rfl) (by kernel_rfl) (fun _ _ _ h => h) (Or.inl ⟨by rfl, ?_⟩) (by assumption) ?_
                rotate_left
                · (intro w hSw; (try dsimp only at hSw); first | (go_simp; done) | (go_simp; with_reducible rfl))
                try simp only [Act.put, List.setIfInBounds_toArray, List.set_cons_zero, List.set_cons_succ]
                refine wpAnyH_take (i := 7) (oi := { dst := some 102, op := Go.Op.convert 52 9 (Go.Operand.tmp 101), type := 9, pos := "l7_sets.go:253", after := #[{ on := 6, ground := Go.Ground.data }], guard := none }) (v := ?_) rfl (by kernel_rfl) (by kernel_rfl) (by kernel_rfl) (fun _ _ _ h => h) (Or.inl ⟨by rfl, ?_⟩) (by assumption) ?_
                rotate_left
                · (intro w hSw; (try dsimp only at hSw); first | (go_simp; done) | (go_simp; with_reducible rfl))
                try simp only [Act.put, List.setIfInBounds_toArray, List.set_cons_zero, List.set_cons_succ]
                refine wpAnyH_ready (rs := [8]) (by kernel_rfl) (by simp) ?_
                refine AllReadyH.cons (o := { dst := some 103, op := Go.Op.call { callee := Go.Callee.value (Go.Operand.func 44), args := #[Go.Operand.tmp 98, Go.Operand.tmp 102], argTypes := #[9, 9] }, type := 29, pos := "l7_sets.go:253", after := #[{ on := 3, ground := Go.Ground.data }, { on := 7, ground := Go.Ground.data }], guard := none }) rfl (fun K hK => ?_) AllReadyH.nil
                go_simp
                (go_at_call 44; refine (HR.out _).mono ?_; rintro e w5 ⟨rfl, hb5⟩; have hb05 := below_on (w := wx) (by go_grown) hb5; have R9 := s2_on R7.out hb05; obtain ⟨a0, a1, a2, a3⟩ := id R9)
                (try go_wp2_with fail)
                refine hK.out _ _ ?_ (fun hHeld => ?_)
                · try dsimp only
                  first | (refine rowb_on HROW.out ?_; go_grown; done) | exact rowb_set (rowb_set (rowb_on HROW.out hb05) (by omega)) (by omega)
                clear hK K
                try simp only [Act.put, List.setIfInBounds_toArray, List.set_cons_zero, List.set_cons_succ]
                refine wpAnyH_take (i := 9) (oi := { dst := some 104, op := Go.Op.extract (Go.Operand.tmp 103) 0, type := 26, pos := "l7_sets.go:253", after := #[{ on := 8, ground := Go.Ground.data }], guard := none }) (v := ?_) rfl (by kernel_rfl) (by kernel_rfl) (by kernel_rfl) (fun _ _ _ h => h) (Or.inl ⟨by rfl, ?_⟩) (by assumption) ?_
                rotate_left
                · (intro w hSw; (try dsimp only at hSw); first | (go_simp; done) | (go_simp; with_reducible rfl))
                try simp only [Act.put, List.setIfInBounds_toArray, List.set_cons_zero, List.set_cons_succ]
                refine wpAnyH_take (i := 10) (oi := { dst := some 105, op := Go.Op.extract (Go.Operand.tmp 103) 1, type := 4, pos := "l7_sets.go:253", after := #[{ on := 8, ground := Go.Ground.data }], guard := none }) (v := ?_) rfl (by kernel_rfl) (by kernel_rfl) (by kernel_rfl) (fun _ _ _ h => h) (Or.inl ⟨by rfl, ?_⟩) (by assumption) ?_
                rotate_left
                · (intro w hSw; (try dsimp only at hSw); first | (go_simp; done) | (go_simp; with_reducible rfl))
                try simp only [Act.put, List.setIfInBounds_toArray, List.set_cons_zero, List.set_cons_succ]
                refine wpAnyH_ready (rs := [11]) (by kernel_rfl) (by simp) ?_
                refine AllReadyH.cons (o := { dst := none, op := Go.Op.store 26 (Go.Operand.tmp 4) (Go.Operand.tmp 104), type := 0, pos := "l7_sets.go:253", after := #[{ on := 9, ground := Go.Ground.data }, { on := 8, ground := Go.Ground.chain }, { on := 0, ground := Go.Ground.phase }, { on := 1, ground := Go.Ground.phase }, { on := 2, ground := Go.Ground.phase }, { on := 3, ground := Go.Ground.phase }, { on := 4, ground := Go.Ground.phase }, { on := 5, ground := Go.Ground.phase }, { on := 6, ground := Go.Ground.phase }, { on := 7, ground := Go.Ground.phase }, { on := 8, ground := Go.Ground.phase }, { on := 9, ground := Go.Ground.phase }, { on := 10, ground := Go.Ground.phase }], guard := none }) rfl (fun K hK => ?_) AllReadyH.nil
                go_simp
                refine hK.out _ _ ?_ (fun hHeld => ?_)
                · try dsimp only
                  first | (refine rowb_on HROW.out ?_; go_grown; done) | exact rowb_set (rowb_set (rowb_on HROW.out hb05) (by omega)) (by omega)
                clear hK K
                try simp only [Act.put, List.setIfInBounds_toArray, List.set_cons_zero, List.set_cons_succ]
                refine wpAnyH_take (i := 12) (oi := { dst := some 5, op := Go.Op.assign (Go.Operand.tmp 105), type := 4, pos := "l7_sets.go:253", after := #[{ on := 10, ground := Go.Ground.data }, { on := 11, ground := Go.Ground.chain }, { on := 0, ground := Go.Ground.phase }, { on := 1, ground := Go.Ground.phase }, { on := 2, ground := Go.Ground.phase }, { on := 3, ground := Go.Ground.phase }, { on := 4, ground := Go.Ground.phase }, { on := 5, ground := Go.Ground.phase }, { on := 6, ground := Go.Ground.phase }, { on := 7, ground := Go.Ground.phase }, { on := 8, ground := Go.Ground.phase }, { on := 9, ground := Go.Ground.phase }, { on := 10, ground := Go.Ground.phase }, { on := 11, ground := Go.Ground.phase }], guard := none }) (v := ?_) rfl (by kernel_rfl) (by kernel_rfl) (by kernel_rfl) (fun _ _ _ h => h) (Or.inl ⟨by rfl, ?_⟩) (by assumption) ?_
                rotate_left
                · (intro w hSw; (try dsimp only at hSw); first | (go_simp; done) | (go_simp; with_reducible rfl))
                try simp only [Act.put, List.setIfInBounds_toArray, List.set_cons_zero, List.set_cons_succ]
                refine wpAnyH_done (by kernel_rfl) ?_ _
                go_wp2
                generalize hW8 : World.setCell _ _ _ = W8
                obtain ⟨⟨_, r1, r2, _⟩, _, _, hb8⟩ := s2_put hW8 _ _ R9
                refine bodyPost_ret (v := .tuple #[.agg #[.string (bs r.1.1), .string (bs r.1.2)], .bool r.2]) (by simp [results, Tryd.results40, go_sem, r1, r2]) rfl ⟨by rw [HF0.out], ?_⟩
                exact below_on (hb8 w (below_on B7.out hb05) hne) (by go_grown)

end Go.Proofs.YtmhpjaaffpomnaaDoor
