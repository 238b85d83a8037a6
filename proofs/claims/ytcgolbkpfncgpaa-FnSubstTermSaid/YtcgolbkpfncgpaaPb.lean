/- Contracts of the laws' own points and values. -/
import Derived.Test.YtcgolbkpfncgpaaDraw6
import Derived.Test.YtcgolbkpfncgpaaIm
import Derived.BigGuardPart
namespace Go.Proofs.Ytcgolbkpfncgpaa
open Go.RowKit

/-- A point that the laws make of the bytes: small. -/
def SmallPoint (w : World) (e : Ending) (w' : World) : Prop := ∃ a b c d : Int, e = .returned (.agg #[.int .i64 a, .int .i64 b, .int .i64 c, .int .i64 d]) ∧ Below w.heap.size w w' ∧ (0 ≤ a ∧ a ≤ 6) ∧ (0 ≤ b ∧ b ≤ 5) ∧ (0 ≤ c ∧ c ≤ 4) ∧ (0 ≤ d ∧ d ≤ 3)

def PbR (n : Nat) (x i : Value) : Prop := ∃ (y : Int) (k : Nat), x = .int .i64 y ∧ i = .int .i64 k ∧ k ≤ 8 ∧ k ≤ n ∧ 0 ≤ y ∧ y ≤ 2000000 * 6 ^ k

theorem six_pow (k : Nat) (h : k ≤ 8) : (1 : Int) ≤ 6 ^ k ∧ (6 : Int) ^ k ≤ 1679616 := by
  match k, h with
  | 0, _ => decide
  | 1, _ => decide
  | 2, _ => decide
  | 3, _ => decide
  | 4, _ => decide
  | 5, _ => decide
  | 6, _ => decide
  | 7, _ => decide
  | 8, _ => decide
  | k + 9, h => omega

set_option maxHeartbeats 1000000 in
theorem pbPoint_any (sp : Option Addr) (n cap : Nat) (j : Int) (w : World) (h : Code w sp n cap) (hn : n ≤ 1048576) (k0 : 0 ≤ j) (k1 : j ≤ 100) :
    Calls Try.prog 14 #[.slice sp n cap, .int .i64 j] w (SmallPoint w) := by
  have hc1 := h.1
  have hc2 := h.2.1
  have H := Lib.hid h
  clear h
  go_enter Try.func14, Try.ntmps14
  go_wp2
  generalize hW : w.alloc (.cells #[.int .i64 0, .int .i64 0, .int .i64 0, .int .i64 0] 30) = W
  have HC : Hid (Code W sp n cap) := code_on H.out (by subst hW; go_grown)
  have hz : C4 W w.heap.size 0 0 0 0 := by subst hW; exact (by refine ⟨?_, ?_, ?_, ?_, ?_⟩ <;> first | (simp [go_sem]; done) | (simp; omega))
  have fz : ∀ o, W.frozen? ⟨w.heap.size, o, none⟩ = false := by intro o; subst hW; simp [go_sem]
  have hb0 : Below w.heap.size w W := by subst hW; go_grown
  clear hW
  obtain ⟨z0, z1, z2, z3, z4⟩ := hz
  go_loop [5, 6] (fun x i => PbR n x i) (fun _ i => 8 - (intOf i).toNat)
  case atStart => exact ⟨_, 0, rfl, rfl, by omega, by omega, by omega, by omega⟩
  case round =>
    obtain ⟨y, k, rfl, rfl, hk8, hkn, y0, y1⟩ := hrel
    obtain ⟨s0, s1⟩ := six_pow k hk8
    by_cases hk : k < n
    · have hk' : (k : Int) < (n : Int) := by omega
      by_cases h8 : k < 8
      · have h8' : (k : Int) < 8 := by omega
        obtain ⟨b, off, rfl, hu⟩ : ∃ b off, sp = some ⟨b, off, none⟩ ∧ ∀ i, i < n → ∃ u : Int, W.cell? ⟨b, off + i, none⟩ = some (.int .u8 u) ∧ 0 ≤ u ∧ u ≤ 255 := by
          rcases HC.out.2.2 with h0 | h0
          · omega
          · exact h0
        obtain ⟨u, hcell, u0, u1⟩ := hu k hk
        have hy2 : y * 5 + u ≤ 2000000 * 6 ^ (k + 1) := by rw [Int.pow_succ]; omega
        have hy3 : y ≤ 4000000000000 := by omega
        have HY := Lib.hid hy2
        clear hu y1 s0 s1 hy2
        go_wp2
        go_round
        case rel => exact ⟨_, k + 1, rfl, by go_num, by omega, by omega, by omega, HY.out⟩
        case measure => simp [intOf]; omega
      · have h8' : ¬ (k : Int) < 8 := by omega
        have hy3 : y ≤ 4000000000000 := by omega
        clear y1 s0 s1
        go_wp2
        refine bodyPost_ret (v := .agg #[.int .i64 (y % 1000000007 % 7), .int .i64 (y % 1000000007 / 7 % 6), .int .i64 (y % 1000000007 / 42 % 5), .int .i64 (y % 1000000007 / 210 % 4)]) (by simp [results, Try.results14, go_sem, z1, z2, z3, z4]) rfl ⟨_, _, _, _, rfl, ?_, by omega, by omega, by omega, by omega⟩
        go_grown
    · have hk' : ¬ (k : Int) < (n : Int) := by omega
      have hy3 : y ≤ 4000000000000 := by omega
      clear y1 s0 s1
      go_wp2
      refine bodyPost_ret (v := .agg #[.int .i64 (y % 1000000007 % 7), .int .i64 (y % 1000000007 / 7 % 6), .int .i64 (y % 1000000007 / 42 % 5), .int .i64 (y % 1000000007 / 210 % 4)]) (by simp [results, Try.results14, go_sem, z1, z2, z3, z4]) rfl ⟨_, _, _, _, rfl, ?_, by omega, by omega, by omega, by omega⟩
      go_grown

set_option maxHeartbeats 400000 in
theorem pbEval_ok (a b c d n x y z u : Int) (w : World) (h : (tvB a b c d n && pvB x y z u) = true) :
    Calls Try.prog 16 #[.agg #[.int .i64 a, .int .i64 b, .int .i64 c, .int .i64 d, .int .i64 n], .agg #[.int .i64 x, .int .i64 y, .int .i64 z, .int .i64 u]] w fun e w' => e = .returned (.int .i64 (ev a b c d n x y z u)) ∧ Below w.heap.size w w' := by
  have H := Lib.hid h
  clear h
  go_enter Try.func16, Try.ntmps16
  go_wp2_with (go_at_call 67; refine (EvalTerm_ok _ _ _ _ _ _ _ _ _ _ H.out).mono ?_; rintro e w' ⟨rfl, hb⟩; have hbb := below_step (B := w.heap.size) (w := w) (by go_grown) hb (by simp; omega))
  go_ret
  exact ⟨rfl, hbb⟩

end Go.Proofs.Ytcgolbkpfncgpaa
