/- Contracts of ContentOf of the program and of the model, and the walk of its law. -/
import Derived.Test.YtjhfmlbnpdnddaaNbA
import Derived.Test.YtjhfmlbnpdnddaaLawB
import Derived.Test.YtjhfmlbnpdnddaaIm
namespace Go.Proofs.Ytjhfmlbnpdnddaa
open Go.RowKit

def cont (a b c d : Int) : Int := ((Int.gcd ((Int.gcd ((Int.gcd ((Int.gcd 0 a : Nat) : Int) b : Nat) : Int) c : Nat) : Int) d : Nat) : Int)

theorem gcd_le {a b M : Int} (ha : -M ≤ a ∧ a ≤ M) (hb : -M ≤ b ∧ b ≤ M) : -M ≤ ((Int.gcd a b : Nat) : Int) ∧ ((Int.gcd a b : Nat) : Int) ≤ M := by
  have h0 : (0 : Int) ≤ ((Int.gcd a b : Nat) : Int) := Int.natCast_nonneg _
  refine ⟨by omega, ?_⟩
  by_cases hz : a = 0
  · subst hz
    simp
    omega
  · have := Nat.le_of_dvd (by omega) (Nat.gcd_dvd_left a.natAbs b.natAbs)
    unfold Int.gcd
    omega

set_option maxHeartbeats 1000000 in
theorem ContentOf_ok (a b c d n : Int) (w : World) (h1 : tvB a b c d n = true) :
    Calls Try.prog 20 #[.agg #[.int .i64 a, .int .i64 b, .int .i64 c, .int .i64 d, .int .i64 n]] w fun e w' => e = .returned (.int .i64 (cont a b c d)) ∧ Below w.heap.size w w' := by
  obtain ⟨qa, qb, qc, qd, qn⟩ := tv_bd h1
  have g0 := gcd_le (M := 100) (a := 0) (b := a) (by omega) qa
  obtain ⟨G0, hG0⟩ : ∃ G, G = ((Int.gcd 0 a : Nat) : Int) := ⟨_, rfl⟩
  have g1 := gcd_le (M := 100) g0 qb
  rw [← hG0] at g0 g1
  obtain ⟨G1, hG1⟩ : ∃ G, G = ((Int.gcd G0 b : Nat) : Int) := ⟨_, rfl⟩
  rw [← hG1] at g1
  have g2 := gcd_le (M := 100) g1 qc
  obtain ⟨G2, hG2⟩ : ∃ G, G = ((Int.gcd G1 c : Nat) : Int) := ⟨_, rfl⟩
  rw [← hG2] at g2
  have hfin : ((Int.gcd G2 d : Nat) : Int) = cont a b c d := by rw [hG2, hG1, hG0]; rfl
  have K0 : Hid (∀ W, Calls Try.prog 70 #[.int .i64 0, .int .i64 a] W fun e w' => e = .returned (.int .i64 G0) ∧ Below W.heap.size W w') := by intro W; rw [hG0]; exact commonDivisor_any 0 a W (by omega) (by omega) (by omega) (by omega)
  have K1 : Hid (∀ W, Calls Try.prog 70 #[.int .i64 G0, .int .i64 b] W fun e w' => e = .returned (.int .i64 G1) ∧ Below W.heap.size W w') := by intro W; rw [hG1]; exact commonDivisor_any G0 b W (by omega) (by omega) (by omega) (by omega)
  have K2 : Hid (∀ W, Calls Try.prog 70 #[.int .i64 G1, .int .i64 c] W fun e w' => e = .returned (.int .i64 G2) ∧ Below W.heap.size W w') := by intro W; rw [hG2]; exact commonDivisor_any G1 c W (by omega) (by omega) (by omega) (by omega)
  have K3 : Hid (∀ W, Calls Try.prog 70 #[.int .i64 G2, .int .i64 d] W fun e w' => e = .returned (.int .i64 (cont a b c d)) ∧ Below W.heap.size W w') := by intro W; rw [← hfin]; exact commonDivisor_any G2 d W (by omega) (by omega) (by omega) (by omega)
  have H1 := Lib.hid h1
  clear h1 qa qb qc qd qn g0 g1 g2 hG0 hG1 hG2 hfin
  have s0 : sel a b c d 0 0 = a := rfl
  have s1 : sel a b c d 1 0 = b := rfl
  have s2 : sel a b c d 2 0 = c := rfl
  have s3 : sel a b c d 3 0 = d := rfl
  obtain ⟨R, hR⟩ : ∃ R, R = cont a b c d := ⟨_, rfl⟩
  rw [← hR] at K3 ⊢
  clear hR
  go_enter Try.func20, Try.ntmps20
  go_wp2_with (go_at_call 23; refine (TermValid_is _ _ _ _ _ true _ H1.out).mono ?_; rintro e w' ⟨rfl, rfl⟩)
  generalize hW : (((w.alloc (.cells #[.int .i64 a, .int .i64 b, .int .i64 c, .int .i64 d, .int .i64 n] 24)).alloc (.cells #[.int .i64 a, .int .i64 b, .int .i64 c, .int .i64 d, .int .i64 n] 24)).alloc (.cells #[.int .i64 a, .int .i64 b, .int .i64 c, .int .i64 d, .int .i64 n] 24)).alloc (.cells #[.int .i64 a, .int .i64 b, .int .i64 c, .int .i64 d, .int .i64 n] 3) = W
  have hx : C5 W w.heap.size a b c d n := by subst hW; exact (by refine ⟨?_, ?_, ?_, ?_, ?_, ?_⟩ <;> first | (simp [go_sem]; done) | (simp; omega))
  have hw0 : Below w.heap.size w W := by subst hW; go_grown
  clear hW
  obtain ⟨x0, x1, x2, x3, x4, x5⟩ := id hx
  refine wp_loop_rounds 5 ?_
  rw [rounds_succ]
  go_wp2_with (go_at_call 24; refine (CoefOf_in _ _ _ _ _ _ _ (by omega) (by omega)).mono ?_; rintro e w' ⟨rfl, rfl⟩)
  refine (K0.out _).mono ?_
  rintro e w0 ⟨rfl, hb0⟩
  have hbb0 := below_on (w := W) (by go_grown) hb0
  have hs0 : W.heap.size ≤ w0.heap.size := hbb0.size
  obtain ⟨x0, x1, x2, x3, x4, x5⟩ := c5_on hx hbb0
  go_wp2_with fail
  rw [rounds_succ]
  go_wp2_with (go_at_call 24; refine (CoefOf_in _ _ _ _ _ _ _ (by omega) (by omega)).mono ?_; rintro e w' ⟨rfl, rfl⟩)
  refine (K1.out _).mono ?_
  rintro e w1 ⟨rfl, hb1⟩
  have hbb1 := below_on (w := W) (by go_grown) hb1
  have hs1 : W.heap.size ≤ w1.heap.size := hbb1.size
  obtain ⟨x0, x1, x2, x3, x4, x5⟩ := c5_on hx hbb1
  go_wp2_with fail
  rw [rounds_succ]
  go_wp2_with (go_at_call 24; refine (CoefOf_in _ _ _ _ _ _ _ (by omega) (by omega)).mono ?_; rintro e w' ⟨rfl, rfl⟩)
  refine (K2.out _).mono ?_
  rintro e w2 ⟨rfl, hb2⟩
  have hbb2 := below_on (w := W) (by go_grown) hb2
  have hs2 : W.heap.size ≤ w2.heap.size := hbb2.size
  obtain ⟨x0, x1, x2, x3, x4, x5⟩ := c5_on hx hbb2
  go_wp2_with fail
  rw [rounds_succ]
  go_wp2_with (go_at_call 24; refine (CoefOf_in _ _ _ _ _ _ _ (by omega) (by omega)).mono ?_; rintro e w' ⟨rfl, rfl⟩)
  refine (K3.out _).mono ?_
  rintro e w3 ⟨rfl, hb3⟩
  have hbb3 := below_on (w := W) (by go_grown) hb3
  have hs3 : W.heap.size ≤ w3.heap.size := hbb3.size
  obtain ⟨x0, x1, x2, x3, x4, x5⟩ := c5_on hx hbb3
  go_wp2_with fail
  rw [rounds_succ]
  go_wp2
  go_ret
  exact ⟨rfl, below_on hw0 hbb3⟩

end Go.Proofs.Ytjhfmlbnpdnddaa
