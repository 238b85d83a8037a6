/- The program's rounded quotients. -/
import Derived.Test.YtjhfmlbnpdnddaaNbJ
namespace Go.Proofs.Ytjhfmlbnpdnddaa
open Go.RowKit

def flT (a b : Int) : Int × Bool := if (numB a && inB b 1 100000) = true then (a / b, true) else (0, false)
def ceT (a b : Int) : Int × Bool := if (numB a && inB b 1 100000) = true then (-(-a / b), true) else (0, false)

theorem floClo_ok (a b : Int) (A B M : Nat) (v : Int) (W : World) (hA : W.cell? ⟨A, 0, none⟩ = some (.int .i64 a)) (hB : W.cell? ⟨B, 0, none⟩ = some (.int .i64 b)) (hM : W.cell? ⟨M, 0, none⟩ = some (.int .i64 v)) (hz : W.frozen? ⟨M, 0, none⟩ = false)
    (ha : -1000000 ≤ a ∧ a ≤ 1000000) (hb : 0 < b ∧ b ≤ 1000000) :
    Calls Try.prog 85 #[.pointer (some ⟨A, 0, none⟩), .pointer (some ⟨B, 0, none⟩), .pointer (some ⟨M, 0, none⟩)] W fun e w' => e = .returned (.tuple #[]) ∧ w' = W.setCell ⟨M, 0, none⟩ (.int .i64 (a / b)) := by
  have HB := Lib.hid fun W => divided_any a b W hb.1 (by omega) (by omega) (by omega)
  clear ha hb
  go_enter Try.func85, Try.ntmps85
  go_wp2_with (go_at_call 86; refine (HB.out _).mono ?_; rintro e w' ⟨rfl, rfl⟩)
  go_end0
  exact ⟨rfl, rfl⟩

theorem floClo_dies (a : Int) (A B M : Nat) (W : World) (hA : W.cell? ⟨A, 0, none⟩ = some (.int .i64 a)) (hB : W.cell? ⟨B, 0, none⟩ = some (.int .i64 0)) :
    Calls Try.prog 85 #[.pointer (some ⟨A, 0, none⟩), .pointer (some ⟨B, 0, none⟩), .pointer (some ⟨M, 0, none⟩)] W fun e w' => e = .panicked noDiv ∧ w' = W := by
  have HB := Lib.hid fun W => divided_zero a W
  go_enter Try.func85, Try.ntmps85
  go_wp2_with fail
  refine (HB.out _).mono ?_
  rintro e w1 ⟨rfl, rfl⟩
  exact ⟨rfl, rfl, rfl⟩

set_option maxHeartbeats 1000000 in
theorem FloorDiv_any (a b : Int) (w : World) :
    Calls Try.prog 34 #[.int .i64 a, .int .i64 b] w fun e w' => e = .returned (T2 (flT a b)) ∧ Below w.heap.size w w' := by
  have hmf : ∀ (fn : Fn) (first cap : Array Value) (w : World), (Instr.makeFunc fn first cap).run Try.prog w = .ok (.func fn first cap) w := fun _ _ _ _ => rfl
  rcases ha : numB a with _ | _
  · have e : flT a b = (0, false) := by unfold flT; rw [if_neg (by simp [ha])]
    rw [e]
    go_enter Try.func34, Try.ntmps34
    go_wp2_with (go_at_call 75; refine (isNumber_any _ _).mono ?_; rintro e w' ⟨rfl, rfl⟩)
    go_returns
    exact ⟨rfl, by go_grown⟩
  rcases hb : numB b with _ | _
  · have e : flT a b = (0, false) := by
      unfold flT
      rw [if_neg]
      simp only [numB, wlB, decide_eq_false_iff_not] at hb
      simp only [inB, Bool.and_eq_true, decide_eq_true_eq]
      omega
    rw [e]
    go_enter Try.func34, Try.ntmps34
    go_wp2_with (go_at_call 75; refine (isNumber_any _ _).mono ?_; rintro e w' ⟨rfl, rfl⟩)
    go_returns
    exact ⟨rfl, by go_grown⟩
  obtain ⟨a0, a1⟩ := numB_yes ha
  obtain ⟨b0, b1⟩ := numB_yes hb
  rcases Int.lt_trichotomy b 0 with hb0 | hb0 | hb0
  · have e : flT a b = (0, false) := by
      unfold flT
      rw [if_neg]
      simp only [inB, Bool.and_eq_true, decide_eq_true_eq]
      omega
    rw [e]
    go_enter Try.func34, Try.ntmps34
    go_wp2_with (go_at_call 75; refine (isNumber_any _ _).mono ?_; rintro e w' ⟨rfl, rfl⟩)
    go_returns
    exact ⟨rfl, by go_grown⟩
  · have e : flT a b = (0, false) := by
      unfold flT
      rw [if_neg]
      simp only [inB, Bool.and_eq_true, decide_eq_true_eq]
      omega
    rw [e]
    subst hb0
    go_enter Try.func34, Try.ntmps34
    go_wp2_with (go_at_call 75; refine (isNumber_any _ _).mono ?_; rintro e w' ⟨rfl, rfl⟩)
    generalize hW : ((w.alloc (.cells #[.int .i64 a] 3)).alloc (.cells #[.int .i64 0] 3)).alloc (.cells #[.int .i64 0] 3) = W
    have hA : W.cell? ⟨w.heap.size, 0, none⟩ = some (.int .i64 a) := by subst hW; simp [go_sem]
    have hB : W.cell? ⟨w.heap.size + 1, 0, none⟩ = some (.int .i64 0) := by subst hW; simp [go_sem]
    have hM : W.cell? ⟨w.heap.size + 1 + 1, 0, none⟩ = some (.int .i64 0) := by subst hW; simp [go_sem]
    have hw0 : Below w.heap.size w W := by subst hW; go_grown
    have hsz : W.heap.size = w.heap.size + 1 + 1 + 1 := by subst hW; simp
    clear hW
    have hBo : Below W.heap.size W (W.alloc (.cells #[.bool false] 4)) := by go_grown
    refine (tried_dies _ _ W (fun w1 => w1 = W.alloc (.cells #[.bool false] 4)) _ _ en_flo (floClo_dies a _ _ _ _ (((bcell hBo).1 _ 0 (by omega)).trans hA) (((bcell hBo).1 _ 0 (by omega)).trans hB)) (fun w1 h => by subst h; exact ⟨by simp [go_sem], by simp [go_sem]⟩)).mono ?_
    rintro e w2 ⟨rfl, w1, rfl, rfl⟩
    have hM1 : ((W.alloc (.cells #[.bool false] 4)).setCell ⟨W.heap.size, 0, none⟩ (.bool false)).cell? ⟨w.heap.size + 1 + 1, 0, none⟩ = some (.int .i64 0) := by
      have := ((bcell hBo).1 (w.heap.size + 1 + 1) 0 (by omega)).trans hM
      simp [go_sem, this]
    have hB1 : Below w.heap.size w ((W.alloc (.cells #[.bool false] 4)).setCell ⟨W.heap.size, 0, none⟩ (.bool false)) := (below_on hw0 hBo).setCell (by dsimp only; omega) _
    generalize (W.alloc (.cells #[.bool false] 4)).setCell ⟨W.heap.size, 0, none⟩ (.bool false) = w2 at *
    clear hA hB hM hBo
    go_wp2
    go_returns
    exact ⟨rfl, hB1⟩
  · have e : flT a b = (a / b, true) := by
      unfold flT
      rw [if_pos]
      simp only [inB, Bool.and_eq_true, decide_eq_true_eq]
      exact ⟨ha, by omega, by omega⟩
    rw [e]
    have HC := Lib.hid fun A B M W h1 h2 h3 h4 => floClo_ok a b A B M 0 W h1 h2 h3 h4 (by omega) (by omega)
    obtain ⟨q, hq⟩ : ∃ q, a / b = q := ⟨_, rfl⟩
    rw [hq] at HC ⊢
    clear e hq
    have hbn : ¬ b < 0 := by omega
    go_enter Try.func34, Try.ntmps34
    go_wp2_with (go_at_call 75; refine (isNumber_any _ _).mono ?_; rintro e w' ⟨rfl, rfl⟩)
    generalize hW : ((w.alloc (.cells #[.int .i64 a] 3)).alloc (.cells #[.int .i64 b] 3)).alloc (.cells #[.int .i64 0] 3) = W
    have hA : W.cell? ⟨w.heap.size, 0, none⟩ = some (.int .i64 a) := by subst hW; simp [go_sem]
    have hB : W.cell? ⟨w.heap.size + 1, 0, none⟩ = some (.int .i64 b) := by subst hW; simp [go_sem]
    have hM : W.cell? ⟨w.heap.size + 1 + 1, 0, none⟩ = some (.int .i64 0) := by subst hW; simp [go_sem]
    have hZ : W.frozen? ⟨w.heap.size + 1 + 1, 0, none⟩ = false := by subst hW; simp [go_sem]
    have hw0 : Below w.heap.size w W := by subst hW; go_grown
    have hsz : W.heap.size = w.heap.size + 1 + 1 + 1 := by subst hW; simp
    clear hW
    have hBo : Below W.heap.size W (W.alloc (.cells #[.bool false] 4)) := by go_grown
    refine (tried_ret _ _ W (fun w' => w' = (W.alloc (.cells #[.bool false] 4)).setCell ⟨w.heap.size + 1 + 1, 0, none⟩ (.int .i64 q)) en_flo (HC.out _ _ _ _ (((bcell hBo).1 _ 0 (by omega)).trans hA) (((bcell hBo).1 _ 0 (by omega)).trans hB) (((bcell hBo).1 _ 0 (by omega)).trans hM) (((bcell hBo).2 _ 0 (by omega)).trans hZ)) (fun w1 e => ?_)).mono ?_
    · subst e
      exact ⟨by simp [go_sem], by simp [go_sem]⟩
    rintro e w4 ⟨rfl, w3, rfl, rfl⟩
    have hM0 := ((bcell hBo).1 (w.heap.size + 1 + 1) 0 (by omega)).trans hM
    generalize hW4 : World.setCell (World.setCell _ _ _) _ _ = W4
    have hM1 : W4.cell? ⟨w.heap.size + 1 + 1, 0, none⟩ = some (.int .i64 q) := by
      subst hW4
      simp [go_sem, hM0]
    have hB1 : Below w.heap.size w W4 := by
      subst hW4
      exact (((below_on hw0 hBo).setCell (by dsimp only; omega) _).setCell (by dsimp only; omega) _).setCell (by dsimp only; omega) _
    clear hA hB hM hBo hM0 hZ hW4
    go_wp2
    go_returns
    exact ⟨rfl, hB1⟩

theorem CeilDiv_any (a b : Int) (w : World) (h0 : -9223372036854775808 ≤ a) (h1 : a ≤ 9223372036854775807) :
    Calls Try.prog 36 #[.int .i64 a, .int .i64 b] w fun e w' => e = .returned (T2 (ceT a b)) ∧ Below w.heap.size w w' := by
  obtain ⟨n, hn⟩ : ∃ n, IntKind.i64.wrap (-a) = n := ⟨_, rfl⟩
  have HF := Lib.hid fun W => FloorDiv_any n b W
  have HV := Lib.hid (show ceT a b = (-(flT n b).1, (flT n b).2) ∧ -100000 ≤ (flT n b).1 ∧ (flT n b).1 ≤ 100000 from by
    rw [IntKind.wrap_i64] at hn
    have hnum : numB n = numB a := by
      simp only [numB, wlB]
      congr 1
      apply propext
      omega
    unfold ceT flT
    rw [hnum]
    split
    · next h =>
      simp only [Bool.and_eq_true] at h
      have ha := numB_yes h.1
      have hb : 1 ≤ b ∧ b ≤ 100000 := by simpa [inB] using h.2
      have : n = -a := by omega
      subst this
      refine ⟨rfl, ?_, ?_⟩
      · exact (Int.le_ediv_iff_mul_le (by omega)).2 (by omega)
      · dsimp only
        by_cases hp : 0 ≤ -a
        · have := Int.ediv_le_self b hp; omega
        · have : -a / b < 0 := Int.ediv_neg_of_neg_of_pos (by omega) (by omega)
          omega
    · exact ⟨rfl, by dsimp only; omega, by dsimp only; omega⟩)
  obtain ⟨e, v0, v1⟩ := HV.out
  rw [e]
  generalize flT n b = t at *
  obtain ⟨q, ok⟩ := t
  unfold T2 at HF ⊢
  dsimp only at *
  clear e HV
  go_enter Try.func36, Try.ntmps36
  go_wp2_with fail
  refine (HF.out _).mono ?_
  rintro e w1 ⟨rfl, hb1⟩
  go_wp2
  go_returns
  exact ⟨rfl, hb1⟩

end Go.Proofs.Ytjhfmlbnpdnddaa
