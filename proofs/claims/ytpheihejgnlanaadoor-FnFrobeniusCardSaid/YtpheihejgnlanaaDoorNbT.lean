/- The model's functions of chapter 5, the others. -/
import Derived.Test.YtpheihejgnlanaaDoorNbS
namespace Go.Proofs.YtpheihejgnlanaaDoor
open Go.RowKit

theorem specGap_any (a b : Int) (w : World) :
    Calls Tryd.prog 38 #[.int .i64 a, .int .i64 b] w fun e w' => e = .returned (.int .i64 (gapT a b)) ∧ w = w' := by
  rcases ha : inB a 1 100 with _ | _
  · have e : gapT a b = -2 := by unfold gapT; rw [if_neg (by simp [pcB, ha])]
    rw [e]
    go_enter Tryd.func38, Tryd.ntmps38
    go_wp2_with (go_at_call 49; refine (l1In_any _ _ _ _).mono ?_; rintro e w' ⟨rfl, rfl⟩)
    go_returns
    exact ⟨rfl, rfl⟩
  rcases hb : inB b 1 100 with _ | _
  · have e : gapT a b = -2 := by unfold gapT; rw [if_neg (by simp [pcB, hb])]
    rw [e]
    go_enter Tryd.func38, Tryd.ntmps38
    go_wp2_with (go_at_call 49; refine (l1In_any _ _ _ _).mono ?_; rintro e w' ⟨rfl, rfl⟩)
    go_returns
    exact ⟨rfl, rfl⟩
  obtain ⟨a0, a1⟩ := inB_yes ha
  obtain ⟨b0, b1⟩ := inB_yes hb
  have HS := Lib.hid fun W => l1Gcd_any a b W (by omega) (by omega) (by omega) (by omega)
  by_cases hg : Int.gcd a b = 1
  · have e : gapT a b = a * b - a - b := by unfold gapT; rw [if_pos (by simp [pcB, ha, hb, hg])]
    rw [e]
    rw [hg] at HS
    obtain ⟨p, hp⟩ : ∃ p, a * b = p := ⟨_, rfl⟩
    have hpb := mul_bd (a := a) (x := b) (A := 100) (X := 100) (by omega) (by omega) (by omega) (by omega) (by omega)
    rw [hp] at hpb ⊢
    obtain ⟨p0, p1⟩ := hpb
    have hwp : IntKind.i64.wrap p = p := by rw [IntKind.wrap_i64]; omega
    clear e hg
    go_enter Tryd.func38, Tryd.ntmps38
    go_wp2_with (first | (go_at_call 49; refine (l1In_any _ _ _ _).mono ?_; rintro e w' ⟨rfl, rfl⟩) | (go_at_call 77; refine (HS.out _).mono ?_; rintro e w' ⟨rfl, rfl⟩))
    go_returns
    exact ⟨rfl, rfl⟩
  · have e : gapT a b = -2 := by unfold gapT; rw [if_neg (by simp [hg])]
    rw [e]
    obtain ⟨g, hgg⟩ : ∃ g : Int, ((Int.gcd a b : Nat) : Int) = g := ⟨_, rfl⟩
    have hg1 : ¬ g = 1 := by omega
    rw [hgg] at HS
    clear e hg hgg
    go_enter Tryd.func38, Tryd.ntmps38
    go_wp2_with (first | (go_at_call 49; refine (l1In_any _ _ _ _).mono ?_; rintro e w' ⟨rfl, rfl⟩) | (go_at_call 77; refine (HS.out _).mono ?_; rintro e w' ⟨rfl, rfl⟩))
    go_returns
    exact ⟨rfl, rfl⟩

end Go.Proofs.YtpheihejgnlanaaDoor
