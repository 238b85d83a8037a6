/- The least number with a property. -/
import Derived.Test.YtpheihejgnlanaaDoorBas
namespace Go.Proofs.YtpheihejgnlanaaDoor

/-- The least number with a property. -/
noncomputable def leastN (p : Nat → Prop) : Nat := by
  classical
  exact if h : ∃ n, p n ∧ ∀ m, p m → n ≤ m then Classical.choose h else 0
theorem least_has {p : Nat → Prop} (h : ∃ n, p n) : ∃ n, p n ∧ ∀ m, p m → n ≤ m := by
  obtain ⟨n, hn⟩ := h
  revert hn
  induction n using Nat.strongRecOn with
  | _ n ih =>
    intro hn
    by_cases hm : ∃ m, m < n ∧ p m
    · obtain ⟨m, hm, hp⟩ := hm
      exact ih m hm hp
    · exact ⟨n, hn, fun m hp => by
        by_cases hmn : n ≤ m
        · exact hmn
        · exact absurd ⟨m, by omega, hp⟩ hm⟩
theorem least_spec {p : Nat → Prop} (h : ∃ n, p n) : p (leastN p) := by
  unfold leastN
  rw [dif_pos (least_has h)]
  exact (Classical.choose_spec (least_has h)).1
theorem least_le {p : Nat → Prop} {m : Nat} (h : p m) : leastN p ≤ m := by
  unfold leastN
  rw [dif_pos (least_has ⟨m, h⟩)]
  exact (Classical.choose_spec (least_has ⟨m, h⟩)).2 m h

end Go.Proofs.YtpheihejgnlanaaDoor
