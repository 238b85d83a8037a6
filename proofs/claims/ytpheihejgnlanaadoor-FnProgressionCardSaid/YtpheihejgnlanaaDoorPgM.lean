/- What the set of a progression tells. -/
import Derived.Test.YtpheihejgnlanaaDoorSetK
import Derived.Test.YtpheihejgnlanaaDoorSfM
namespace Go.Proofs.YtpheihejgnlanaaDoor
open Go.RowKit

theorem res_true {h l H L : List UInt8} (hl : l ≠ []) (h1 : ∀ x ∈ h, x = 48 ∨ x = 49) (h2 : ∀ x ∈ l, x = 48 ∨ x = 49) (e : resA (atS h l) = ((H, L), true)) : svS H L = true ∧ ∀ n, atS H L n = atS h l n := by
  rw [res_nf hl] at e
  split at e
  · rename_i q
    have e1 : nfS h l = (H, L) := congrArg Prod.fst e
    have hs := sv_nf hl h1 h2
    have hp := (nfS_spec (h := h) hl).2.1
    rw [e1] at hs hp q
    exact ⟨by rw [hs]; exact decide_eq_true q, hp⟩
  · exact absurd (congrArg Prod.snd e) (by simp)

/-- Is a number of the progression. -/
def isP (F S n : Nat) : Bool := decide (F ≤ n) && (if S = 0 then decide (n = F) else decide ((n - F) % S = 0))
theorem pr_true {f s : Int} {H L : List UInt8} (e : prR f s = ((H, L), true)) : ∃ F S : Nat, f = F ∧ s = S ∧ F ≤ 400 ∧ S ≤ 240 ∧ svS H L = true ∧ ∀ n, inS (atS H L) n = isP F S n := by
  unfold prR at e
  split at e
  · rename_i q
    rw [Bool.and_eq_true, decide_eq_true_eq, decide_eq_true_eq] at q
    refine ⟨f.toNat, s.toNat, by omega, by omega, by omega, by omega, ?_⟩
    have hbit : ∀ k, ∀ x ∈ List.replicate k (48 : UInt8), x = 48 ∨ x = 49 := fun k x hx => .inl (List.eq_of_mem_replicate hx)
    by_cases hs : s.toNat = 0
    · rw [hs] at e ⊢
      have ea : atS (List.replicate f.toNat 48 ++ [49]) [48] = prA f.toNat 0 := funext fun n => pr_at0 _ n
      rw [← ea] at e
      obtain ⟨h1, h2⟩ := res_true (by simp) (fun x hx => by
        rcases List.mem_append.1 hx with h | h
        · exact hbit _ x h
        · exact .inr (by simpa using h)) (by simp) e
      refine ⟨h1, fun n => ?_⟩
      show (atS H L n == 49) = _
      rw [h2, ea]
      exact in_pr _ _ n
    · have ea : atS (List.replicate f.toNat 48) (49 :: List.replicate (s.toNat - 1) 48) = prA f.toNat s.toNat := funext fun n => pr_at1 _ _ n (by omega)
      rw [← ea] at e
      obtain ⟨h1, h2⟩ := res_true (by simp) (hbit _) (fun x hx => by
        rcases List.mem_cons.1 hx with h | h
        · exact .inr h
        · exact hbit _ x h) e
      refine ⟨h1, fun n => ?_⟩
      show (atS H L n == 49) = _
      rw [h2, ea]
      exact in_pr _ _ n
  · exact absurd (congrArg Prod.snd e) (by simp)
theorem pr_least {H L : List UInt8} {F S : Nat} (hv : svS H L = true) (h : ∀ n, inS (atS H L) n = isP F S n) : leR H L = F := by
  obtain ⟨_, _, _, q4, _, _⟩ := svS_parts hv
  unfold leR
  rw [if_pos hv]
  refine least_one (least_idx (by omega)) (.inr ⟨F, rfl, ?_, fun m hm => ?_⟩)
  · rw [h]
    unfold isP
    simp
  · rw [h]
    unfold isP
    rw [decide_eq_false (by omega)]
    rfl
theorem pr_most {H L : List UInt8} {F S : Nat} (hv : svS H L = true) (h : ∀ n, inS (atS H L) n = isP F S n) : gtR H L = if S = 0 then (F : Int) else -2 := by
  obtain ⟨_, _, _, q4, _, _⟩ := svS_parts hv
  unfold gtR
  rw [if_pos hv]
  refine most_one (most_is (by omega)) ?_
  split
  · rename_i hs
    refine .inr (.inr ⟨F, rfl, ?_, fun m hm => ?_⟩)
    · rw [h]
      unfold isP
      simp
    · rw [h]
      unfold isP
      rw [if_pos hs, decide_eq_false (show ¬ m = F by omega), Bool.and_false]
  · rename_i hs
    refine .inr (.inl ⟨rfl, fun n => ⟨F + n * S, ?_, ?_⟩⟩)
    · have := Nat.mul_le_mul_left n (show 1 ≤ S by omega)
      omega
    · rw [h]
      unfold isP
      rw [if_neg hs, decide_eq_true (by omega), Nat.add_sub_cancel_left, Nat.mul_mod_left]
      rfl
end Go.Proofs.YtpheihejgnlanaaDoor
