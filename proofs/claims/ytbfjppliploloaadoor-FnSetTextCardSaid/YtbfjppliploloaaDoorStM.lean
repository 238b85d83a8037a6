/- A set's text and what is parsed from it: each is that of the other. -/
import Derived.Test.YtbfjppliploloaaDoorSgM
import Derived.Test.YtbfjppliploloaaDoorSfF
namespace Go.Proofs.YtbfjppliploloaaDoor
open Go.RowKit

theorem fs_len (h l : List UInt8) : (fsT h l).length ≤ 700 := by
  unfold fsT
  split
  · rename_i hv
    obtain ⟨_, _, q3, _, q5, _⟩ := svS_parts hv
    simp
    omega
  · simp
theorem fs_no {h l : List UInt8} (hv : svS h l = false) : fsT h l = [] := by unfold fsT; rw [if_neg (by rw [hv]; decide)]
theorem fs_yes {h l : List UInt8} (hv : svS h l = true) : fsT h l = h ++ [40] ++ l ++ [41] := by unfold fsT; rw [if_pos hv]
theorem pa_fs {h l : List UInt8} (hv : svS h l = true) : paR (fsT h l) = ((h, l), true) := by
  rw [fs_yes hv]
  obtain ⟨q1, q2, q3, q4, q5, q6⟩ := svS_parts hv
  have hat : (h ++ [40] ++ l ++ [41]).getD h.length 0 = 40 := by simp [List.getD_eq_getElem?_getD]
  have hbe : ∀ m, m < h.length → ¬ ((h ++ [40] ++ l ++ [41]).getD m 0 == 40) = true := fun m hm e => by
    have hx : (h ++ [40] ++ l ++ [41]).getD m 0 = h[m] := by
      rw [List.getD_eq_getElem?_getD, List.append_assoc, List.append_assoc, List.getElem?_append_left hm, List.getElem?_eq_getElem hm]
      rfl
    rw [hx] at e
    have e' := eq_of_beq e
    rcases q1 h[m] (List.getElem_mem hm) with h0 | h0 <;> rw [h0] at e' <;> exact absurd e' (by decide)
  have hix : Lib.indexByte (h ++ [40] ++ l ++ [41]) 40 = h.length := by
    rcases idx_spec 40 (h ++ [40] ++ l ++ [41]) with ⟨_, hno⟩ | ⟨n, hn, hi, hb, hmin⟩
    · have := hno h.length (by simp)
      rw [hat] at this
      exact absurd this (by decide)
    · rw [hi]
      have h1 : ¬ n < h.length := fun hlt => hbe n hlt hb
      have h2 : ¬ h.length < n := fun hlt => by
        have := hmin h.length hlt
        rw [hat] at this
        exact absurd this (by decide)
      omega
  have eH : paH (h ++ [40] ++ l ++ [41]) = h := by
    unfold paH
    rw [hix, Int.toNat_natCast, List.append_assoc, List.append_assoc, List.take_left]
  have eL : paL (h ++ [40] ++ l ++ [41]) = l := by
    unfold paL
    rw [hix, Int.toNat_natCast]
    have e1 : (h ++ [40] ++ l ++ [41]).drop (h.length + 1) = l ++ [41] := by
      rw [show h ++ [40] ++ l ++ [41] = (h ++ [40]) ++ (l ++ [41]) by simp, show h.length + 1 = (h ++ [40]).length by simp, List.drop_left]
    have e2 : (h ++ [40] ++ l ++ [41]).length - 1 - (h.length + 1) = l.length := by
      simp only [List.length_append, List.length_cons, List.length_nil]
      omega
    rw [e1, e2, List.take_left]
  unfold paR
  rw [eH, eL, hv, hix, decide_eq_true (by omega), List.getLast?_concat]
  rfl
theorem fs_pa {t X Y : List UInt8} (e : paR t = ((X, Y), true)) : fsT X Y = t ∧ svS X Y = true := by
  unfold paR at e
  split at e
  · rename_i q
    rw [Bool.and_eq_true, Bool.and_eq_true, decide_eq_true_eq] at q
    obtain ⟨⟨q1, q2⟩, q3⟩ := q
    have e1 : paH t = X := congrArg (fun r => r.1.1) e
    have e2 : paL t = Y := congrArg (fun r => r.1.2) e
    rw [e1, e2] at q3
    refine ⟨?_, q3⟩
    rw [fs_yes q3, ← e1, ← e2]
    rcases idx_spec 40 t with ⟨hi, _⟩ | ⟨k, hk, hi, hb, _⟩
    · rw [hi] at q1; exact absurd q1 (by decide)
    · exact pa_text hi hk hb q2
  · exact absurd (congrArg Prod.snd e) (by simp)
theorem pa_no {t X Y : List UInt8} (e : paR t = ((X, Y), false)) : X = [] ∧ Y = [] := by
  unfold paR at e
  split at e
  · exact absurd (congrArg Prod.snd e) (by simp)
  · exact ⟨(congrArg (fun r => r.1.1) e).symm, (congrArg (fun r => r.1.2) e).symm⟩
theorem pa_len (t : List UInt8) : (paR t).1.1.length ≤ 400 ∧ (paR t).1.2.length ≤ 240 := by
  unfold paR
  split
  · rename_i q
    rw [Bool.and_eq_true] at q
    obtain ⟨_, _, q3, _, q5, _⟩ := svS_parts q.2
    exact ⟨q3, q5⟩
  · simp
end Go.Proofs.YtbfjppliploloaaDoor
