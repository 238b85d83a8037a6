/- What ParseSet answers: the text is cut at its first bracket. -/
import Derived.Test.YtbfjppliploloaaDoorSfF
import Derived.Test.YtbfjppliploloaaDoorStB
import Derived.Lib.Strings
namespace Go.Proofs.YtbfjppliploloaaDoor
open Go.RowKit

theorem fnd_idx (c : UInt8) : ∀ (l : List UInt8) (k : Int), fndI c l k = if Lib.indexByte l c = -1 then -1 else k + Lib.indexByte l c
  | [], k => by simp [fndI, Lib.indexByte]
  | x :: r, k => by
    have hge := Lib.indexByte_ge r c
    have e1 : fndI c (x :: r) k = if x = c then k else fndI c r (k + 1) := rfl
    have e2 : Lib.indexByte (x :: r) c = if x == c then 0 else if Lib.indexByte r c == -1 then -1 else Lib.indexByte r c + 1 := rfl
    rw [e1, e2]
    by_cases hx : x = c
    · simp [hx]
    · have hx' : (x == c) = false := by simpa using hx
      rw [if_neg hx, hx', fnd_idx c r (k + 1)]
      by_cases h : Lib.indexByte r c = -1
      · simp [h]
      · have h' : (Lib.indexByte r c == -1) = false := by simpa using h
        rw [if_neg h, h']
        simp only [Bool.false_eq_true, if_false]
        rw [if_neg (by omega)]
        omega
theorem fnd_zero (c : UInt8) (l : List UInt8) : fndI c l 0 = Lib.indexByte l c := by
  rw [fnd_idx]
  split
  · rename_i h; exact h.symm
  · omega

def paH (t : List UInt8) : List UInt8 := t.take (Lib.indexByte t 40).toNat
def paL (t : List UInt8) : List UInt8 := (t.drop ((Lib.indexByte t 40).toNat + 1)).take (t.length - 1 - ((Lib.indexByte t 40).toNat + 1))
def paR (t : List UInt8) : (List UInt8 × List UInt8) × Bool := if (decide (0 ≤ Lib.indexByte t 40) && (t.getLast? == some 41)) && svS (paH t) (paL t) then ((paH t, paL t), true) else (([], []), false)

theorem suf_last (l : List UInt8) : Lib.hasSuffix l [41] = (l.getLast? == some 41) := by
  rw [← List.head?_reverse]
  unfold Lib.hasSuffix List.isSuffixOf
  cases l.reverse with
  | nil => rfl
  | cons a r =>
    show ((41 == a) && true) = _
    rw [Bool.and_true, List.head?_cons]
    show (41 == a) = (a == 41)
    exact Bool.beq_comm
theorem last_at {t : List UInt8} {x : UInt8} (h : t[t.length - 1]? = some x) : (t.getLast? == some 41) = (x == 41) := by
  rw [List.getLast?_eq_getElem?, h]
  rfl
/-- Where a bracket stands first. -/
theorem pa_at {t : List UInt8} {k : Nat} (hk : k < t.length) (hb : (t.getD k 0 == 40) = true) : Lib.hasSuffix (t.drop (k + 1)) [41] = (t.getLast? == some 41) := by
  rw [suf_last, List.getLast?_drop]
  split
  · rename_i q
    have hkt : k = t.length - 1 := by omega
    have hx : t[t.length - 1]? = some (t.getD k 0) := by
      rw [← hkt, List.getD_eq_getElem?_getD, List.getElem?_eq_getElem hk]
      rfl
    rw [last_at hx, eq_of_beq hb]
    rfl
  · rfl
theorem pa_loop {t : List UInt8} {k : Nat} (h : Lib.hasSuffix (t.drop (k + 1)) [41] = true) (hk : Lib.indexByte t 40 = k) : Lib.trimSuffix (t.drop (k + 1)) [41] = paL t := by
  unfold Lib.trimSuffix paL
  rw [if_pos h, hk, Int.toNat_natCast, List.length_drop]
  congr 1
  simp
  omega
theorem pa_head {t : List UInt8} {k : Nat} (hk : Lib.indexByte t 40 = k) : t.take k = paH t := by
  unfold paH
  rw [hk, Int.toNat_natCast]
/-- The parts and the brackets are the text. -/
theorem pa_text {t : List UInt8} {k : Nat} (hk : Lib.indexByte t 40 = k) (hlt : k < t.length) (hb : (t.getD k 0 == 40) = true) (hl : (t.getLast? == some 41) = true) : paH t ++ [40] ++ paL t ++ [41] = t := by
  have h40 : t[k]? = some 40 := by
    rw [List.getElem?_eq_getElem hlt]
    rw [List.getD_eq_getElem?_getD, List.getElem?_eq_getElem hlt, Option.getD_some] at hb
    rw [eq_of_beq hb]
  have h41 : t.getLast? = some 41 := eq_of_beq hl
  have hne : k + 1 < t.length := by
    by_cases q : k + 1 < t.length
    · exact q
    · have e : k = t.length - 1 := by omega
      rw [List.getLast?_eq_getElem?, ← e, h40] at h41
      exact absurd h41 (by decide)
  have e1 : t = t.take k ++ (40 :: t.drop (k + 1)) := by
    have := List.drop_eq_getElem_cons hlt
    rw [(List.getElem?_eq_some_iff.1 h40).2] at this
    rw [← this, List.take_append_drop]
  have e2 : t.drop (k + 1) = (t.drop (k + 1)).take (t.length - 1 - (k + 1)) ++ [41] := by
    have hd : (t.drop (k + 1)).length = t.length - 1 - (k + 1) + 1 := by rw [List.length_drop]; omega
    have hg : (t.drop (k + 1))[t.length - 1 - (k + 1)]? = some 41 := by
      rw [List.getElem?_drop, show k + 1 + (t.length - 1 - (k + 1)) = t.length - 1 by omega, ← List.getLast?_eq_getElem?, h41]
    obtain ⟨g1, g2⟩ := List.getElem?_eq_some_iff.1 hg
    have := List.take_succ_eq_append_getElem g1
    rw [← hd, List.take_length, g2] at this
    exact this
  unfold paH paL
  rw [hk, Int.toNat_natCast]
  conv => rhs; rw [e1, e2]
  simp
end Go.Proofs.YtbfjppliploloaaDoor
