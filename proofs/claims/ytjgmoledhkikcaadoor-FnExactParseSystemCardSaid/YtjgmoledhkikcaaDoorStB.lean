/- Strings in a walk: the model's l17Find. -/
import Derived.Test.YtjgmoledhkikcaaDoorStA
namespace Go.Proofs.YtjgmoledhkikcaaDoor
open Go.RowKit

/-- Where a byte stands first, or -1. -/
def fndI (c : UInt8) : List UInt8 → Int → Int
  | [], _ => -1
  | x :: r, k => if x = c then k else fndI c r (k + 1)

set_option maxHeartbeats 1000000 in
theorem l17Find_any (l : List UInt8) (c : UInt8) (w : World) (hl : l.length ≤ 1000000000) :
    Calls Tryd.prog 37 #[.string (bs l), .int .u8 c.toNat] w fun e w' => e = .returned (.int .i64 (fndI c l 0)) ∧ w = w' := by
  have hsz := bs_size l
  obtain ⟨n, hn⟩ : ∃ n, l.length = n := ⟨_, rfl⟩
  have HN := Lib.hid hn
  rw [hn] at hsz hl
  clear hn
  go_enter Tryd.func37, Tryd.ntmps37
  go_wp2
  go_loopw [5] (fun i wr => ∃ k : Nat, i = .int .i64 k ∧ k ≤ n ∧ wr = w ∧ fndI c (l.drop k) k = fndI c l 0) (fun i _ => n - (intOf i).toNat)
  case atStart => exact ⟨0, rfl, Nat.zero_le _, rfl, by simp⟩
  case round =>
    obtain ⟨k, rfl, hk, rfl, hf⟩ := hrel
    have HF := Lib.hid hf
    clear hf
    by_cases hlt : k < n
    · have hk' : (k : Int) < (n : Int) := by omega
      obtain ⟨x, hx⟩ : ∃ x, l[k]? = some x := ⟨_, List.getElem?_eq_getElem (by rw [HN.out]; exact hlt)⟩
      have hix := fun w => run_at (P := Tryd.prog) Tryd.underlying9 hx .i64 w
      have HD := Lib.hid (show l.drop k = x :: l.drop (k + 1) by
        have h := List.getElem?_eq_some_iff.1 hx
        rw [List.drop_eq_getElem_cons h.1, h.2])
      have HE := Lib.hid (u8_eq x c)
      clear hx
      obtain ⟨q, hq⟩ : ∃ q : Int, (x.toNat : Int) = q := ⟨_, rfl⟩
      obtain ⟨z, hz⟩ : ∃ z : Int, (c.toNat : Int) = z := ⟨_, rfl⟩
      rw [hq] at hix HE
      rw [hz] at HE
      have HZ := Lib.hid hz
      clear hq
      cases hxc : x == c with
      | true =>
        have he : (q == z) = true := by rw [HE.out]; exact hxc
        have hc : x = c := by simpa using hxc
        have HF2 := Lib.hid (show fndI c l 0 = k by rw [← HF.out, HD.out]; unfold fndI; rw [if_pos hc])
        rw [hz]
        go_wp2
        go_ret
        exact ⟨ret_int HF2.out.symm, rfl⟩
      | false =>
        have he : (q == z) = false := by rw [HE.out]; exact hxc
        have hc : ¬ x = c := by simpa using hxc
        have HF2 := Lib.hid (show fndI c (l.drop (k + 1)) ((k : Int) + 1) = fndI c l 0 by rw [← HF.out, HD.out]; conv => rhs; unfold fndI; rw [if_neg hc])
        rw [hz]
        go_wp2
        go_roundw
        case rel => exact ⟨k + 1, by go_num, by omega, trivial, HF2.out⟩
        case measure => simp [intOf]; omega
    · have hk' : ¬ (k : Int) < (n : Int) := by omega
      obtain rfl : k = n := by omega
      have HF2 := Lib.hid (show fndI c l 0 = -1 by rw [← HF.out, ← HN.out, List.drop_length]; rfl)
      go_wp2
      go_ret
      exact ⟨ret_int HF2.out.symm, rfl⟩

end Go.Proofs.YtjgmoledhkikcaaDoor
