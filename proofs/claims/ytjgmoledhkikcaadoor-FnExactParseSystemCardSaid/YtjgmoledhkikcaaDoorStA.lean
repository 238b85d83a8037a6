/- Strings as lists of bytes. -/
import Derived.Test.YtjgmoledhkikcaaDoorMa7
import Derived.Lib.Strings
namespace Go.Proofs.YtjgmoledhkikcaaDoor
open Go.RowKit

/-- The string with some bytes. -/
def bs (l : List UInt8) : ByteArray := ⟨l.toArray⟩
theorem bs_data (l : List UInt8) : (bs l).data.toList = l := by simp [bs]
theorem bs_size (l : List UInt8) : (bs l).size = l.length := by rw [Lib.size_eq, bs_data]
theorem bs_list (l : List UInt8) : (bs l).toList = l := by rw [Lib.toList_data, bs_data]
theorem bs_ext (l : List UInt8) (a b : Nat) : (bs l).extract a b = bs ((l.drop a).take (b - a)) := by rw [Lib.extract_eq, bs_data]; rfl
theorem bs_app (x y : List UInt8) : bs x ++ bs y = bs (x ++ y) := by
  have h : (bs x ++ bs y).data = (bs (x ++ y)).data := by simp [bs, ByteArray.data_append]
  exact ByteArray.ext h
theorem bs_of (s : ByteArray) : ∃ l, s = bs l := ⟨s.data.toList, (Lib.mk_data s).symm⟩
theorem bs_inj {x y : List UInt8} (h : bs x = bs y) : x = y := by rw [← bs_data x, h, bs_data]
theorem bs_get (l : List UInt8) (i : Nat) (h : i < (bs l).size) : (((bs l)[i]'h).toNat : Int) = ((l.getD i 0).toNat : Int) := by
  have h' : i < l.length := by rw [bs_size] at h; exact h
  have e : (bs l)[i]'h = l[i] := by
    show (bs l).data[i] = l[i]
    simp [bs]
  rw [e, List.getD_eq_getElem?_getD, List.getElem?_eq_getElem h']
  rfl
/-- An index, as a fact to lay ahead of the walk. -/
theorem run_at {P : Program} {t : TypeId} (ht : P.underlying t = some .string) {l : List UInt8} {i : Nat} {x : UInt8} (h : l[i]? = some x) (k : IntKind) (w : World) :
    (Instr.index t (.string (bs l)) (.int k i)).run P w = .ok (.int .u8 (x.toNat : Int)) w := by
  have hi := (List.getElem?_eq_some_iff.1 h).1
  rw [run_index_string w t (bs l) k i ht]
  have hs := bs_size l
  rw [dif_pos ⟨by omega, by omega⟩]
  congr 2
  have := bs_get l i (by omega)
  rw [List.getD_eq_getElem?_getD, h] at this
  simpa using this
theorem u8_eq (x c : UInt8) : ((x.toNat : Int) == (c.toNat : Int)) = (x == c) := by
  rw [Bool.eq_iff_iff, beq_iff_eq, beq_iff_eq, Int.ofNat_inj, UInt8.toNat_inj]
theorem u8_ne (x c : UInt8) : ((x.toNat : Int) != (c.toNat : Int)) = (x != c) := by
  unfold bne
  rw [u8_eq]
end Go.Proofs.YtjgmoledhkikcaaDoor
