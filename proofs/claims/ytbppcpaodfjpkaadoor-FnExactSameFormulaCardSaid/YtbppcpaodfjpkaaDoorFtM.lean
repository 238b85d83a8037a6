/- The text of a formula: data. -/
import Derived.Test.YtbppcpaodfjpkaaDoorFormS
import Derived.Test.YtbppcpaodfjpkaaDoorWd
import Derived.Test.YtbppcpaodfjpkaaDoorTxE
import Derived.Lib.Join
namespace Go.Proofs.YtbppcpaodfjpkaaDoor
open Go.RowKit

/-- A node's own text. -/
def owT (h : FH) : List UInt8 := if h.k = 2 then taL h.ak h.am h.a h.b h.c h.d h.n else if h.k = 6 ∨ h.k = 7 then wdT h.k ++ [32] ++ [UInt8.ofNat (97 + h.v.toNat)] else wdT h.k
def Fo.txs : Fo → List UInt8
  | .nil => []
  | .cons h s r => (32 :: (owT h ++ s.txs)) ++ r.txs
def txF (h : FH) (f : Fo) : List UInt8 := owT h ++ f.txs
def fmT (h : FH) (f : Fo) : List UInt8 := if vfB h f = true then txF h f else []

theorem taL_len (k m a b c d n : Int) : (taL k m a b c d n).length ≤ 140 := by
  have h := tf_len a b c d n
  unfold taL
  split
  · rename_i hv
    have hm := (avB_cases hv).1
    have h2 : (Lib.itoa m).length ≤ 21 := Lib.itoa_length_le m (by omega) (by omega)
    split
    · simp; omega
    · split
      · simp; omega
      · split <;> simp <;> omega
  · simp
theorem ow_len (h : FH) : (owT h).length ≤ 140 := by
  unfold owT
  have h1 := wd_len h.k
  split
  · exact taL_len _ _ _ _ _ _ _
  · split
    · simp; omega
    · omega
theorem txs_len (f : Fo) : f.txs.length ≤ 141 * f.size := by
  induction f with
  | nil => simp [Fo.txs]
  | cons h s r ih1 ih2 =>
    have := ow_len h
    simp only [Fo.txs, Fo.size, List.length_append, List.length_cons]
    omega
theorem txF_len (h : FH) (f : Fo) : (txF h f).length ≤ 141 * (f.size + 1) := by
  have h1 := ow_len h
  have h2 := txs_len f
  simp only [txF, List.length_append]
  omega

def fwK (p : FH × List Value) : List UInt8 := owT p.1
theorem tail_txs (f : Fo) : Lib.joinTail [32] (f.fl2.map fwK) = f.txs := by
  induction f with
  | nil => rfl
  | cons h s r ih1 ih2 =>
    simp only [Lib.joinTail] at ih1 ih2
    simp only [Fo.fl2, Fo.txs, Lib.joinTail, List.map_cons, List.map_append, List.flatten_cons, List.flatten_append, ih1, ih2, fwK]
    simp
theorem join_tx (h : FH) (f : Fo) : Lib.join (((h, f.nds) :: f.fl2).map fwK) [32] = txF h f := by
  rw [List.map_cons, Lib.join_cons, tail_txs]
  rfl
theorem ow_ne {h : FH} {len : Nat} (ho : ownB h len = true) : owT h ≠ [] := by
  have hk := own_kind ho
  unfold owT
  split
  · rename_i h2
    unfold ownB at ho
    rw [if_pos h2] at ho
    simp only [Bool.and_eq_true] at ho
    have ha : avB h.ak h.am h.a h.b h.c h.d h.n = true := ho.1.1
    unfold taL
    rw [if_pos ha]
    split
    · simp
    · split
      · simp
      · split <;> simp
  · split
    · simp
    · rename_i h2 h67
      unfold wdT
      have : h.k = 0 ∨ h.k = 1 ∨ h.k = 3 ∨ h.k = 4 ∨ h.k = 5 := by omega
      rcases this with e | e | e | e | e <;> rw [e] <;> simp
end Go.Proofs.YtbppcpaodfjpkaaDoor
