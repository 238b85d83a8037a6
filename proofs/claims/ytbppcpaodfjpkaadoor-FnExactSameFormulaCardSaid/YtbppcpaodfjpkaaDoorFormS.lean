/- Contracts of AtomsOf of the model and of the program. -/
import Derived.Test.YtbppcpaodfjpkaaDoorFormR
import Derived.Test.YtbppcpaodfjpkaaDoorFormN
namespace Go.Proofs.YtbppcpaodfjpkaaDoor
open Go.RowKit

def atL (h : FH) (f : Fo) : List AtD := if vfB h f = true then atF h f else []
/-- A new list of atoms, nil or not. -/
def AtqT (L : List AtD) (w : World) (e : Ending) (w' : World) : Prop := ∃ v, e = .returned v ∧ OwnA w' w.heap.size v L ∧ Below w.heap.size w w'

/-- The nodes with what they are made of. -/
def Fo.fl2 : Fo → List (FH × List Value)
  | .nil => []
  | .cons h s r => (h, s.nds) :: (s.fl2 ++ r.fl2)
def ndP (p : FH × List Value) : Value := nd1 p.1 p.2
theorem fl2_flat (f : Fo) : f.flat = f.fl2.map ndP := by
  induction f with
  | nil => rfl
  | cons h s r ih1 ih2 => simp only [Fo.flat, Fo.fl2, List.map_cons, List.map_append, ih1, ih2]; rfl
def atK (p : FH × List Value) : List AtD := if p.1.k = 0 ∨ p.1.k = 1 ∨ p.1.k = 3 ∨ p.1.k = 4 ∨ p.1.k = 5 ∨ p.1.k = 6 ∨ p.1.k = 7 then [] else [atD p.1]
theorem atK_cases (p : FH × List Value) : (atK p = [] ∧ ∃ t y, ndP p = .iface t y ∧ (t = 131 ∨ t = 133 ∨ t = 135 ∨ t = 116)) ∨
    (atK p = [atD p.1] ∧ ndP p = .iface 114 (.agg #[.int .i64 p.1.ak, .int .i64 p.1.am, .int .i64 p.1.a, .int .i64 p.1.b, .int .i64 p.1.c, .int .i64 p.1.d, .int .i64 p.1.n])) := by
  unfold atK ndP nd1
  by_cases h : p.1.k = 0 ∨ p.1.k = 1 ∨ p.1.k = 3 ∨ p.1.k = 4 ∨ p.1.k = 5 ∨ p.1.k = 6 ∨ p.1.k = 7
  · rw [if_pos h]
    refine .inl ⟨rfl, ?_⟩
    rcases h with h | h | h | h | h | h | h <;> rw [h] <;> simp
  · rw [if_neg h]
    refine .inr ⟨rfl, ?_⟩
    repeat rw [if_neg (by omega)]
theorem fl2_ats : ∀ (f : Fo), f.okB = true → f.fl2.flatMap atK = f.ats := by
  intro f
  induction f with
  | nil => intro _; rfl
  | cons h s r ih1 ih2 =>
    intro hok
    simp only [Fo.okB, Bool.and_eq_true] at hok
    simp only [Fo.fl2, Fo.ats, List.flatMap_cons, List.flatMap_append, ih1 hok.1.2, ih2 hok.2]
    rcases own_kind hok.1.1 with ⟨hl, hk⟩ | ⟨hl, hk⟩ | ⟨hl, hk⟩
    · obtain rfl := Fo.len_zero hl
      rcases hk with hk | hk | hk
      · simp [atK, hk, Fo.ats]
      · simp [atK, hk, Fo.ats]
      · simp [atK, hk, Fo.ats]
    · rw [if_neg (by omega)]
      rcases hk with hk | hk | hk <;> simp [atK, hk]
    · rw [if_neg (by omega)]
      rcases hk with hk | hk <;> simp [atK, hk]
theorem fl2_atF {h : FH} {f : Fo} (ho : ownB h f.len = true) (hok : f.okB = true) : ((h, f.nds) :: f.fl2).flatMap atK = atF h f := by
  have := fl2_ats (.cons h f .nil) (by simp only [Fo.okB, Bool.and_true, Bool.and_eq_true]; exact ⟨ho, hok⟩)
  simpa [Fo.fl2, Fo.ats, atF] using this
theorem atK_len (P : List (FH × List Value)) : (P.flatMap atK).length ≤ P.length := by
  induction P with
  | nil => exact Nat.le_refl _
  | cons p r ih =>
    simp only [List.flatMap_cons, List.length_append, List.length_cons]
    rcases atK_cases p with ⟨e, _⟩ | ⟨e, _⟩ <;> rw [e] <;> simp only [List.length_nil, List.length_cons] <;> omega

theorem Tryd.ta_atom (k m a b c d n : Int) (w : World) : (Instr.typeAssert (.iface 114 (.agg #[.int .i64 k, .int .i64 m, .int .i64 a, .int .i64 b, .int .i64 c, .int .i64 d, .int .i64 n])) 84 114 true).run Tryd.prog w = .ok (.tuple #[.agg #[.int .i64 k, .int .i64 m, .int .i64 a, .int .i64 b, .int .i64 c, .int .i64 d, .int .i64 n], .bool true]) w := by kernel_rfl
theorem Tryd.ta_other (t : TypeId) (y : Value) (h : t = 131 ∨ t = 133 ∨ t = 135 ∨ t = 116) (w : World) : (Instr.typeAssert (.iface t y) 84 114 true).run Tryd.prog w = .ok (.tuple #[.agg #[.int .i64 0, .int .i64 0, .int .i64 0, .int .i64 0, .int .i64 0, .int .i64 0, .int .i64 0], .bool false]) w := by
  rcases h with rfl | rfl | rfl | rfl
  · kernel_rfl
  · kernel_rfl
  · kernel_rfl
  · kernel_rfl

def AoR (P : List (FH × List Value)) (B : Nat) (w2 : World) (v i : Value) (wr : World) : Prop :=
  ∃ (k : Nat) (D : List AtD), i = .int .i64 k ∧ k ≤ P.length ∧ D = (P.take k).flatMap atK ∧ OwnA wr B v D ∧ Below B w2 wr

theorem atL_len (h : FH) (f : Fo) : (atL h f).length ≤ 600 := by
  unfold atL
  split
  · rename_i hv
    have := atF_len h f
    have := (vf_parts hv).2.2
    omega
  · simp

end Go.Proofs.YtbppcpaodfjpkaaDoor
