/- Several texts in one: SetG SetW SetX SetY Goto SetZ SetH. -/
import Derived.Test.YtmkflokcficmoaaDoorSetF
import Derived.Test.YtmkflokcficmoaaDoorBas
import Derived.ChangeKeysEq
import Derived.Deep.WholeRow
import Derived.BigQuiet
import Derived.Deep.RegionHeld3
import Derived.BigGuardPart
import Derived.WalkMore
import Derived.ScopeJumps

/- HasNumber of the model and of the program. -/
namespace Go.Proofs.YtmkflokcficmoaaDoor
open Go.RowKit

def hnB (h l : List UInt8) (n : Int) : Bool := (svS h l && decide (0 ≤ n)) && inS (atS h l) n.toNat

end Go.Proofs.YtmkflokcficmoaaDoor

/- A window of the program: sixteen numbers of a set, and how two windows are compared. -/
namespace Go.Proofs.YtmkflokcficmoaaDoor
open Go.RowKit

theorem len16 {l : List Value} (h : l.length = 16) : ∃ x0 x1 x2 x3 x4 x5 x6 x7 x8 x9 x10 x11 x12 x13 x14 x15, l = [x0, x1, x2, x3, x4, x5, x6, x7, x8, x9, x10, x11, x12, x13, x14, x15] := by
  match l, h with
  | [x0, x1, x2, x3, x4, x5, x6, x7, x8, x9, x10, x11, x12, x13, x14, x15], _ => exact ⟨x0, x1, x2, x3, x4, x5, x6, x7, x8, x9, x10, x11, x12, x13, x14, x15, rfl⟩
/-- Sixteen stores into a row of sixteen. -/
theorem put16 {W W' : World} {b : Nat} {v0 v1 v2 v3 v4 v5 v6 v7 v8 v9 v10 v11 v12 v13 v14 v15 : Value} (hW : ((((((((((((((((W.setCell ⟨b, 0, none⟩ v0).setCell ⟨b, 1, none⟩ v1).setCell ⟨b, 2, none⟩ v2).setCell ⟨b, 3, none⟩ v3).setCell ⟨b, 4, none⟩ v4).setCell ⟨b, 5, none⟩ v5).setCell ⟨b, 6, none⟩ v6).setCell ⟨b, 7, none⟩ v7).setCell ⟨b, 8, none⟩ v8).setCell ⟨b, 9, none⟩ v9).setCell ⟨b, 10, none⟩ v10).setCell ⟨b, 11, none⟩ v11).setCell ⟨b, 12, none⟩ v12).setCell ⟨b, 13, none⟩ v13).setCell ⟨b, 14, none⟩ v14).setCell ⟨b, 15, none⟩ v15) = W') {c : Array Value} {t : TypeId} (h : W.heap[b]? = some (.cells c t (0, 0))) (hc : c.size = 16) :
    W'.heap[b]? = some (.cells #[v0, v1, v2, v3, v4, v5, v6, v7, v8, v9, v10, v11, v12, v13, v14, v15] t (0, 0)) ∧ (∀ w : World, Below w.heap.size w W → w.heap.size ≤ b → Below w.heap.size w W') := by
  subst hW
  refine ⟨?_, fun w hw hb => ?_⟩
  · obtain ⟨l⟩ := c
    obtain ⟨x0, x1, x2, x3, x4, x5, x6, x7, x8, x9, x10, x11, x12, x13, x14, x15, rfl⟩ := len16 (by simpa using hc)
    have := (heap_setCell_same _ b 15 _ t v15 (heap_setCell_same _ b 14 _ t v14 (heap_setCell_same _ b 13 _ t v13 (heap_setCell_same _ b 12 _ t v12 (heap_setCell_same _ b 11 _ t v11 (heap_setCell_same _ b 10 _ t v10 (heap_setCell_same _ b 9 _ t v9 (heap_setCell_same _ b 8 _ t v8 (heap_setCell_same _ b 7 _ t v7 (heap_setCell_same _ b 6 _ t v6 (heap_setCell_same _ b 5 _ t v5 (heap_setCell_same _ b 4 _ t v4 (heap_setCell_same _ b 3 _ t v3 (heap_setCell_same _ b 2 _ t v2 (heap_setCell_same _ b 1 _ t v1 (heap_setCell_same _ b 0 _ t v0 h))))))))))))))))
    simpa using this
  · exact ((((((((((((((((hw.setCell hb _).setCell hb _).setCell hb _).setCell hb _).setCell hb _).setCell hb _).setCell hb _).setCell hb _).setCell hb _).setCell hb _).setCell hb _).setCell hb _).setCell hb _).setCell hb _).setCell hb _).setCell hb _)

/-- The windows as lists of bools. -/
def winL (a : Nat → UInt8) (s : Nat) : List Bool := (List.range 16).map fun i => inS a (s + i)
theorem winL_len (a : Nat → UInt8) (s : Nat) : (winL a s).length = 16 := by simp [winL]
theorem all_range_b : ∀ (xs ys : List Bool), xs.length = ys.length → ((List.range xs.length).all fun i => xs.getD i false == ys.getD i false) = (xs == ys)
  | [], [], _ => rfl
  | x :: xs, y :: ys, h => by
    have ih := all_range_b xs ys (by simpa using h)
    rw [List.length_cons, List.range_succ_eq_map, List.all_cons, List.all_map]
    simp only [List.getD_cons_zero, Function.comp_def, List.getD_cons_succ, ih]
    simp [List.cons_beq_cons]
  | [], _ :: _, h => by simp at h
  | _ :: _, [], h => by simp at h
theorem run_items_b {P : Program} (w : World) (d : Nat) {e : TypeId} (he : P.underlying e = some .bool) (xs ys : List Bool) (n : Nat) (hx : xs.length = n) (hy : ys.length = n) : ∀ is : List Nat, (∀ i ∈ is, i < n) →
    (Op.eqItems (d + 1) e 1 (xs.map Value.bool).toArray (ys.map Value.bool).toArray is).run P w = .ok (is.all fun i => xs.getD i false == ys.getD i false) w
  | [], _ => by simp [Op.eqItems]
  | i :: is, hi => by
    have h0 : i < n := hi i (by simp)
    have px : (part e (xs.map Value.bool).toArray (i * 1)).run P w = .ok (.bool (xs.getD i false)) w := by
      simp [part, isAgg, run_underlying he, List.getD, List.getElem?_eq_getElem (show i < xs.length by omega)]
    have py : (part e (ys.map Value.bool).toArray (i * 1)).run P w = .ok (.bool (ys.getD i false)) w := by
      simp [part, isAgg, run_underlying he, List.getD, List.getElem?_eq_getElem (show i < ys.length by omega)]
    have ih := run_items_b w d he xs ys n hx hy is fun j hj => hi j (by simp [hj])
    simp only [Op.eqItems, Sem.run_bind, px, py, run_equalIn_bool' w d e _ _ he, Result.andThen_ok, List.all_cons]
    cases hb : (xs.getD i false == ys.getD i false)
    · simp
    · simp only [Bool.not_true, Bool.false_eq_true, if_false, Bool.true_and]
      exact ih
/-- Two arrays of bools are compared. -/
theorem run_neq_b {P : Program} {t e : TypeId} {n : Nat} {i : TypeInfo} (ht : P.underlying t = some (.array n e)) (hi : P.info? e = some i) (hc : P.cellsOf e = 1) (he : P.underlying e = some .bool) (xs ys : List Bool) (hx : xs.length = n) (hy : ys.length = n) (w : World) :
    (binOp .neq t (.agg (xs.map Value.bool).toArray) (.agg (ys.map Value.bool).toArray)).run P w = .ok (.bool (!(xs == ys))) w := by
  rw [run_neq_struct, run_equalIn_array w 9999 _ _ ht hi, hc, run_items_b w 9998 he xs ys n hx hy (List.range n) (fun j hj => by simpa using hj)]
  have := all_range_b xs ys (by omega)
  rw [hx] at this
  rw [this]
  rfl

end Go.Proofs.YtmkflokcficmoaaDoor

/- The program's window. -/
namespace Go.Proofs.YtmkflokcficmoaaDoor
open Go.RowKit

/-- The row of a window of which k numbers are known. -/
def wnC (f : Nat → Bool) (k : Nat) : Array Value := ((List.range 16).map fun i => Value.bool (decide (i < k) && f i)).toArray
theorem wnC_size (f : Nat → Bool) (k : Nat) : (wnC f k).size = 16 := by simp [wnC]
theorem wnC_zero (f : Nat → Bool) : wnC f 0 = Array.replicate 16 (.bool false) := by
  unfold wnC
  simp
  rfl
theorem wnC_succ (f : Nat → Bool) {k : Nat} (hk : k < 16) : (wnC f k).setIfInBounds k (.bool (f k)) = wnC f (k + 1) := by
  apply Array.ext
  · simp [wnC]
  · intro i h1 h2
    have hi : i < 16 := by rw [wnC_size] at h2; exact h2
    by_cases e : i = k
    · subst e
      simp [wnC]
    · rw [Array.getElem_setIfInBounds_ne (by rw [wnC_size]; exact hi) (fun h => e h.symm)]
      simp [wnC]
      by_cases h3 : i < k
      · simp [h3, show i < k + 1 by omega]
      · simp [h3, show ¬ i < k + 1 by omega]
theorem wnC_all (a : Nat → UInt8) (s : Nat) : wnC (fun i => inS a (s + i)) 16 = ((winL a s).map Value.bool).toArray := by
  unfold wnC winL
  rw [List.map_map]
  rfl
theorem heap_last {w W : World} {o : Obj} (hW : w.alloc o = W) : W.heap[w.heap.size]? = some o ∧ W.heap.size = w.heap.size + 1 ∧ Below w.heap.size w W := by
  subst hW
  exact ⟨heap_alloc_last w o, by simp, by go_grown⟩
theorem row_on {W w' : World} {b : Nat} {o : Obj} (h : W.heap[b]? = some o) (hb : Below W.heap.size W w') : w'.heap[b]? = some o := by
  have hlt : b < W.heap.size := by
    rcases Nat.lt_or_ge b W.heap.size with h1 | h1
    · exact h1
    · rw [Array.getElem?_eq_none h1] at h; cases h
  rw [hb.block b hlt]
  exact h

end Go.Proofs.YtmkflokcficmoaaDoor

/- The program's repeatsAfter. -/
namespace Go.Proofs.YtmkflokcficmoaaDoor
open Go.RowKit

theorem s2_keep {W w' : World} {b : Nat} {x y : ByteArray} (h : S2 W b x y) (hb : Below W.heap.size W w') : w'.cell? ⟨b, 0, none⟩ = some (.string x) ∧ w'.cell? ⟨b, 1, none⟩ = some (.string y) :=
  have h1 := s2_on h hb
  ⟨h1.2.1, h1.2.2.1⟩
/-- What windows tell so far. -/
def RpW (a : Nat → UInt8) (N p d : Nat) : Prop := ∀ n, N ≤ n → n < p → inS a n = inS a (n + d)
theorem win_eq {a : Nat → UInt8} {s d : Nat} (h : (winL a s == winL a (s + d)) = true) {n : Nat} (h0 : s ≤ n) (h1 : n < s + 16) : inS a n = inS a (n + d) := by
  have e := eq_of_beq h
  have := congrArg (fun l => l[n - s]?) e
  unfold winL at this
  rw [List.getElem?_map, List.getElem?_map, List.getElem?_range (by omega)] at this
  simp only [Option.map_some, Option.some.injEq] at this
  rw [show s + (n - s) = n by omega, show s + d + (n - s) = n + d by omega] at this
  exact this
theorem win_ne {a : Nat → UInt8} {s d : Nat} (h : (winL a s == winL a (s + d)) = false) : ¬ ∀ n, s ≤ n → inS a n = inS a (n + d) := by
  intro hall
  have : winL a s = winL a (s + d) := by
    unfold winL
    apply List.map_congr_left
    intro i _
    rw [hall _ (by omega), show s + i + d = s + d + i by omega]
  rw [this] at h
  simp at h

end Go.Proofs.YtmkflokcficmoaaDoor

/- A body that begins with a label, to which it may jump back. -/
namespace Go.Proofs.YtmkflokcficmoaaDoor
variable {P : Program} {Q : Exit → Act → World → Prop} {a : Act} {w : World}
theorem wp_scope_again {body : Code} (l : Nat) (J : Act → World → Prop) (μ : Act → World → Nat) (hJ : J a w)
    (pass : ∀ a w, J a w → body.wp P (Exit.jump l (fun a' w' => J a' w' ∧ μ a' w' < μ a w) Q) a w) : (Code.scope (.seq (.label l) body)).wp P Q a w := by
  have hf : findLabel (.seq (.label l) body) l = some (.seq .skip body) := by simp [findLabel]
  refine wp_scope_jumps l J μ hf ?_ fun a w h => ?_
  · refine wp_seq (wp_label ?_)
    refine wp_mono (pass a w hJ) fun e a' w' h => ?_
    cases e <;> first | exact h | exact ⟨h.1, h.2.1⟩
  · refine wp_seq (wp_skip ?_)
    exact pass a w h
end Go.Proofs.YtmkflokcficmoaaDoor

/- The program's reduced. -/
namespace Go.Proofs.YtmkflokcficmoaaDoor
open Go.RowKit

/-- At each jump: the loop so far. -/
def RdJm (h l m : List UInt8) : Prop := m ≠ [] ∧ m.length ≤ l.length ∧ (∀ n, atS h m n = atS h l n) ∧ (∀ x ∈ m, x = 48 ∨ x = 49)
def RdS (h l : List UInt8) (w W : World) : Prop := ∃ m, RdJm h l m ∧ S2 W w.heap.size (bs h) (bs m) ∧ (∃ u v, S2 W (w.heap.size + 1) u v) ∧ Below w.heap.size w W
def boxSz (b : Nat) (W : World) : Nat := match W.cell? ⟨b, 1, none⟩ with | some (.string x) => x.size | _ => 0

theorem rd_next {h l m : List UInt8} {t : Nat} (hm : RdJm h l m) (ht : 2 ≤ t) (htm : t ≤ m.length) (he : m.length / t * t = m.length) (hp : PerS (atS h m) h.length (m.length / t)) : RdJm h l (m.take (m.length / t)) ∧ (m.take (m.length / t)).length < m.length := by
  obtain ⟨h1, h2, h3, h4⟩ := hm
  have hd0 : 0 < m.length / t := Nat.div_pos htm (by omega)
  have hlt : m.length / t < m.length := Nat.div_lt_self (by omega) (by omega)
  have hlen : (m.take (m.length / t)).length = m.length / t := by rw [List.length_take]; omega
  refine ⟨⟨fun e => by rw [e] at hlen; simp at hlen; omega, by omega, fun n => by rw [← h3]; exact red_step hd0 ⟨t, he.symm⟩ hp n, fun x hx => h4 x (List.mem_of_mem_take hx)⟩, by omega⟩
theorem box_sz {W : World} {b : Nat} {x y : ByteArray} (h : S2 W b x y) : boxSz b W = y.size := by
  unfold boxSz
  rw [h.2.2.1]
theorem rd_min {h l m : List UInt8} (_ : l ≠ []) (hm : RdJm h l m) (hx : ∀ t, 2 ≤ t → t ≤ m.length → ¬ (m.length / t * t = m.length ∧ PerS (atS h m) h.length (m.length / t))) : MinS (atS h l) m.length := by
  have := min_exit hm.1 hx
  have e : atS h m = atS h l := funext hm.2.2.1
  rwa [e] at this

/-- The frame and the world at each jump. -/
def RdJ (h l : List UInt8) (w : World) (a' : Act) (W : World) : Prop := RdS h l w W ∧ ∃ u : Nat → Value, a' = { tmps := #[.agg #[.string (bs h), .string (bs l)], .pointer (some ⟨w.heap.size, 0, none⟩), .pointer (some ⟨w.heap.size + 1, 0, none⟩), u 3, u 4, u 5, u 6, u 7, u 8, u 9, u 10, u 11, u 12, u 13, u 14, u 15, u 16, u 17, u 18, u 19, u 20, u 21, u 22, u 23, u 24, u 25, u 26, u 27, u 28, u 29, u 30, u 31, u 32, u 33, u 34, u 35, u 36, u 37, u 38, u 39, u 40, u 41, u 42, u 43, u 44, u 45, u 46, u 47, u 48, u 49, u 50, u 51, u 52, u 53, u 54, u 55, u 56, u 57, u 58, u 59, u 60, u 61, u 62, u 63, u 64, u 65, u 66, u 67, u 68, u 69, u 70, u 71, u 72, u 73, u 74, u 75, u 76], defers := [] }
theorem rdj_mk {h l : List UInt8} {w W : World} {tm : Array Value} (hS : RdS h l w W) (h0 : tm.getD 0 undef = .agg #[.string (bs h), .string (bs l)]) (h1 : tm.getD 1 undef = .pointer (some ⟨w.heap.size, 0, none⟩)) (h2 : tm.getD 2 undef = .pointer (some ⟨w.heap.size + 1, 0, none⟩)) (hs : tm.size = 77) : RdJ h l w { tmps := tm, defers := [] } W := by
  refine ⟨hS, fun i => tm.getD i undef, ?_⟩
  rw [← h0, ← h1, ← h2]
  have e : tm = ((List.range 77).map fun i => tm.getD i undef).toArray := by
    apply Array.ext
    · simp [hs]
    · intro i q1 q2
      simp [q1]
  show ({ tmps := tm, defers := [] } : Act) = { tmps := ((List.range 77).map fun i => tm.getD i undef).toArray, defers := [] }
  rw [← e]

end Go.Proofs.YtmkflokcficmoaaDoor

/- NormalSet of the program; SameSet of the model and of the program. -/
namespace Go.Proofs.YtmkflokcficmoaaDoor
open Go.RowKit

open Classical in
noncomputable def ssB (h l h' l' : List UInt8) : Bool := (svS h l && svS h' l') && decide (nfS h l = nfS h' l')
theorem eql_set (a b c d : List UInt8) (W : World) : (binOp .eql 34 (.agg #[.string (bs a), .string (bs b)]) (.agg #[.string (bs c), .string (bs d)])).run Tryd.prog W = .ok (.bool (a == c && b == d)) W := by
  have hlist := bs_list
  cases hq : a == c <;> cases hr : b == d <;> simp [go_sem, hq, hr, bs_list]

end Go.Proofs.YtmkflokcficmoaaDoor
