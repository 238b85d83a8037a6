/- What the laws of chapter 7 draw as arguments: a set, a set and a number, two sets; nothing old turns. -/
import Derived.Test.YtbfjppliploloaaDoorDrT
import Derived.Test.YtbfjppliploloaaDoorSf7
namespace Go.Proofs.YtbfjppliploloaaDoor
open Go.RowKit

def Dr1S (w : World) (e : Ending) (w' : World) : Prop := ∃ h l : List UInt8, e = .returned (.agg #[.string (bs h), .string (bs l)]) ∧ SmL h l ∧ Below w.heap.size w w'
def Dr1N (w : World) (e : Ending) (w' : World) : Prop := ∃ (h l : List UInt8) (n : Int), e = .returned (.tuple #[.agg #[.string (bs h), .string (bs l)], .int .i64 n]) ∧ SmL h l ∧ BigN n ∧ Below w.heap.size w w'
def Dr2S (w : World) (e : Ending) (w' : World) : Prop := ∃ h l h' l' : List UInt8, e = .returned (.tuple #[.agg #[.string (bs h), .string (bs l)], .agg #[.string (bs h'), .string (bs l')]]) ∧ SmL h l ∧ SmL h' l' ∧ Below w.heap.size w w'
def IntG7 (r : Nat) (p K : Int) (w : World) (e : Ending) (w' : World) : Prop := ∃ x : Int, e = .returned (.int .i64 x) ∧ BigN x ∧ Turned r p K w w'

set_option maxHeartbeats 2000000 in
theorem DrawFormatSet_t (sp : Option Addr) (n cap : Nat) (w : World) (h : Code w sp n cap) :
    Calls Tryd.prog 4 #[.slice sp n cap] w (Dr1S w) := by
  have HC := Lib.hid h
  clear h
  go_enter Tryd.func4, Tryd.ntmps4
  go_wp2_with fail
  generalize hW : World.alloc w _ = W
  obtain ⟨hz, hsz, hbz⟩ := s2_new hW
  clear hW
  refine (l17Open_t sp n cap W (code_on HC.out hbz)).mono ?_
  rintro e w1 ⟨r, rfl, hr, hR, hb1⟩
  have hz1 := s2_on hz hb1
  have hb := below_on hbz hb1
  have HR := Lib.hid hR
  have hzr : w.heap.size ≠ r := by have := hz.1; omega
  clear hR hb1 hz
  go_wp2_with fail
  refine (l7Open_t r 0 w1 HR.out (by omega)).mono ?_
  rintro e w2 ⟨h, l, rfl, hs, ht2⟩
  have hz2 := s2_turned hz1 ht2.1 hzr
  have HB2 := Lib.hid (opened_below hb (by omega) ht2)
  have HS := Lib.hid hs
  clear hz1 ht2 hs hb
  obtain ⟨z0, z1, z2, z3⟩ := id hz2
  go_wp2
  generalize hW9 : World.setCell _ _ _ = W9
  obtain ⟨⟨_, r1, r2, _⟩, _, _, hb9⟩ := s2_put hW9 _ _ hz2
  refine bodyPost_ret (v := .agg #[.string (bs h), .string (bs l)]) (by simp [results, Tryd.results4, go_sem, r1, r2]) rfl ⟨h, l, rfl, HS.out, hb9 w HB2.out (Nat.le_refl _)⟩

theorem four_at_i {w : World} {b : Nat} {x y z u : Int} (h0 : w.cell? ⟨b, 0, none⟩ = some (.int .i64 x)) (h1 : w.cell? ⟨b, 1, none⟩ = some (.int .i64 y)) (h2 : w.cell? ⟨b, 2, none⟩ = some (.int .i64 z)) (h3 : w.cell? ⟨b, 3, none⟩ = some (.int .i64 u)) :
    ∀ (i : Nat) v, ([x, y, z, u] : List Int)[i]? = some v → w.cell? ⟨b, i, none⟩ = some (.int .i64 v) := by
  intro i v hv
  match i, hv with
  | 0, hv => simp at hv; subst hv; exact h0
  | 1, hv => simp at hv; subst hv; exact h1
  | 2, hv => simp at hv; subst hv; exact h2
  | 3, hv => simp at hv; subst hv; exact h3

theorem res_small7 (a : Nat → UInt8) : (resA a).1.1.length ≤ 400 ∧ (resA a).1.2.length ≤ 240 := by
  unfold resA
  split
  · rename_i q
    exact q
  · simp
def TwoS (r : Nat) (p K : Int) (w : World) (e : Ending) (w' : World) : Prop := ∃ h l h' l' : List UInt8, e = .returned (.tuple #[.agg #[.string (bs h), .string (bs l)], .agg #[.string (bs h'), .string (bs l')]]) ∧ SmL h l ∧ SmL h' l' ∧ Turned r p K w w'
theorem norm_small (h l : List UInt8) : SmL (normR h l).1.1 (normR h l).1.2 := by
  unfold normR
  split
  · have := res_small7 (atS h l)
    exact ⟨by omega, by omega⟩
  · exact ⟨by simp, by simp⟩

end Go.Proofs.YtbfjppliploloaaDoor
