/- What the model draws for the laws on two terms, and on a term and variables. -/
import Derived.Test.YtcgolbkpfncgpaaDraw6
import Derived.Deep.RegionWith
namespace Go.Proofs.Ytcgolbkpfncgpaa
open Go.RowKit

theorem rd_drew {w : World} {r : Nat} {p : Int} (h : Rd w r p) : Rd w.drew r p := h
theorem rd_drewN {w : World} {r k : Nat} {p : Int} (h : Rd w r p) : Rd (w.drewN k) r p := h
theorem turned_drew {w w' : World} {r : Nat} {p K : Int} (h : Turned r p K w.drew w') : Turned r p K w w' := ⟨⟨h.1.os, h.1.tape, h.1.output, h.1.size, h.1.block⟩, h.2⟩
theorem turned_drewN {w w' : World} {r k : Nat} {p K : Int} (h : Turned r p K (w.drewN k) w') : Turned r p K w w' := ⟨⟨h.1.os, h.1.tape, h.1.output, h.1.size, h.1.block⟩, h.2⟩
theorem below_drewN {w w' : World} {B k : Nat} (h : Below B w w') : Below B w (w'.drewN k) := ⟨h.os, h.tape, h.output, h.size, h.block⟩
theorem below_drew {w w' : World} {B : Nat} (h : Below B w w') : Below B w w'.drew := ⟨h.os, h.tape, h.output, h.size, h.block⟩

def TwoTerms (w : World) (e : Ending) (w' : World) : Prop := ∃ a b c d n a' b' c' d' n' : Int, e = .returned (.tuple #[.agg #[.int .i64 a, .int .i64 b, .int .i64 c, .int .i64 d, .int .i64 n], .agg #[.int .i64 a', .int .i64 b', .int .i64 c', .int .i64 d', .int .i64 n']]) ∧ Below w.heap.size w w'
def TermVarTerm (w : World) (e : Ending) (w' : World) : Prop := ∃ a b c d n v a' b' c' d' n' : Int, e = .returned (.tuple #[.agg #[.int .i64 a, .int .i64 b, .int .i64 c, .int .i64 d, .int .i64 n], .int .i64 v, .agg #[.int .i64 a', .int .i64 b', .int .i64 c', .int .i64 d', .int .i64 n']]) ∧ Below w.heap.size w w'
def TermTwoVars (w : World) (e : Ending) (w' : World) : Prop := ∃ a b c d n v u : Int, e = .returned (.tuple #[.agg #[.int .i64 a, .int .i64 b, .int .i64 c, .int .i64 d, .int .i64 n], .int .i64 v, .int .i64 u]) ∧ Below w.heap.size w w'
def TermInt (w : World) (e : Ending) (w' : World) : Prop := ∃ a b c d n v : Int, e = .returned (.tuple #[.agg #[.int .i64 a, .int .i64 b, .int .i64 c, .int .i64 d, .int .i64 n], .int .i64 v]) ∧ Below w.heap.size w w'

set_option maxHeartbeats 1000000 in
theorem DrawSubstTerm_t (sp : Option Addr) (n cap : Nat) (w : World) (h : Code w sp n cap) :
    Calls Try.prog 11 #[.slice sp n cap] w (TermVarTerm w) := by
  have H := Lib.hid h
  clear h
  go_enter Try.func11, Try.ntmps11
  go_wp2_with fail
  generalize hW : (w.alloc (.cells #[.int .i64 0, .int .i64 0, .int .i64 0, .int .i64 0, .int .i64 0] 24)).alloc (.cells #[.int .i64 0, .int .i64 0, .int .i64 0, .int .i64 0, .int .i64 0] 24) = W
  have hz : C5 W w.heap.size 0 0 0 0 0 := by subst hW; exact (by refine ⟨?_, ?_, ?_, ?_, ?_, ?_⟩ <;> first | (simp [go_sem]; done) | (simp; omega))
  have hy : C5 W (w.heap.size + 1) 0 0 0 0 0 := by subst hW; exact (by refine ⟨?_, ?_, ?_, ?_, ?_, ?_⟩ <;> first | (simp [go_sem]; done) | (simp; omega))
  have fz : Hid (∀ o, W.frozen? ⟨w.heap.size, o, none⟩ = false) := by intro o; subst hW; simp [go_sem]
  have fy : Hid (∀ o, W.frozen? ⟨w.heap.size + 1, o, none⟩ = false) := by intro o; subst hW; simp [go_sem]
  have hb0 : Below w.heap.size w W := by subst hW; go_grown
  have hsz : w.heap.size + 1 + 1 = W.heap.size := by subst hW; simp
  clear hW
  refine (l17Open_t sp n cap W (code_on H.out hb0)).mono ?_
  rintro e w1 ⟨r, rfl, hr, hR, hb1⟩
  have HR := Lib.hid hR
  clear hR
  go_wp2_with fail
  refine (l1Open_t r 0 w1 HR.out (by omega)).mono ?_
  rintro e w2 ⟨a, b, c, d, m, rfl, ht⟩
  obtain ⟨hg, q, q0, q1, hR2⟩ := ht
  have HR2 := Lib.hid hR2
  have hb2 : Below W.heap.size W w2 := hb1.trans (below_only hg hb1.size hr)
  have hs2 := hb2.size
  have hrl := rd_lt hR2
  clear hg hR2
  go_wp2_with fail
  generalize hW3 : w2.alloc (.cells #[.int .i64 a, .int .i64 b, .int .i64 c, .int .i64 d, .int .i64 m] 24) = W3
  have hx : C5 W3 w2.heap.size a b c d m := by subst hW3; exact (by refine ⟨?_, ?_, ?_, ?_, ?_, ?_⟩ <;> first | (simp [go_sem]; done) | (simp; omega))
  have hb23 : Below w2.heap.size w2 W3 := by subst hW3; go_grown
  have hs23 : w2.heap.size < W3.heap.size := by subst hW3; simp
  clear hW3
  have HR3 := Lib.hid (rd_on HR2.out hb23)
  have hb3 := below_on hb2 hb23
  refine (l1Which_t r q W3 HR3.out (by omega)).mono ?_
  rintro e W5 ⟨v, rfl, ht⟩
  have hx := c5_only hx ht.1 (by omega)
  have hb3 : Below W.heap.size W W5 := hb3.trans (below_only ht.1 (by omega) hr)
  have hs23 : w2.heap.size < W5.heap.size := Nat.lt_of_lt_of_le hs23 ht.1.size
  obtain ⟨_, q', q2, q3, hR3⟩ := ht
  have HR3 := Lib.hid hR3
  clear hR3
  go_wp2_with fail
  have hz3 := c5_on hz hb3
  have hy3 := c5_on hy hb3
  have fz3 : Hid (∀ o, W5.frozen? ⟨w.heap.size, o, none⟩ = false) := fz_on hz fz hb3
  have fy3 : Hid (∀ o, W5.frozen? ⟨w.heap.size + 1, o, none⟩ = false) := fz_on hy fy hb3
  obtain ⟨x0, x1, x2, x3, x4, x5⟩ := id hx
  go_region_with (go_at_call 51; refine (l1Open_t r q' _ (by first | exact HR3.out | exact rd_drew HR3.out | exact rd_drewN HR3.out) (by omega)).mono ?_; rintro e w4 ⟨a', b', c', d', m', rfl, ht4⟩; have ht4 : Turned r q' 10 W5 w4 := (by first | exact ht4 | exact turned_drew ht4 | exact turned_drewN ht4); obtain ⟨x0, x1, x2, x3, x4, x5⟩ := c5_only hx ht4.1 (by omega); obtain ⟨z0, z1, z2, z3, z4, z5⟩ := c5_only hz3 ht4.1 (by omega); obtain ⟨y0, y1, y2, y3, y4, y5⟩ := c5_only hy3 ht4.1 (by omega); have fz4 := (fz_only fz3 ht4.1 hz3.1 (by omega)).out; have fy4 := (fz_only fy3 ht4.1 hy3.1 (by omega)).out; have hb4 := Lib.hid (hb3.trans (below_only ht4.1 (by omega) hr)); clear ht4)
  all_goals
    go_wp2
    refine bodyPost_ret (v := .tuple #[.agg #[.int .i64 a, .int .i64 b, .int .i64 c, .int .i64 d, .int .i64 m], .int .i64 v, .agg #[.int .i64 a', .int .i64 b', .int .i64 c', .int .i64 d', .int .i64 m']]) (by simp [results, Try.results11, go_sem, z1, z2, z3, z4, z5, y1, y2, y3, y4, y5]) rfl ⟨a, b, c, d, m, v, a', b', c', d', m', rfl, ?_⟩
    have hbb := below_on hb0 hb4.out
    go_grown

end Go.Proofs.Ytcgolbkpfncgpaa
