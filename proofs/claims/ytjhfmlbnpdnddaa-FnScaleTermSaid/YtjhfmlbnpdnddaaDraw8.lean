/- What the model draws for the laws on two terms, and on a term and variables. -/
import Derived.Test.YtjhfmlbnpdnddaaDraw6
import Derived.Deep.RegionWith
namespace Go.Proofs.Ytjhfmlbnpdnddaa
open Go.RowKit

theorem rd_drew {w : World} {r : Nat} {p : Int} (h : Rd w r p) : Rd w.drew r p := h
theorem rd_drewN {w : World} {r k : Nat} {p : Int} (h : Rd w r p) : Rd (w.drewN k) r p := h
theorem turned_drew {w w' : World} {r : Nat} {p K : Int} (h : Turned r p K w.drew w') : Turned r p K w w' := ⟨⟨h.1.os, h.1.tape, h.1.output, h.1.size, h.1.block⟩, h.2⟩
theorem turned_drewN {w w' : World} {r k : Nat} {p K : Int} (h : Turned r p K (w.drewN k) w') : Turned r p K w w' := ⟨⟨h.1.os, h.1.tape, h.1.output, h.1.size, h.1.block⟩, h.2⟩
theorem below_drewN {w w' : World} {B k : Nat} (h : Below B w w') : Below B w (w'.drewN k) := ⟨h.os, h.tape, h.output, h.size, h.block⟩
theorem below_drew {w w' : World} {B : Nat} (h : Below B w w') : Below B w w'.drew := ⟨h.os, h.tape, h.output, h.size, h.block⟩

def TwoTerms (w : World) (e : Ending) (w' : World) : Prop := ∃ a b c d n a' b' c' d' n' : Int, e = .returned (.tuple #[.agg #[.int .i64 a, .int .i64 b, .int .i64 c, .int .i64 d, .int .i64 n], .agg #[.int .i64 a', .int .i64 b', .int .i64 c', .int .i64 d', .int .i64 n']]) ∧ Below w.heap.size w w'
def TermVarTerm (w : World) (e : Ending) (w' : World) : Prop := ∃ a b c d n v a' b' c' d' n' : Int, e = .returned (.tuple #[.agg #[.int .i64 a, .int .i64 b, .int .i64 c, .int .i64 d, .int .i64 n], .int .i64 v, .agg #[.int .i64 a', .int .i64 b', .int .i64 c', .int .i64 d', .int .i64 n']]) ∧ Below w.heap.size w w'
def TermTwoVars (w : World) (e : Ending) (w' : World) : Prop := ∃ a b c d n v u : Int, e = .returned (.tuple #[.agg #[.int .i64 a, .int .i64 b, .int .i64 c, .int .i64 d, .int .i64 n], .int .i64 v, .int .i64 u]) ∧ Below w.heap.size w w'
def TermInt (w : World) (e : Ending) (w' : World) : Prop := ∃ a b c d n v : Int, e = .returned (.tuple #[.agg #[.int .i64 a, .int .i64 b, .int .i64 c, .int .i64 d, .int .i64 n], .int .i64 v]) ∧ Below w.heap.size w w'

end Go.Proofs.Ytjhfmlbnpdnddaa
