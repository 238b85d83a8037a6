/- The laws' own functions over sets, with exact worlds; where a result lies. -/
import Derived.Test.YtpheihejgnlanaaDoorLawS
import Derived.Test.YtpheihejgnlanaaDoorSd7
namespace Go.Proofs.YtpheihejgnlanaaDoor
open Go.RowKit

set_option maxHeartbeats 1000000 in
theorem toSet_x (h l : List UInt8) (w : World) :
    Calls Tryd.prog 15 #[.agg #[.string (bs h), .string (bs l)]] w fun e w' => e = .returned (.agg #[.string (bs h), .string (bs l)]) ∧ ((w.alloc (.cells #[.string (bs h), .string (bs l)] 23)).alloc (.cells #[.string (bs h), .string (bs l)] 25)).alloc (.cells #[.string (bs h), .string (bs l)] 25) = w' := by
  go_enter Tryd.func15, Tryd.ntmps15
  go_wp2
  refine bodyPost_ret (v := .agg #[.string (bs h), .string (bs l)]) (by simp [results, Tryd.results15, go_sem]) rfl ⟨rfl, rfl⟩

/-- A result and where it lies. -/
def ResS (W0 : World) (r : (List UInt8 × List UInt8) × Bool) (p q : Value) (W : World) : Prop :=
  ∃ z, p = .pointer (some ⟨z, 0, none⟩) ∧ q = .bool r.2 ∧ w2cells W z (bs r.1.1) (bs r.1.2) ∧ Below W0.heap.size W0 W
theorem w2_new {w : World} {x y : ByteArray} {t : TypeId} : w2cells (w.alloc (.cells #[.string x, .string y] t)) w.heap.size x y := by
  refine ⟨?_, ?_, ?_⟩ <;> simp [go_sem]
theorem w2_set2 {Wc w : World} {z : Nat} {x y x' y' : ByteArray} (hb : Below Wc.heap.size Wc w) (h : w2cells Wc z x' y') :
    w2cells ((w.setCell ⟨z, 0, none⟩ (.string x)).setCell ⟨z, 1, none⟩ (.string y)) z x y := by
  obtain ⟨g, g0, g1⟩ := w2_on h hb
  refine ⟨by simpa [World.setCell] using g, ?_, ?_⟩ <;> simp [go_sem, *]
theorem w2_keep2 {W w' : World} {b c : Nat} {x y u v : ByteArray} (h : w2cells W b x y) (h2 : w2cells W c u v) (hb : Below W.heap.size W w') : Below W.heap.size W w' ∧ (w'.cell? ⟨b, 0, none⟩ = some (.string x) ∧ w'.cell? ⟨b, 1, none⟩ = some (.string y)) ∧ w'.cell? ⟨c, 0, none⟩ = some (.string u) ∧ w'.cell? ⟨c, 1, none⟩ = some (.string v) :=
  have h1 := w2_on h hb
  have h3 := w2_on h2 hb
  ⟨hb, ⟨h1.2.1, h1.2.2⟩, h3.2.1, h3.2.2⟩
theorem s2_w2 {W : World} {b : Nat} {x y : ByteArray} (h : S2 W b x y) : w2cells W b x y := ⟨h.1, h.2.1, h.2.2.1⟩
end Go.Proofs.YtpheihejgnlanaaDoor
