/- The walk of the law on a term in place of a variable. -/
import Derived.Test.YtbjmnbpomgaioaaDraw8
import Derived.Test.YtbjmnbpomgaioaaLawS
import Derived.Test.YtbjmnbpomgaioaaImplA
import Derived.Test.YtbjmnbpomgaioaaImplE
import Derived.Test.YtbjmnbpomgaioaaSpecI
import Derived.Deep.CutRange
namespace Go.Proofs.Ytbjmnbpomgaioaa
open Go.RowKit

/-- A point in a box that is newer than W0; nothing of W0 has turned. -/
def PtAt (W0 : World) (x y z u : Int) (ok : Bool) (p q : Value) (W : World) : Prop :=
  ∃ t, p = .pointer (some ⟨t, 0, none⟩) ∧ q = .bool ok ∧ C4 W t x y z u ∧ (∀ o, W.frozen? ⟨t, o, none⟩ = false) ∧ W0.heap.size ≤ t ∧ Below W0.heap.size W0 W

theorem pt_new {W0 w : World} {x y z u : Int} {ty : TypeId} (hb : Below W0.heap.size W0 w) : C4 (w.alloc (.cells #[.int .i64 x, .int .i64 y, .int .i64 z, .int .i64 u] ty)) w.heap.size x y z u ∧ (∀ o, (w.alloc (.cells #[.int .i64 x, .int .i64 y, .int .i64 z, .int .i64 u] ty)).frozen? ⟨w.heap.size, o, none⟩ = false) ∧ W0.heap.size ≤ w.heap.size ∧ Below W0.heap.size W0 (w.alloc (.cells #[.int .i64 x, .int .i64 y, .int .i64 z, .int .i64 u] ty)) :=
  ⟨(by refine ⟨?_, ?_, ?_, ?_, ?_⟩ <;> first | (simp [go_sem]; done) | (simp; omega)), fun o => by simp [go_sem], hb.size, below_on hb (by go_grown)⟩

theorem pt_set {W0 Wc w : World} {z0 z1 z2 z3 x y z u : Int} {t : Nat} (hb0 : Below W0.heap.size W0 w) (hb : Below Wc.heap.size Wc w) (hbx : C4 Wc t z0 z1 z2 z3 ∧ ∀ o, Wc.frozen? ⟨t, o, none⟩ = false) (ht : W0.heap.size ≤ t) :
    C4 ((((w.setCell ⟨t, 0, none⟩ (.int .i64 x)).setCell ⟨t, 1, none⟩ (.int .i64 y)).setCell ⟨t, 2, none⟩ (.int .i64 z)).setCell ⟨t, 3, none⟩ (.int .i64 u)) t x y z u ∧ (∀ o, ((((w.setCell ⟨t, 0, none⟩ (.int .i64 x)).setCell ⟨t, 1, none⟩ (.int .i64 y)).setCell ⟨t, 2, none⟩ (.int .i64 z)).setCell ⟨t, 3, none⟩ (.int .i64 u)).frozen? ⟨t, o, none⟩ = false) ∧ W0.heap.size ≤ t ∧ Below W0.heap.size W0 ((((w.setCell ⟨t, 0, none⟩ (.int .i64 x)).setCell ⟨t, 1, none⟩ (.int .i64 y)).setCell ⟨t, 2, none⟩ (.int .i64 z)).setCell ⟨t, 3, none⟩ (.int .i64 u)) := by
  obtain ⟨h, hf⟩ := hbx
  obtain ⟨g0, g1, g2, g3, g4⟩ := c4_on h hb
  have f : ∀ o, w.frozen? ⟨t, o, none⟩ = false := fun o => ((bcell hb).2 t o h.1).trans (hf o)
  refine ⟨⟨by simpa [World.setCell] using g0, ?_, ?_, ?_, ?_⟩, fun o => by simp [go_sem, f], ht, (((hb0.setCell ht _).setCell ht _).setCell ht _).setCell ht _⟩ <;> simp [go_sem, *]

def Box4 (w : World) (t : Nat) : Prop := C4 w t 0 0 0 0 ∧ ∀ o, w.frozen? ⟨t, o, none⟩ = false
theorem new4 {w w' : World} {ty : TypeId} (hb : Below (w.alloc (.cells #[.int .i64 0, .int .i64 0, .int .i64 0, .int .i64 0] ty)).heap.size (w.alloc (.cells #[.int .i64 0, .int .i64 0, .int .i64 0, .int .i64 0] ty)) w') : Box4 w' w.heap.size :=
  ⟨c4_on (by refine ⟨?_, ?_, ?_, ?_, ?_⟩ <;> first | (simp [go_sem]; done) | (simp; omega)) hb, fun o => ((bcell hb).2 _ o (by simp)).trans (by simp [go_sem])⟩
theorem new4d {w w' : World} {ty : TypeId} (hb : Below (w.alloc (.cells #[.int .i64 0, .int .i64 0, .int .i64 0, .int .i64 0] ty)).drew.heap.size (w.alloc (.cells #[.int .i64 0, .int .i64 0, .int .i64 0, .int .i64 0] ty)).drew w') : Box4 w' w.heap.size :=
  ⟨c4_on (by refine ⟨?_, ?_, ?_, ?_, ?_⟩ <;> first | (simp [go_sem]; done) | (simp; omega)) hb, fun o => ((bcell hb).2 _ o (by simp)).trans (by simp [go_sem])⟩
theorem new4n {w w' : World} {k : Nat} {ty : TypeId} (hb : Below ((w.alloc (.cells #[.int .i64 0, .int .i64 0, .int .i64 0, .int .i64 0] ty)).drewN k).heap.size ((w.alloc (.cells #[.int .i64 0, .int .i64 0, .int .i64 0, .int .i64 0] ty)).drewN k) w') : Box4 w' w.heap.size :=
  ⟨c4_on (by refine ⟨?_, ?_, ?_, ?_, ?_⟩ <;> first | (simp [go_sem]; done) | (simp; omega)) hb, fun o => ((bcell hb).2 _ o (by simp)).trans (by simp [go_sem])⟩
theorem old4 {w w' : World} {t : Nat} (h : Box4 w t) (hb : Below w.heap.size w w') : Box4 w' t := ⟨c4_on h.1 hb, fun o => ((bcell hb).2 _ o h.1.1).trans (h.2 o)⟩
theorem old4d {w w' : World} {t : Nat} (h : Box4 w t) (hb : Below w.drew.heap.size w.drew w') : Box4 w' t := ⟨c4_on (W := w.drew) h.1 hb, fun o => ((bcell hb).2 _ o h.1.1).trans (h.2 o)⟩
theorem old4n {w w' : World} {t k : Nat} (h : Box4 w t) (hb : Below (w.drewN k).heap.size (w.drewN k) w') : Box4 w' t := ⟨c4_on (W := w.drewN k) h.1 hb, fun o => ((bcell hb).2 _ o h.1.1).trans (h.2 o)⟩

theorem pt_box {W0 w : World} {x y z u : Int} {t : Nat} (hb0 : Below W0.heap.size W0 w) (hbx : Box4 w t) (ht : W0.heap.size ≤ t) :
    C4 ((((w.setCell ⟨t, 0, none⟩ (.int .i64 x)).setCell ⟨t, 1, none⟩ (.int .i64 y)).setCell ⟨t, 2, none⟩ (.int .i64 z)).setCell ⟨t, 3, none⟩ (.int .i64 u)) t x y z u ∧ (∀ o, ((((w.setCell ⟨t, 0, none⟩ (.int .i64 x)).setCell ⟨t, 1, none⟩ (.int .i64 y)).setCell ⟨t, 2, none⟩ (.int .i64 z)).setCell ⟨t, 3, none⟩ (.int .i64 u)).frozen? ⟨t, o, none⟩ = false) ∧ W0.heap.size ≤ t ∧ Below W0.heap.size W0 ((((w.setCell ⟨t, 0, none⟩ (.int .i64 x)).setCell ⟨t, 1, none⟩ (.int .i64 y)).setCell ⟨t, 2, none⟩ (.int .i64 z)).setCell ⟨t, 3, none⟩ (.int .i64 u)) :=
  pt_set hb0 (Below.refl _ _) hbx ht

theorem keep54s {W w' : World} {q t : Nat} {a' b' c' d' n' x y z u : Int} (h2 : C5 W q a' b' c' d' n') (h4 : C4 W t x y z u) (hB : Below W.heap.size W w') :
    Below W.heap.size W w' ∧ (w'.cell? ⟨q, 0, none⟩ = some (.int .i64 a') ∧ w'.cell? ⟨q, 1, none⟩ = some (.int .i64 b') ∧ w'.cell? ⟨q, 2, none⟩ = some (.int .i64 c') ∧ w'.cell? ⟨q, 3, none⟩ = some (.int .i64 d') ∧ w'.cell? ⟨q, 4, none⟩ = some (.int .i64 n')) ∧ (w'.cell? ⟨t, 0, none⟩ = some (.int .i64 x) ∧ w'.cell? ⟨t, 1, none⟩ = some (.int .i64 y) ∧ w'.cell? ⟨t, 2, none⟩ = some (.int .i64 z) ∧ w'.cell? ⟨t, 3, none⟩ = some (.int .i64 u)) :=
  ⟨hB, (c5_on h2 hB).2, (c4_on h4 hB).2⟩
theorem keep5544 {W w' : World} {p q t s : Nat} {a b c d n a' b' c' d' n' x y z u x' y' z' u' : Int} (h1 : C5 W p a b c d n) (h2 : C5 W q a' b' c' d' n') (h4 : C4 W t x y z u) (h5 : C4 W s x' y' z' u') (hB : Below W.heap.size W w') :
    Below W.heap.size W w' ∧ (w'.cell? ⟨p, 0, none⟩ = some (.int .i64 a) ∧ w'.cell? ⟨p, 1, none⟩ = some (.int .i64 b) ∧ w'.cell? ⟨p, 2, none⟩ = some (.int .i64 c) ∧ w'.cell? ⟨p, 3, none⟩ = some (.int .i64 d) ∧ w'.cell? ⟨p, 4, none⟩ = some (.int .i64 n)) ∧ (w'.cell? ⟨q, 0, none⟩ = some (.int .i64 a') ∧ w'.cell? ⟨q, 1, none⟩ = some (.int .i64 b') ∧ w'.cell? ⟨q, 2, none⟩ = some (.int .i64 c') ∧ w'.cell? ⟨q, 3, none⟩ = some (.int .i64 d') ∧ w'.cell? ⟨q, 4, none⟩ = some (.int .i64 n')) ∧ (w'.cell? ⟨t, 0, none⟩ = some (.int .i64 x) ∧ w'.cell? ⟨t, 1, none⟩ = some (.int .i64 y) ∧ w'.cell? ⟨t, 2, none⟩ = some (.int .i64 z) ∧ w'.cell? ⟨t, 3, none⟩ = some (.int .i64 u)) ∧ (w'.cell? ⟨s, 0, none⟩ = some (.int .i64 x') ∧ w'.cell? ⟨s, 1, none⟩ = some (.int .i64 y') ∧ w'.cell? ⟨s, 2, none⟩ = some (.int .i64 z') ∧ w'.cell? ⟨s, 3, none⟩ = some (.int .i64 u')) :=
  ⟨hB, (c5_on h1 hB).2, (c5_on h2 hB).2, (c4_on h4 hB).2, (c4_on h5 hB).2⟩

theorem ev_subst (a b c d n v a' b' c' d' n' x y z u E : Int) (hv : 0 ≤ v ∧ v < 4) (hE : ev a' b' c' d' n' x y z u = E) :
    ev ((if v = 0 then 0 else a) + a' * sel a b c d v 0) ((if v = 1 then 0 else b) + b' * sel a b c d v 0) ((if v = 2 then 0 else c) + c' * sel a b c d v 0) ((if v = 3 then 0 else d) + d' * sel a b c d v 0) (n + n' * sel a b c d v 0) x y z u =
      ev a b c d n (if v = 0 then E else x) (if v = 1 then E else y) (if v = 2 then E else z) (if v = 3 then E else u) := by
  have e : ∀ K p q : Int, p * K * q = K * (p * q) := fun K p q => by rw [Int.mul_comm p K, Int.mul_assoc]
  have h' : v = 0 ∨ v = 1 ∨ v = 2 ∨ v = 3 := by omega
  subst hE
  rcases h' with rfl | rfl | rfl | rfl
  all_goals
    simp [sel, ev]
    simp only [Int.add_mul, Int.mul_add, e, Int.mul_comm n' _]
    omega

theorem subst_none {a b c d n v a' b' c' d' n' : Int} (hv : 0 ≤ v ∧ v < 4) (h : sel a b c d v 0 = 0) : (if v = 0 then 0 else a) + a' * sel a b c d v 0 = a ∧ (if v = 1 then 0 else b) + b' * sel a b c d v 0 = b ∧ (if v = 2 then 0 else c) + c' * sel a b c d v 0 = c ∧ (if v = 3 then 0 else d) + d' * sel a b c d v 0 = d ∧ n + n' * sel a b c d v 0 = n := by
  have h' : v = 0 ∨ v = 1 ∨ v = 2 ∨ v = 3 := by omega
  rcases h' with rfl | rfl | rfl | rfl
  all_goals
    simp [sel] at h
    subst h
    simp [sel]

end Go.Proofs.Ytbjmnbpomgaioaa
