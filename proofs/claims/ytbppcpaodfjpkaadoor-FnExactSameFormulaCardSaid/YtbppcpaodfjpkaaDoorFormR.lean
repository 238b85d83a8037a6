/- The atoms of a formula: contracts of the model's l3Atoms and AtomsOf. -/
import Derived.Test.YtbppcpaodfjpkaaDoorFormI
import Derived.Test.YtbppcpaodfjpkaaDoorAtM
import Derived.Laws.AppendOwn
namespace Go.Proofs.YtbppcpaodfjpkaaDoor
open Go.RowKit

def atD (h : FH) : AtD := ⟨h.ak, h.am, h.a, h.b, h.c, h.d, h.n⟩
/-- The atoms of the formulas of a list. -/
def Fo.ats : Fo → List AtD
  | .nil => []
  | .cons h s r => (if h.k = 2 then [atD h] else s.ats) ++ r.ats
def atF (h : FH) (f : Fo) : List AtD := if h.k = 2 then [atD h] else f.ats
theorem ats_len (f : Fo) : f.ats.length ≤ f.size := by
  induction f with
  | nil => exact Nat.le_refl _
  | cons h s r ih1 ih2 =>
    simp only [Fo.ats, Fo.size, List.length_append]
    split
    · simp only [List.length_cons, List.length_nil]; omega
    · omega
theorem atF_len (h : FH) (f : Fo) : (atF h f).length ≤ f.size + 1 := by
  unfold atF
  have := ats_len f
  split
  · simp only [List.length_cons, List.length_nil]; omega
  · omega

theorem al_ints (L : List AtD) : ∀ u ∈ AL L, u.oneCell' = true := by
  induction L with
  | nil => intro u hu; simp [AL] at hu
  | cons x r ih =>
    intro u hu
    simp only [AL, List.mem_append] at hu
    rcases hu with hu | hu
    · simp only [acells, List.mem_cons, List.not_mem_nil, or_false] at hu
      rcases hu with rfl | rfl | rfl | rfl | rfl | rfl | rfl <;> rfl
    · exact ih u hu

/-- A new list of atoms that is not nil. -/
def AtnT (L : List AtD) (w : World) (e : Ending) (w' : World) : Prop := ∃ g cap, e = .returned (.slice (some ⟨g, 0, none⟩) L.length cap) ∧ OwnA w' w.heap.size (.slice (some ⟨g, 0, none⟩) L.length cap) L ∧ Below w.heap.size w w'

theorem own_some {w : World} {B e size n : Nat} {v : Value} {xs : List Value} (h : w.ownsRow B e size v n xs) (hv : ¬ v = .slice none 0 0) : ∃ g cap, v = .slice (some ⟨g, 0, none⟩) n cap := by
  rcases h.2 with ⟨e, _⟩ | ⟨g, cap, _, e, _⟩
  · exact absurd e hv
  · exact ⟨g, cap, e⟩

theorem grown_below3 {w W W' : World} {v : Value} {B e size n : Nat} {xs : List Value} (hb : Below w.heap.size w W) (hown : W.ownsRow B e size v n xs) (hB : w.heap.size ≤ B) (hg : W.grownBy W' v.ownBlock) : Below w.heap.size w W' :=
  ⟨hg.os.trans hb.os, hg.tape.trans hb.tape, hg.output.trans hb.output, Nat.le_trans hb.size hg.size, fun i hi =>
    (hg.block i (Nat.lt_of_lt_of_le hi hb.size) (fun e => by have := hown.lt i e.symm; omega)).trans (hb.block i hi)⟩
theorem grown_lt3 {W W' : World} {B e size n : Nat} {v : Value} {xs : List Value} (hown : W.ownsRow B e size v n xs) (hg : W.grownBy W' v.ownBlock) {k : Nat} (hk : k < W.heap.size) (hkB : k < B) : W'.heap[k]? = W.heap[k]? :=
  hg.block k hk (fun e => by have := hown.lt k e.symm; omega)

theorem Tryd.infoAtom3 : (Tryd.prog.info? 33).map (fun i => (i.zero, i.size, i.bytes)) = some (some (.agg #[.int .i64 0, .int .i64 0, .int .i64 0, .int .i64 0, .int .i64 0, .int .i64 0, .int .i64 0]), 7, 56) := by kernel_rfl

theorem atom_news3 {w : World} (x : AtD) : ∀ j u, (acells x)[j]? = some u → (w.alloc (.cells (acells x).toArray 33)).cell? ((⟨w.heap.size, 0, none⟩ : Addr).add j) = some u := by
  intro j u hj
  match j, hj with
  | 0, hj => simp [acells] at hj; subst hj; simp [Addr.add, acells]
  | 1, hj => simp [acells] at hj; subst hj; simp [Addr.add, acells]
  | 2, hj => simp [acells] at hj; subst hj; simp [Addr.add, acells]
  | 3, hj => simp [acells] at hj; subst hj; simp [Addr.add, acells]
  | 4, hj => simp [acells] at hj; subst hj; simp [Addr.add, acells]
  | 5, hj => simp [acells] at hj; subst hj; simp [Addr.add, acells]
  | 6, hj => simp [acells] at hj; subst hj; simp [Addr.add, acells]
  | j + 7, hj => simp [acells] at hj

def L3R (h : FH) (f : Fo) (b o lo : Nat) (w : World) (s out i : Value) (wr : World) : Prop :=
  ∃ (k g cap : Nat) (r : Fo) (done : List AtD), i = .int .i64 k ∧ out = .slice (some ⟨g, 0, none⟩) done.length cap ∧ k + r.len = f.len ∧ r.size ≤ f.size ∧ done ++ r.ats = f.ats ∧ OwnA wr (w.heap.size + 1) (.slice (some ⟨g, 0, none⟩) done.length cap) done ∧ FEl w lo r b (o + k * 10) ∧ Below w.heap.size w wr ∧ C10 wr w.heap.size h s

end Go.Proofs.YtbppcpaodfjpkaaDoor
