/- Several texts in one: AtN AtF AtO AtP. -/
import Derived.Test.YtmkflokcficmoaaDoorAtM
import Derived.Test.YtmkflokcficmoaaDoorAtC
import Derived.Test.YtmkflokcficmoaaDoorSpecD
import Derived.Test.YtmkflokcficmoaaDoorFormG
import Derived.Test.YtmkflokcficmoaaDoorOwn2
import Derived.Deep.RegionHeld3
import Derived.Deep.RegionWith
import Derived.Laws.AppendOwn

/- Contracts of the model's l2All, l2Negate and NegateAtom. -/
namespace Go.Proofs.YtmkflokcficmoaaDoor
open Go.RowKit

def avD (x : AtD) : Bool := avB x.k x.m x.a x.b x.c x.d x.n
/-- The atoms of which one is true where an atom is false. -/
def ngL (k m a b c d n : Int) : List AtD :=
  if k = 0 then [mostD (-a) (-b) (-c) (-d) (-n + 1)] else if k = 1 then [mostD a b c d (n + 1), mostD (-a) (-b) (-c) (-d) (-n + 1)] else if k = 2 then [⟨3, m, a, b, c, d, n⟩] else [⟨2, m, a, b, c, d, n⟩]
def ngOk (k m a b c d n : Int) : Bool := avB k m a b c d n && (ngL k m a b c d n).all avD

theorem ownA_lit2 (w : World) (o : Obj) (cs : Array Value) (L : List AtD) (hl : L.length ≤ 1000) (hcs : cs.toList = AL L) : OwnA ((w.alloc o).alloc (.cells cs 28)) w.heap.size (.slice (some ⟨w.heap.size + 1, 0, none⟩) L.length L.length) L := by
  have h := ownA_lit (w := w.alloc o) (B := w.heap.size) cs L (by simp) hl hcs
  have e : (w.alloc o).heap.size = w.heap.size + 1 := by simp
  rwa [e] at h

/-- A new list of atoms. -/
def AtvT (L : List AtD) (w : World) (e : Ending) (w' : World) : Prop := ∃ v, e = .returned v ∧ OwnA w' w.heap.size v L ∧ Below w.heap.size w w'

/-- The same list, if all its atoms are valid. -/
def AllT (v : Value) (L : List AtD) (w : World) (e : Ending) (w' : World) : Prop :=
  Below w.heap.size w w' ∧ ((L.all avD = true ∧ e = .returned (.tuple #[v, .bool true])) ∨ (L.all avD = false ∧ ∃ u, e = .returned (.tuple #[u, .bool false]) ∧ OwnA w' w.heap.size u []))

def AllR (L : List AtD) (w : World) (ok i : Value) (wr : World) : Prop := ∃ k : Nat, i = .int .i64 k ∧ k ≤ L.length ∧ ok = .bool ((L.take k).all avD) ∧ Below w.heap.size w wr

theorem ngL_len (k m a b c d n : Int) : (ngL k m a b c d n).length ≤ 2 := by
  unfold ngL
  repeat' split
  all_goals simp

end Go.Proofs.YtmkflokcficmoaaDoor

/- Contracts of withSum and ScaleAtom of the program, and of l2One and ScaleAtom of the model; the walk of the law that says that ScaleAtom answers as its model does. -/
namespace Go.Proofs.YtmkflokcficmoaaDoor
open Go.RowKit

end Go.Proofs.YtmkflokcficmoaaDoor

/- Contracts of the program's atMost, SplitZero and NegateAtom. -/
namespace Go.Proofs.YtmkflokcficmoaaDoor
open Go.RowKit

/-- A new list of multiples. -/
def MulT (a b c d n : Int) (w : World) (e : Ending) (w' : World) : Prop := ∃ bl, e = .returned (.slice (some ⟨bl, 0, none⟩) 5 5) ∧ C5 w' bl a b c d n ∧ Below w.heap.size w w' ∧ w.heap.size ≤ bl

theorem multiples_new (a b c d n : Int) (w : World) : Calls Tryd.prog 31 #[.agg #[.int .i64 a, .int .i64 b, .int .i64 c, .int .i64 d, .int .i64 n]] w (MulT a b c d n w) :=
  (multiples_any a b c d n w).mono fun e w' ⟨he, hw⟩ => ⟨_, he, by subst hw; exact (by refine ⟨?_, ?_, ?_, ?_, ?_, ?_⟩ <;> first | (simp [go_sem]; done) | (simp; omega)), by subst hw; go_grown, by omega⟩
theorem times_new (a b c d n k A B C D M : Int) (bl : Nat) (w : World) (hl : C5 w bl a b c d n) (hA : a * k = A) (hB : b * k = B) (hC : c * k = C) (hD : d * k = D) (hM : n * k = M)
    (hs : (-100000000 ≤ A ∧ A ≤ 100000000) ∧ (-100000000 ≤ B ∧ B ≤ 100000000) ∧ (-100000000 ≤ C ∧ C ≤ 100000000) ∧ (-100000000 ≤ D ∧ D ≤ 100000000) ∧ (-100000000 ≤ M ∧ M ≤ 100000000)) :
    Calls Tryd.prog 34 #[.slice (some ⟨bl, 0, none⟩) 5 5, .int .i64 k] w (MulT A B C D M w) := by
  subst hA hB hC hD hM
  exact (times_of a b c d n k bl w hl hs).mono fun e w' ⟨he, hw⟩ => ⟨_, he, by subst hw; exact (by refine ⟨?_, ?_, ?_, ?_, ?_, ?_⟩ <;> first | (simp [go_sem]; done) | (simp; omega)), by subst hw; go_grown, by omega⟩
/-- A list of sums reads as the terms of the atoms L. -/
def SumsAt (w : World) (v : Value) (L : List AtD) : Prop :=
  ∃ g cap, v = .slice (some ⟨g, 0, none⟩) L.length cap ∧ g < w.heap.size ∧ L.length ≤ 1000 ∧ (∀ x ∈ L, x.k = 0 ∧ x.m = 0) ∧ ∀ i x, L[i]? = some x → ∃ bl, w.cell? ⟨g, i, none⟩ = some (.slice (some ⟨bl, 0, none⟩) 5 5) ∧ C5 w bl x.a x.b x.c x.d x.n

theorem Tryd.infoAtom : (Tryd.prog.info? 28).map (fun i => (i.zero, i.size, i.bytes)) = some (some (.agg #[.int .i64 0, .int .i64 0, .int .i64 0, .int .i64 0, .int .i64 0, .int .i64 0, .int .i64 0]), 7, 56) := by kernel_rfl
theorem Tryd.infoMul : (Tryd.prog.info? 56).map (fun i => (i.zero, i.size, i.bytes)) = some (some (.slice none 0 0), 1, 24) := by kernel_rfl

theorem acells_one (x : AtD) : ∀ u ∈ acells x, u.oneCell' = true := by
  intro u hu
  simp only [acells, List.mem_cons, List.not_mem_nil, or_false] at hu
  rcases hu with rfl | rfl | rfl | rfl | rfl | rfl | rfl <;> rfl
theorem grown_below2 {w W W' : World} {v : Value} {B e size n : Nat} {xs : List Value} (hb : Below w.heap.size w W) (hown : W.ownsRow B e size v n xs) (hB : w.heap.size ≤ B) (hg : W.grownBy W' v.ownBlock) : Below w.heap.size w W' :=
  ⟨hg.os.trans hb.os, hg.tape.trans hb.tape, hg.output.trans hb.output, Nat.le_trans hb.size hg.size, fun i hi =>
    (hg.block i (Nat.lt_of_lt_of_le hi hb.size) (fun e => by have := hown.lt i e.symm; omega)).trans (hb.block i hi)⟩

def AmR (L : List AtD) (w : World) (v i : Value) (wr : World) : Prop := ∃ k : Nat, i = .int .i64 k ∧ k ≤ L.length ∧ (L.take k).all avD = true ∧ OwnA wr w.heap.size v (L.take k) ∧ Below w.heap.size w wr

theorem atom_news {w : World} (x : AtD) : ∀ j u, (acells x)[j]? = some u → (w.alloc (.cells (acells x).toArray 28)).cell? ((⟨w.heap.size, 0, none⟩ : Addr).add j) = some u := by
  intro j u hj
  match j, hj with
  | 0, hj => simp [acells] at hj; subst hj; simp [Addr.add, acells]
  | 1, hj => simp [acells] at hj; subst hj; simp [Addr.add, acells]
  | 2, hj => simp [acells] at hj; subst hj; simp [Addr.add, acells]
  | 3, hj => simp [acells] at hj; subst hj; simp [Addr.add, acells]
  | 4, hj => simp [acells] at hj; subst hj; simp [Addr.add, acells]
  | 5, hj => simp [acells] at hj; subst hj; simp [Addr.add, acells]
  | 6, hj => simp [acells] at hj; subst hj; simp [Addr.add, acells]
  | j + 7, hj => simp [acells] at hj

theorem sums_of {w : World} {g cap : Nat} (L : List AtD) (hg : g < w.heap.size) (hL : L.length ≤ 1000) (hz : ∀ x ∈ L, x.k = 0 ∧ x.m = 0) (h : ∀ i x, L[i]? = some x → ∃ bl, w.cell? ⟨g, i, none⟩ = some (.slice (some ⟨bl, 0, none⟩) 5 5) ∧ C5 w bl x.a x.b x.c x.d x.n) : SumsAt w (.slice (some ⟨g, 0, none⟩) L.length cap) L :=
  ⟨g, cap, rfl, hg, hL, hz, h⟩
theorem sums_one {w : World} {g cap bl : Nat} {a b c d n : Int} (hg : g < w.heap.size) (hc : w.cell? ⟨g, 0, none⟩ = some (.slice (some ⟨bl, 0, none⟩) 5 5)) (h5 : C5 w bl a b c d n) : SumsAt w (.slice (some ⟨g, 0, none⟩) 1 cap) [mostD a b c d n] :=
  sums_of [mostD a b c d n] hg (by simp) (by intro x hx; simp at hx; subst hx; exact ⟨rfl, rfl⟩) (by
    intro i x hx
    match i, hx with
    | 0, hx => simp at hx; subst hx; exact ⟨bl, hc, h5⟩
    | i + 1, hx => simp at hx)
theorem sums_two {w : World} {g cap bl bm : Nat} {a b c d n a' b' c' d' n' : Int} (hg : g < w.heap.size) (hc : w.cell? ⟨g, 0, none⟩ = some (.slice (some ⟨bl, 0, none⟩) 5 5)) (h5 : C5 w bl a b c d n) (hc' : w.cell? ⟨g, 1, none⟩ = some (.slice (some ⟨bm, 0, none⟩) 5 5)) (h5' : C5 w bm a' b' c' d' n') : SumsAt w (.slice (some ⟨g, 0, none⟩) 2 cap) [mostD a b c d n, mostD a' b' c' d' n'] :=
  sums_of [mostD a b c d n, mostD a' b' c' d' n'] hg (by simp) (by intro x hx; simp at hx; rcases hx with rfl | rfl <;> exact ⟨rfl, rfl⟩) (by
    intro i x hx
    match i, hx with
    | 0, hx => simp at hx; subst hx; exact ⟨bl, hc, h5⟩
    | 1, hx => simp at hx; subst hx; exact ⟨bm, hc', h5'⟩
    | i + 2, hx => simp at hx)

theorem szL_ok {a b c d n : Int} (h : tvB a b c d n = true) : (szL a b c d n).all avD = true := by
  obtain ⟨⟨a0, a1⟩, ⟨b0, b1⟩, ⟨c0, c1⟩, ⟨d0, d1⟩, n0, n1⟩ := tv_bd h
  have e : ∀ a b c d n : Int, avD (mostD a b c d n) = tvB a b c d n := fun a b c d n => avB_most a b c d n
  simp only [szL, List.all_cons, List.all_nil, Bool.and_true, e, Bool.and_eq_true]
  refine ⟨h, ?_⟩
  simp only [tvB, wlB, Bool.and_eq_true, decide_eq_true_eq]
  omega

end Go.Proofs.YtmkflokcficmoaaDoor

/- The contract of the program's NegateAtom. -/
namespace Go.Proofs.YtmkflokcficmoaaDoor
open Go.RowKit

theorem c5_gr {W W' : World} {x : Nat} {a b c d n : Int} {r : Option Nat} (h : C5 W x a b c d n) (hg : W.grownBy W' r) (hne : some x ≠ r) : C5 W' x a b c d n := by
  have f : ∀ o, W'.cell? ⟨x, o, none⟩ = W.cell? ⟨x, o, none⟩ := fun o => World.cell?_of_block (hg.block x h.1 hne)
  exact ⟨Nat.lt_of_lt_of_le h.1 hg.size, (f 0).trans h.2.1, (f 1).trans h.2.2.1, (f 2).trans h.2.2.2.1, (f 3).trans h.2.2.2.2.1, (f 4).trans h.2.2.2.2.2⟩

theorem one_news {e : TypeId} (w : World) (x : Value) : ∀ j u, [x][j]? = some u → (w.alloc (.cells #[x] e)).cell? ((⟨w.heap.size, 0, none⟩ : Addr).add j) = some u := by
  intro j u hj
  match j, hj with
  | 0, hj => simp at hj; subst hj; simp [Addr.add]

end Go.Proofs.YtmkflokcficmoaaDoor
