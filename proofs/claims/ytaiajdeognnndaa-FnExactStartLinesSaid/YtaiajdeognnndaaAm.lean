/- Several texts in one: AtN AtF AtO AtP. -/
import Derived.Test.YtaiajdeognnndaaAtM
import Derived.Test.YtaiajdeognnndaaAtC
import Derived.Test.YtaiajdeognnndaaSpecD
import Derived.Test.YtaiajdeognnndaaFormG
import Derived.Test.YtaiajdeognnndaaOwn2
import Derived.Deep.RegionHeld3
import Derived.Deep.RegionWith
import Derived.Laws.AppendOwn

/- Contracts of the model's l2All, l2Negate and NegateAtom. -/
namespace Go.Proofs.Ytaiajdeognnndaa
open Go.RowKit

def avD (x : AtD) : Bool := avB x.k x.m x.a x.b x.c x.d x.n
/-- The atoms of which one is true where an atom is false. -/
def ngL (k m a b c d n : Int) : List AtD :=
  if k = 0 then [mostD (-a) (-b) (-c) (-d) (-n + 1)] else if k = 1 then [mostD a b c d (n + 1), mostD (-a) (-b) (-c) (-d) (-n + 1)] else if k = 2 then [⟨3, m, a, b, c, d, n⟩] else [⟨2, m, a, b, c, d, n⟩]
def ngOk (k m a b c d n : Int) : Bool := avB k m a b c d n && (ngL k m a b c d n).all avD

theorem ownA_lit2 (w : World) (o : Obj) (cs : Array Value) (L : List AtD) (hl : L.length ≤ 1000) (hcs : cs.toList = AL L) : OwnA ((w.alloc o).alloc (.cells cs 49)) w.heap.size (.slice (some ⟨w.heap.size + 1, 0, none⟩) L.length L.length) L := by
  have h := ownA_lit (w := w.alloc o) (B := w.heap.size) cs L (by simp) hl hcs
  have e : (w.alloc o).heap.size = w.heap.size + 1 := by simp
  rwa [e] at h

/-- A new list of atoms. -/
def AtvT (L : List AtD) (w : World) (e : Ending) (w' : World) : Prop := ∃ v, e = .returned v ∧ OwnA w' w.heap.size v L ∧ Below w.heap.size w w'

/-- The same list, if all its atoms are valid. -/
def AllT (v : Value) (L : List AtD) (w : World) (e : Ending) (w' : World) : Prop :=
  Below w.heap.size w w' ∧ ((L.all avD = true ∧ e = .returned (.tuple #[v, .bool true])) ∨ (L.all avD = false ∧ ∃ u, e = .returned (.tuple #[u, .bool false]) ∧ OwnA w' w.heap.size u []))

def AllR (L : List AtD) (w : World) (ok i : Value) (wr : World) : Prop := ∃ k : Nat, i = .int .i64 k ∧ k ≤ L.length ∧ ok = .bool ((L.take k).all avD) ∧ Below w.heap.size w wr

theorem ngL_len (k m a b c d n : Int) : (ngL k m a b c d n).length ≤ 2 := by
  unfold ngL
  repeat' split
  all_goals simp

end Go.Proofs.Ytaiajdeognnndaa

/- Contracts of withSum and ScaleAtom of the program, and of l2One and ScaleAtom of the model; the walk of the law that says that ScaleAtom answers as its model does. -/
namespace Go.Proofs.Ytaiajdeognnndaa
open Go.RowKit

set_option maxHeartbeats 1000000 in
theorem withSum_yes (k m a' b' c' d' n' a b c d n : Int) (bl : Nat) (w : World) (hl : C5 w bl a b c d n) (h : avB k m a b c d n = true) :
    Calls Try.prog 61 #[.agg #[.int .i64 k, .int .i64 m, .int .i64 a', .int .i64 b', .int .i64 c', .int .i64 d', .int .i64 n'], .slice (some ⟨bl, 0, none⟩) 5 5] w fun e w' => e = .returned (.tuple #[.agg #[.int .i64 k, .int .i64 m, .int .i64 a, .int .i64 b, .int .i64 c, .int .i64 d, .int .i64 n], .bool true]) ∧ Below w.heap.size w w' := by
  have htv := (avB_cases h).2
  have HT := Lib.hid htv
  have HA := Lib.hid h
  have HL := Lib.hid hl
  clear htv h
  go_enter Try.func61, Try.ntmps61
  go_wp2_with fail
  generalize hW : (w.alloc (.cells #[.int .i64 k, .int .i64 m, .int .i64 a', .int .i64 b', .int .i64 c', .int .i64 d', .int .i64 n'] 49)).alloc (.cells #[.int .i64 0, .int .i64 0, .int .i64 0, .int .i64 0, .int .i64 0, .int .i64 0, .int .i64 0] 49) = W
  have hx : C7 W w.heap.size k m a' b' c' d' n' := by subst hW; exact (by refine ⟨?_, ?_, ?_, ?_, ?_, ?_, ?_, ?_⟩ <;> first | (simp [go_sem]; done) | (simp; omega))
  have hz : C7 W (w.heap.size + 1) 0 0 0 0 0 0 0 := by subst hW; exact (by refine ⟨?_, ?_, ?_, ?_, ?_, ?_, ?_, ?_⟩ <;> first | (simp [go_sem]; done) | (simp; omega))
  have fx : Hid (∀ o, W.frozen? ⟨w.heap.size, o, none⟩ = false) := by intro o; subst hW; simp [go_sem]
  have fz : Hid (∀ o, W.frozen? ⟨w.heap.size + 1, o, none⟩ = false) := by intro o; subst hW; simp [go_sem]
  have hb0 : Below w.heap.size w W := by subst hW; go_grown
  have hl2 : C5 W bl a b c d n := c5_on hl hb0
  have hs0 : w.heap.size + 1 + 1 = W.heap.size := by subst hW; simp
  clear hW
  refine (term_ok a b c d n bl W hl2 HT.out).mono ?_
  rintro e w1 ⟨rfl, hb1⟩
  obtain ⟨x0, x1, x2, x3, x4, x5, x6, x7⟩ := c7_on hx hb1
  have fx1 := fz7_on hx.1 fx hb1
  obtain ⟨z0, z1, z2, z3, z4, z5, z6, z7⟩ := c7_on hz hb1
  have fz1 := fz7_on hz.1 fz hb1
  have hs1 := hb1.size
  have hbw1 := below_on hb0 hb1
  go_wp2_with fail
  generalize hW2 : World.setCell _ _ _ = W2
  have hx2 : C7 W2 w.heap.size k m a b c d n := by subst hW2; refine ⟨?_, ?_, ?_, ?_, ?_, ?_, ?_, ?_⟩ <;> first | (simp [go_sem, *]; done) | (simp [World.setCell]; omega)
  have hz2 : C7 W2 (w.heap.size + 1) 0 0 0 0 0 0 0 := by subst hW2; refine ⟨?_, ?_, ?_, ?_, ?_, ?_, ?_, ?_⟩ <;> first | (simp [go_sem, *]; done) | (simp [World.setCell]; omega)
  have fz2 : Hid (∀ o, W2.frozen? ⟨w.heap.size + 1, o, none⟩ = false) := by intro o; subst hW2; simp [go_sem, fz1]
  have hb2 : Below w.heap.size w W2 := by subst hW2; go_grown
  clear hW2
  refine (AtomValid_is _ _ _ _ _ _ _ true _ HA.out).mono ?_
  rintro e w4 ⟨rfl, hb4⟩
  clear x0 x1 x2 x3 x4 x5 x6 x7 z0 z1 z2 z3 z4 z5 z6 z7 fx1 fz1
  have hb24 : Below W2.heap.size W2 w4 := below_on (by go_grown) hb4
  obtain ⟨x0, x1, x2, x3, x4, x5, x6, x7⟩ := c7_on hx2 hb24
  obtain ⟨z0, z1, z2, z3, z4, z5, z6, z7⟩ := c7_on hz2 hb24
  have fz4 := fz7_on hz2.1 fz2 hb24
  have hb5 := below_on hb2 hb24
  go_wp2
  refine bodyPost_ret (v := .tuple #[.agg #[.int .i64 k, .int .i64 m, .int .i64 a, .int .i64 b, .int .i64 c, .int .i64 d, .int .i64 n], .bool true]) (by simp [results, Try.results61, go_sem, z1, z2, z3, z4, z5, z6, z7]) rfl ⟨rfl, ?_⟩
  go_grown

set_option maxHeartbeats 1000000 in
theorem withSum_off (k m a' b' c' d' n' a b c d n : Int) (bl : Nat) (w : World) (hl : C5 w bl a b c d n) (htv : tvB a b c d n = true) (h : avB k m a b c d n = false) :
    Calls Try.prog 61 #[.agg #[.int .i64 k, .int .i64 m, .int .i64 a', .int .i64 b', .int .i64 c', .int .i64 d', .int .i64 n'], .slice (some ⟨bl, 0, none⟩) 5 5] w fun e w' => e = .returned (.tuple #[.agg #[.int .i64 0, .int .i64 0, .int .i64 0, .int .i64 0, .int .i64 0, .int .i64 0, .int .i64 0], .bool false]) ∧ Below w.heap.size w w' := by
  have HT := Lib.hid htv
  have HA := Lib.hid h
  have HL := Lib.hid hl
  clear htv h
  go_enter Try.func61, Try.ntmps61
  go_wp2_with fail
  generalize hW : (w.alloc (.cells #[.int .i64 k, .int .i64 m, .int .i64 a', .int .i64 b', .int .i64 c', .int .i64 d', .int .i64 n'] 49)).alloc (.cells #[.int .i64 0, .int .i64 0, .int .i64 0, .int .i64 0, .int .i64 0, .int .i64 0, .int .i64 0] 49) = W
  have hx : C7 W w.heap.size k m a' b' c' d' n' := by subst hW; exact (by refine ⟨?_, ?_, ?_, ?_, ?_, ?_, ?_, ?_⟩ <;> first | (simp [go_sem]; done) | (simp; omega))
  have hz : C7 W (w.heap.size + 1) 0 0 0 0 0 0 0 := by subst hW; exact (by refine ⟨?_, ?_, ?_, ?_, ?_, ?_, ?_, ?_⟩ <;> first | (simp [go_sem]; done) | (simp; omega))
  have fx : Hid (∀ o, W.frozen? ⟨w.heap.size, o, none⟩ = false) := by intro o; subst hW; simp [go_sem]
  have fz : Hid (∀ o, W.frozen? ⟨w.heap.size + 1, o, none⟩ = false) := by intro o; subst hW; simp [go_sem]
  have hb0 : Below w.heap.size w W := by subst hW; go_grown
  have hl2 : C5 W bl a b c d n := c5_on hl hb0
  have hs0 : w.heap.size + 1 + 1 = W.heap.size := by subst hW; simp
  clear hW
  refine (term_ok a b c d n bl W hl2 HT.out).mono ?_
  rintro e w1 ⟨rfl, hb1⟩
  obtain ⟨x0, x1, x2, x3, x4, x5, x6, x7⟩ := c7_on hx hb1
  have fx1 := fz7_on hx.1 fx hb1
  obtain ⟨z0, z1, z2, z3, z4, z5, z6, z7⟩ := c7_on hz hb1
  have fz1 := fz7_on hz.1 fz hb1
  have hs1 := hb1.size
  have hbw1 := below_on hb0 hb1
  go_wp2_with fail
  generalize hW2 : World.setCell _ _ _ = W2
  have hx2 : C7 W2 w.heap.size k m a b c d n := by subst hW2; refine ⟨?_, ?_, ?_, ?_, ?_, ?_, ?_, ?_⟩ <;> first | (simp [go_sem, *]; done) | (simp [World.setCell]; omega)
  have hz2 : C7 W2 (w.heap.size + 1) 0 0 0 0 0 0 0 := by subst hW2; refine ⟨?_, ?_, ?_, ?_, ?_, ?_, ?_, ?_⟩ <;> first | (simp [go_sem, *]; done) | (simp [World.setCell]; omega)
  have fz2 : Hid (∀ o, W2.frozen? ⟨w.heap.size + 1, o, none⟩ = false) := by intro o; subst hW2; simp [go_sem, fz1]
  have hb2 : Below w.heap.size w W2 := by subst hW2; go_grown
  clear hW2
  refine (AtomValid_is _ _ _ _ _ _ _ false _ HA.out).mono ?_
  rintro e w4 ⟨rfl, hb4⟩
  clear x0 x1 x2 x3 x4 x5 x6 x7 z0 z1 z2 z3 z4 z5 z6 z7 fx1 fz1
  have hb24 : Below W2.heap.size W2 w4 := below_on (by go_grown) hb4
  obtain ⟨x0, x1, x2, x3, x4, x5, x6, x7⟩ := c7_on hx2 hb24
  obtain ⟨z0, z1, z2, z3, z4, z5, z6, z7⟩ := c7_on hz2 hb24
  have fz4 := fz7_on hz2.1 fz2 hb24
  have hb5 := below_on hb2 hb24
  go_wp2
  refine bodyPost_ret (v := .tuple #[.agg #[.int .i64 0, .int .i64 0, .int .i64 0, .int .i64 0, .int .i64 0, .int .i64 0, .int .i64 0], .bool false]) (by simp [results, Try.results61, go_sem, z1, z2, z3, z4, z5, z6, z7]) rfl ⟨rfl, ?_⟩
  go_grown

set_option maxHeartbeats 1000000 in
theorem withSum_far (k m a' b' c' d' n' a b c d n : Int) (bl : Nat) (w : World) (hl : C5 w bl a b c d n) (htv : tvB a b c d n = false) :
    Calls Try.prog 61 #[.agg #[.int .i64 k, .int .i64 m, .int .i64 a', .int .i64 b', .int .i64 c', .int .i64 d', .int .i64 n'], .slice (some ⟨bl, 0, none⟩) 5 5] w fun e w' => e = .returned (.tuple #[.agg #[.int .i64 0, .int .i64 0, .int .i64 0, .int .i64 0, .int .i64 0, .int .i64 0, .int .i64 0], .bool false]) ∧ Below w.heap.size w w' := by
  have HT := Lib.hid htv
  have HL := Lib.hid hl
  clear htv
  go_enter Try.func61, Try.ntmps61
  go_wp2_with fail
  generalize hW : (w.alloc (.cells #[.int .i64 k, .int .i64 m, .int .i64 a', .int .i64 b', .int .i64 c', .int .i64 d', .int .i64 n'] 49)).alloc (.cells #[.int .i64 0, .int .i64 0, .int .i64 0, .int .i64 0, .int .i64 0, .int .i64 0, .int .i64 0] 49) = W
  have hx : C7 W w.heap.size k m a' b' c' d' n' := by subst hW; exact (by refine ⟨?_, ?_, ?_, ?_, ?_, ?_, ?_, ?_⟩ <;> first | (simp [go_sem]; done) | (simp; omega))
  have hz : C7 W (w.heap.size + 1) 0 0 0 0 0 0 0 := by subst hW; exact (by refine ⟨?_, ?_, ?_, ?_, ?_, ?_, ?_, ?_⟩ <;> first | (simp [go_sem]; done) | (simp; omega))
  have fx : Hid (∀ o, W.frozen? ⟨w.heap.size, o, none⟩ = false) := by intro o; subst hW; simp [go_sem]
  have fz : Hid (∀ o, W.frozen? ⟨w.heap.size + 1, o, none⟩ = false) := by intro o; subst hW; simp [go_sem]
  have hb0 : Below w.heap.size w W := by subst hW; go_grown
  have hl2 : C5 W bl a b c d n := c5_on hl hb0
  have hs0 : w.heap.size + 1 + 1 = W.heap.size := by subst hW; simp
  clear hW
  refine (term_bad a b c d n bl W hl2 HT.out).mono ?_
  rintro e w1 ⟨rfl, hb1⟩
  obtain ⟨x0, x1, x2, x3, x4, x5, x6, x7⟩ := c7_on hx hb1
  have fx1 := fz7_on hx.1 fx hb1
  obtain ⟨z0, z1, z2, z3, z4, z5, z6, z7⟩ := c7_on hz hb1
  have fz1 := fz7_on hz.1 fz hb1
  have hs1 := hb1.size
  have hbw1 := below_on hb0 hb1
  go_upto_region 4 with fail
  generalize hW2 : World.setCell _ _ _ = W2
  have hz2 : C7 W2 (w.heap.size + 1) 0 0 0 0 0 0 0 := by subst hW2; refine ⟨?_, ?_, ?_, ?_, ?_, ?_, ?_, ?_⟩ <;> first | (simp [go_sem, *]; done) | (simp [World.setCell]; omega)
  have fz2 : Hid (∀ o, W2.frozen? ⟨w.heap.size + 1, o, none⟩ = false) := by intro o; subst hW2; simp [go_sem, fz1]
  have hb2 : Below w.heap.size w W2 := by subst hW2; go_grown
  clear hW2 x0 x1 x2 x3 x4 x5 x6 x7 z0 z1 z2 z3 z4 z5 z6 z7 fx1 fz1
  generalize hW3 : W2.alloc _ = W3
  have hb23 : Below W2.heap.size W2 W3 := by subst hW3; go_grown
  clear hW3
  have hb5 := below_on hb2 hb23
  obtain ⟨z0, z1, z2, z3, z4, z5, z6, z7⟩ := c7_on hz2 hb23
  have fz4 := fz7_on hz2.1 fz2 hb23
  clear hz2 hx hz hl hl2 hb0 hbw1 hb1 hb23 hb2
  go_wp2
  refine bodyPost_ret (v := .tuple #[.agg #[.int .i64 0, .int .i64 0, .int .i64 0, .int .i64 0, .int .i64 0, .int .i64 0, .int .i64 0], .bool false]) (by simp [results, Try.results61, go_sem, z1, z2, z3, z4, z5, z6, z7]) rfl ⟨rfl, ?_⟩
  go_grown

theorem withSum_no (k m a' b' c' d' n' a b c d n : Int) (bl : Nat) (w : World) (hl : C5 w bl a b c d n) (h : avB k m a b c d n = false) :
    Calls Try.prog 61 #[.agg #[.int .i64 k, .int .i64 m, .int .i64 a', .int .i64 b', .int .i64 c', .int .i64 d', .int .i64 n'], .slice (some ⟨bl, 0, none⟩) 5 5] w fun e w' => e = .returned (.tuple #[.agg #[.int .i64 0, .int .i64 0, .int .i64 0, .int .i64 0, .int .i64 0, .int .i64 0, .int .i64 0], .bool false]) ∧ Below w.heap.size w w' := by
  by_cases htv : tvB a b c d n = true
  · exact withSum_off k m a' b' c' d' n' a b c d n bl w hl htv h
  · exact withSum_far k m a' b' c' d' n' a b c d n bl w hl (by simpa using htv)

end Go.Proofs.Ytaiajdeognnndaa

/- Contracts of the program's atMost, SplitZero and NegateAtom. -/
namespace Go.Proofs.Ytaiajdeognnndaa
open Go.RowKit

/-- A new list of multiples. -/
def MulT (a b c d n : Int) (w : World) (e : Ending) (w' : World) : Prop := ∃ bl, e = .returned (.slice (some ⟨bl, 0, none⟩) 5 5) ∧ C5 w' bl a b c d n ∧ Below w.heap.size w w' ∧ w.heap.size ≤ bl

theorem multiples_new (a b c d n : Int) (w : World) : Calls Try.prog 59 #[.agg #[.int .i64 a, .int .i64 b, .int .i64 c, .int .i64 d, .int .i64 n]] w (MulT a b c d n w) :=
  (multiples_any a b c d n w).mono fun e w' ⟨he, hw⟩ => ⟨_, he, by subst hw; exact (by refine ⟨?_, ?_, ?_, ?_, ?_, ?_⟩ <;> first | (simp [go_sem]; done) | (simp; omega)), by subst hw; go_grown, by omega⟩
/-- A list of sums reads as the terms of the atoms L. -/
def SumsAt (w : World) (v : Value) (L : List AtD) : Prop :=
  ∃ g cap, v = .slice (some ⟨g, 0, none⟩) L.length cap ∧ g < w.heap.size ∧ L.length ≤ 1000 ∧ (∀ x ∈ L, x.k = 0 ∧ x.m = 0) ∧ ∀ i x, L[i]? = some x → ∃ bl, w.cell? ⟨g, i, none⟩ = some (.slice (some ⟨bl, 0, none⟩) 5 5) ∧ C5 w bl x.a x.b x.c x.d x.n

theorem Try.infoAtom : (Try.prog.info? 49).map (fun i => (i.zero, i.size, i.bytes)) = some (some (.agg #[.int .i64 0, .int .i64 0, .int .i64 0, .int .i64 0, .int .i64 0, .int .i64 0, .int .i64 0]), 7, 56) := by kernel_rfl
theorem Try.infoMul : (Try.prog.info? 70).map (fun i => (i.zero, i.size, i.bytes)) = some (some (.slice none 0 0), 1, 24) := by kernel_rfl

theorem acells_one (x : AtD) : ∀ u ∈ acells x, u.oneCell' = true := by
  intro u hu
  simp only [acells, List.mem_cons, List.not_mem_nil, or_false] at hu
  rcases hu with rfl | rfl | rfl | rfl | rfl | rfl | rfl <;> rfl
theorem grown_below2 {w W W' : World} {v : Value} {B e size n : Nat} {xs : List Value} (hb : Below w.heap.size w W) (hown : W.ownsRow B e size v n xs) (hB : w.heap.size ≤ B) (hg : W.grownBy W' v.ownBlock) : Below w.heap.size w W' :=
  ⟨hg.os.trans hb.os, hg.tape.trans hb.tape, hg.output.trans hb.output, Nat.le_trans hb.size hg.size, fun i hi =>
    (hg.block i (Nat.lt_of_lt_of_le hi hb.size) (fun e => by have := hown.lt i e.symm; omega)).trans (hb.block i hi)⟩

def AmR (L : List AtD) (w : World) (v i : Value) (wr : World) : Prop := ∃ k : Nat, i = .int .i64 k ∧ k ≤ L.length ∧ (L.take k).all avD = true ∧ OwnA wr w.heap.size v (L.take k) ∧ Below w.heap.size w wr

theorem atom_news {w : World} (x : AtD) : ∀ j u, (acells x)[j]? = some u → (w.alloc (.cells (acells x).toArray 49)).cell? ((⟨w.heap.size, 0, none⟩ : Addr).add j) = some u := by
  intro j u hj
  match j, hj with
  | 0, hj => simp [acells] at hj; subst hj; simp [Addr.add, acells]
  | 1, hj => simp [acells] at hj; subst hj; simp [Addr.add, acells]
  | 2, hj => simp [acells] at hj; subst hj; simp [Addr.add, acells]
  | 3, hj => simp [acells] at hj; subst hj; simp [Addr.add, acells]
  | 4, hj => simp [acells] at hj; subst hj; simp [Addr.add, acells]
  | 5, hj => simp [acells] at hj; subst hj; simp [Addr.add, acells]
  | 6, hj => simp [acells] at hj; subst hj; simp [Addr.add, acells]
  | j + 7, hj => simp [acells] at hj

set_option maxRecDepth 10000 in
set_option maxHeartbeats 2000000 in
theorem atMost_t (v : Value) (L : List AtD) (w : World) (h : SumsAt w v L) (M : List AtD) (t : Bool) (ht : L.all avD = t) (hM : M = if t then L else []) :
    Calls Try.prog 34 #[v] w (AtsT M t w) := by
  obtain ⟨g, cap, rfl, hg, hL, hz, hc⟩ := h
  obtain ⟨i0, hi, hz0, hz1, hz2⟩ := info_parts Try.infoAtom
  have HI := Lib.hid (And.intro hi (And.intro hz0 (And.intro hz1 hz2)))
  obtain ⟨N, hN⟩ : ∃ N, N = L.length := ⟨_, rfl⟩
  rw [← hN] at hL ⊢
  have HN := Lib.hid hN
  have HC := Lib.hid hc
  have HZ := Lib.hid hz
  have HT := Lib.hid ht
  have HM := Lib.hid hM
  clear hN hc hz ht hM hi hz0 hz1 hz2
  go_enter Try.func34, Try.ntmps34
  go_wp2
  go_loopw [4, 11] (fun v i wr => AmR L w v i wr) (fun _ i _ => N - (intOf i).toNat)
  case atStart => exact ⟨0, rfl, by omega, rfl, World.ownsRow_nil _ _ _ _, Below.refl _ _⟩
  case round =>
    obtain ⟨k, rfl, hk, hall, hown, hbw⟩ := hrel
    have hk' : k ≤ N := by rw [HN.out]; exact hk
    have HALL := Lib.hid hall
    have HO := Lib.hid hown
    have HB := Lib.hid hbw
    have hsw := hbw.size
    clear hk hall hown
    by_cases hlt : k < N
    · have hkN : (k : Int) < (N : Int) := by omega
      have hk0 : (0 : Int) ≤ k := by omega
      obtain ⟨y, hy⟩ : ∃ y, L[k]? = some y := ⟨_, List.getElem?_eq_getElem (by rw [← HN.out]; exact hlt)⟩
      obtain ⟨bl, hcell, hc5⟩ := HC.out k y hy
      have hc1 := (hbw.cell (p := ⟨g, k, none⟩) hg).trans hcell
      have HC5 := Lib.hid (c5_on hc5 hbw)
      have HT1 := Lib.hid (show L.take (k + 1) = L.take k ++ [y] by rw [List.take_add_one, hy]; rfl)
      have hyz := HZ.out y (List.mem_of_getElem? hy)
      have hav : avD y = avB 0 0 y.a y.b y.c y.d y.n := by unfold avD; rw [hyz.1, hyz.2]
      have HNN := Lib.hid (show k + 1 ≤ L.length by rw [← HN.out]; omega)
      have HY := Lib.hid (show y = mostD y.a y.b y.c y.d y.n by obtain ⟨q0, q1, q2, q3, q4, q5, q6⟩ := y; obtain ⟨rfl, rfl⟩ := hyz; rfl)
      have HMEM := Lib.hid (List.mem_of_getElem? hy)
      clear hcell hc5 hy hyz hbw
      cases ha : avB 0 0 y.a y.b y.c y.d y.n with
      | true =>
        have HA := Lib.hid ha
        have HAV := Lib.hid (hav.trans ha)
        clear ha hav
        go_wp2_with fail
        refine (withSum_yes 0 0 0 0 0 0 0 _ _ _ _ _ bl wr HC5.out HA.out).mono ?_
        rintro e w1 ⟨rfl, hb1⟩
        have hown1 := own_below (show wr.ownsRow w.heap.size 49 7 _ (L.take k).length (AL (L.take k)) from HO.out) hb1
        have HB1 := Lib.hid (below_on HB.out hb1)
        have hs1 := HB1.out.size
        have hlen : (L.take k).length ≤ 1000 := by rw [List.length_take]; omega
        obtain ⟨hi, hz0, hz1, hz2⟩ := HI.out
        clear hc1 hb1
        go_upto_region 8 with fail
        generalize hW : w1.alloc _ = W
        have hx : C7 W w1.heap.size 0 0 y.a y.b y.c y.d y.n := by subst hW; exact (by refine ⟨?_, ?_, ?_, ?_, ?_, ?_, ?_, ?_⟩ <;> first | (simp [go_sem]; done) | (simp; omega))
        have hbW : Below w1.heap.size w1 W := by subst hW; go_grown
        have hownW := own_below hown1 hbW
        have HBW := Lib.hid (below_on HB1.out hbW)
        have hsW := HBW.out.size
        obtain ⟨x0, x1, x2, x3, x4, x5, x6, x7⟩ := hx
        clear hW hbW hown1
        go_wp2_with (at_builtin; refine wpList_append_own _ rfl _ _ 24 rfl w.heap.size 49 i0 (.agg #[.int .i64 0, .int .i64 0, .int .i64 0, .int .i64 0, .int .i64 0, .int .i64 0, .int .i64 0]) 7 56 Try.underlying24 hi hz0 hz1 hz2 rfl (by decide) _ _ _ rfl (hownW.alloc _) ⟨W.heap.size, 0, none⟩ 1 1 (acells (mostD y.a y.b y.c y.d y.n)) rfl rfl ?c1 ?c2 ?c3 ?c4 ?c5 ?_)
        case c1 => exact atom_news (w := W) (mostD y.a y.b y.c y.d y.n)
        case c2 => exact acells_one _
        case c3 => unfold maxLen; omega
        case c4 => omega
        case c5 => simp; omega
        · intro v' w4 hown4 hgrow _
          have hbA : Below W.heap.size W (W.alloc (.cells (acells (mostD y.a y.b y.c y.d y.n)).toArray 49)) := by go_grown
          have HN4 : Hid (OwnA w4 w.heap.size v' (L.take (k + 1))) := by
            show w4.ownsRow _ _ _ _ _ _
            rw [HT1.out, al_app, List.length_append]
            have e : AL [y] = acells (mostD y.a y.b y.c y.d y.n) := by rw [← HY.out]; simp [AL]
            rw [e, List.length_take]
            exact hown4
          have HB4 : Hid (Below w.heap.size w w4) := grown_below2 (HBW.out.trans (hbA.mono (by omega))) (own_below hownW hbA) (Nat.le_refl _) hgrow
          have HA4 := Lib.hid (show (L.take (k + 1)).all avD = true by rw [HT1.out, List.all_append, HALL.out]; simp [HAV.out])
          clear hown4 hgrow hbA hownW hi hz0 hz1 hz2 x0 x1 x2 x3 x4 x5 x6 x7
          go_wp2
          go_roundw
          case rel => exact ⟨k + 1, by go_num, HNN.out, HA4.out, HN4.out, HB4.out⟩
          case measure => simp [intOf]; omega
      | false =>
        have HA := Lib.hid ha
        have HAV := Lib.hid (hav.trans ha)
        clear ha hav
        go_wp2_with fail
        refine (withSum_no 0 0 0 0 0 0 0 _ _ _ _ _ bl wr HC5.out HA.out).mono ?_
        rintro e w1 ⟨rfl, hb1⟩
        have HB1 := Lib.hid (below_on HB.out hb1)
        have hs1 := HB1.out.size
        have ht : t = false := by rw [← HT.out, List.all_eq_false]; exact ⟨y, HMEM.out, by rw [HAV.out]; simp⟩
        have HT2 := Lib.hid ht
        clear hc1 ht
        go_wp2
        go_ret2
        have e := HT2.out
        subst e
        have e := HM.out
        subst e
        exact ⟨_, rfl, World.ownsRow_nil _ _ _ _, by have := HB1.out; go_grown⟩
    · have hkN : ¬ (k : Int) < (N : Int) := by omega
      obtain rfl : k = N := by omega
      have ht : t = true := by have := HALL.out; rw [HN.out, List.take_length] at this; rw [← HT.out]; exact this
      have HT2 := Lib.hid ht
      clear ht
      go_wp2
      go_ret2
      have e := HT2.out
      subst e
      have e := HM.out
      subst e
      exact ⟨_, rfl, by have := HO.out; rw [HN.out, List.take_length] at this; exact this, hbw⟩

theorem sums_of {w : World} {g cap : Nat} (L : List AtD) (hg : g < w.heap.size) (hL : L.length ≤ 1000) (hz : ∀ x ∈ L, x.k = 0 ∧ x.m = 0) (h : ∀ i x, L[i]? = some x → ∃ bl, w.cell? ⟨g, i, none⟩ = some (.slice (some ⟨bl, 0, none⟩) 5 5) ∧ C5 w bl x.a x.b x.c x.d x.n) : SumsAt w (.slice (some ⟨g, 0, none⟩) L.length cap) L :=
  ⟨g, cap, rfl, hg, hL, hz, h⟩
theorem sums_one {w : World} {g cap bl : Nat} {a b c d n : Int} (hg : g < w.heap.size) (hc : w.cell? ⟨g, 0, none⟩ = some (.slice (some ⟨bl, 0, none⟩) 5 5)) (h5 : C5 w bl a b c d n) : SumsAt w (.slice (some ⟨g, 0, none⟩) 1 cap) [mostD a b c d n] :=
  sums_of [mostD a b c d n] hg (by simp) (by intro x hx; simp at hx; subst hx; exact ⟨rfl, rfl⟩) (by
    intro i x hx
    match i, hx with
    | 0, hx => simp at hx; subst hx; exact ⟨bl, hc, h5⟩
    | i + 1, hx => simp at hx)
theorem sums_two {w : World} {g cap bl bm : Nat} {a b c d n a' b' c' d' n' : Int} (hg : g < w.heap.size) (hc : w.cell? ⟨g, 0, none⟩ = some (.slice (some ⟨bl, 0, none⟩) 5 5)) (h5 : C5 w bl a b c d n) (hc' : w.cell? ⟨g, 1, none⟩ = some (.slice (some ⟨bm, 0, none⟩) 5 5)) (h5' : C5 w bm a' b' c' d' n') : SumsAt w (.slice (some ⟨g, 0, none⟩) 2 cap) [mostD a b c d n, mostD a' b' c' d' n'] :=
  sums_of [mostD a b c d n, mostD a' b' c' d' n'] hg (by simp) (by intro x hx; simp at hx; rcases hx with rfl | rfl <;> exact ⟨rfl, rfl⟩) (by
    intro i x hx
    match i, hx with
    | 0, hx => simp at hx; subst hx; exact ⟨bl, hc, h5⟩
    | 1, hx => simp at hx; subst hx; exact ⟨bm, hc', h5'⟩
    | i + 2, hx => simp at hx)

theorem szL_ok {a b c d n : Int} (h : tvB a b c d n = true) : (szL a b c d n).all avD = true := by
  obtain ⟨⟨a0, a1⟩, ⟨b0, b1⟩, ⟨c0, c1⟩, ⟨d0, d1⟩, n0, n1⟩ := tv_bd h
  have e : ∀ a b c d n : Int, avD (mostD a b c d n) = tvB a b c d n := fun a b c d n => avB_most a b c d n
  simp only [szL, List.all_cons, List.all_nil, Bool.and_true, e, Bool.and_eq_true]
  refine ⟨h, ?_⟩
  simp only [tvB, wlB, Bool.and_eq_true, decide_eq_true_eq]
  omega

end Go.Proofs.Ytaiajdeognnndaa

/- The contract of the program's NegateAtom. -/
namespace Go.Proofs.Ytaiajdeognnndaa
open Go.RowKit

theorem c5_gr {W W' : World} {x : Nat} {a b c d n : Int} {r : Option Nat} (h : C5 W x a b c d n) (hg : W.grownBy W' r) (hne : some x ≠ r) : C5 W' x a b c d n := by
  have f : ∀ o, W'.cell? ⟨x, o, none⟩ = W.cell? ⟨x, o, none⟩ := fun o => World.cell?_of_block (hg.block x h.1 hne)
  exact ⟨Nat.lt_of_lt_of_le h.1 hg.size, (f 0).trans h.2.1, (f 1).trans h.2.2.1, (f 2).trans h.2.2.2.1, (f 3).trans h.2.2.2.2.1, (f 4).trans h.2.2.2.2.2⟩

theorem one_news {e : TypeId} (w : World) (x : Value) : ∀ j u, [x][j]? = some u → (w.alloc (.cells #[x] e)).cell? ((⟨w.heap.size, 0, none⟩ : Addr).add j) = some u := by
  intro j u hj
  match j, hj with
  | 0, hj => simp at hj; subst hj; simp [Addr.add]

end Go.Proofs.Ytaiajdeognnndaa
