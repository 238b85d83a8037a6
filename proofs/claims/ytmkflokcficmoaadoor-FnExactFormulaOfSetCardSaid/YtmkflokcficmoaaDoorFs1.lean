/- Several texts in one: FsA FsS FsB. -/
import Derived.Test.YtmkflokcficmoaaDoorNm
import Derived.Test.YtmkflokcficmoaaDoorSa7
import Derived.Test.YtmkflokcficmoaaDoorSd7

/- The formula of a set as data, and the model's FormulaOfSet. -/
namespace Go.Proofs.YtmkflokcficmoaaDoor
open Go.RowKit

def uq (v i : Int) : Int := if v = i then 1 else 0
/-- The part for a number. -/
def ptP (h l : List UInt8) (v : Int) (n : Nat) : FH × Fo :=
  if n < h.length then (⟨2, 1, 0, uq v 0, uq v 1, uq v 2, uq v 3, -(n : Int), 0⟩, .nil)
  else (⟨4, 0, 0, 0, 0, 0, 0, 0, 0⟩, .cons ⟨2, 0, 0, -uq v 0, -uq v 1, -uq v 2, -uq v 3, n, 0⟩ .nil (.cons ⟨2, 2, (l.length : Nat), uq v 0, uq v 1, uq v 2, uq v 3, -(n : Int), 0⟩ .nil .nil))
def ptL (h l : List UInt8) (v : Int) : List Nat → Fo
  | [] => .nil
  | n :: r => .cons (ptP h l v n).1 (ptP h l v n).2 (ptL h l v r)
theorem ptL_snoc (h l : List UInt8) (v : Int) (n : Nat) : ∀ L, ptL h l v (L ++ [n]) = (ptL h l v L).app (.cons (ptP h l v n).1 (ptP h l v n).2 .nil)
  | [] => rfl
  | x :: L => by
    show Fo.cons _ _ (ptL h l v (L ++ [n])) = _
    rw [ptL_snoc h l v n L]
    rfl
theorem ptL_len (h l : List UInt8) (v : Int) : ∀ L, (ptL h l v L).len = L.length
  | [] => rfl
  | x :: L => by
    show (ptL h l v L).len + 1 = _
    rw [ptL_len h l v L]
    rfl
theorem ptP_size (h l : List UInt8) (v : Int) (n : Nat) : (ptP h l v n).2.size ≤ 2 := by
  unfold ptP
  split <;> simp [Fo.size]
theorem ptL_size (h l : List UInt8) (v : Int) : ∀ L, (ptL h l v L).size ≤ 3 * L.length
  | [] => Nat.zero_le _
  | x :: L => by
    show (ptP h l v x).2.size + (ptL h l v L).size + 1 ≤ _
    have := ptL_size h l v L
    have := ptP_size h l v x
    simp only [List.length_cons]
    omega
theorem fs_nil (w : World) (lo : Nat) : FS w lo .nil (.slice none 0 0) := .inl ⟨rfl, none, 0, rfl, Nat.le_refl _, Nat.zero_le _⟩
theorem uq_neg (v i : Int) : (if v = i then (-1 : Int) else 0) = -uq v i := by unfold uq; split <;> rfl
theorem c5_alloc {w W : World} {a b c d n : Int} {t : TypeId} (hW : w.alloc (.cells #[.int .i64 a, .int .i64 b, .int .i64 c, .int .i64 d, .int .i64 n] t) = W) : C5 W w.heap.size a b c d n ∧ (∀ o, W.frozen? ⟨w.heap.size, o, none⟩ = false) ∧ Below w.heap.size w W ∧ W.heap.size = w.heap.size + 1 := by
  subst hW
  exact ⟨(by refine ⟨?_, ?_, ?_, ?_, ?_, ?_⟩ <;> first | (simp [go_sem]; done) | (simp; omega)), fun o => by simp [go_sem], by go_grown, by simp⟩
theorem fz_putk0 {W W' : World} {x z : Nat} (hk : ∀ k, k ≠ x → W'.heap[k]? = W.heap[k]?) (hne : z ≠ x) (fz : ∀ o, W.frozen? ⟨z, o, none⟩ = false) : ∀ o, W'.frozen? ⟨z, o, none⟩ = false := fun o => (World.frozen?_of_block (hk _ hne)).trans (fz o)
theorem c5_put4 {W W' : World} {x : Nat} {a b c d n m : Int} (hW : W.setCell ⟨x, 4, none⟩ (.int .i64 m) = W') (h : C5 W x a b c d n) : C5 W' x a b c d m ∧ W'.heap.size = W.heap.size ∧ (∀ k, k ≠ x → W'.heap[k]? = W.heap[k]?) := by
  obtain ⟨x0, c0, c1, c2, c3, c4⟩ := h
  subst hW
  exact ⟨⟨by simpa [World.setCell] using x0, by simp [go_sem, *], by simp [go_sem, *], by simp [go_sem, *], by simp [go_sem, *], by simp [go_sem, *]⟩, by simp [World.setCell], fun k hk => Below.heap_setCell _ _ _ _ (by dsimp only; omega)⟩

set_option maxHeartbeats 1000000 in
theorem l6Single_any (v c : Int) (w : World) (hv : 0 ≤ v ∧ v < 4) :
    Calls Tryd.prog 39 #[.int .i64 v, .int .i64 c] w fun e w' => e = .returned (.agg #[.int .i64 (if v = 0 then c else 0), .int .i64 (if v = 1 then c else 0), .int .i64 (if v = 2 then c else 0), .int .i64 (if v = 3 then c else 0), .int .i64 0]) ∧ Below w.heap.size w w' := by
  have hmk : ∀ w, (Instr.makeSlice 44 (.int .i64 5) (.int .i64 5)).run Tryd.prog w = .ok (.slice (some ⟨w.heap.size, 0, none⟩) 5 5) (w.alloc (.cells #[.int .i64 0, .int .i64 0, .int .i64 0, .int .i64 0, .int .i64 0] 3)) := fun _ => by kernel_rfl
  have hv' : v = 0 ∨ v = 1 ∨ v = 2 ∨ v = 3 := by omega
  clear hv
  rcases hv' with rfl | rfl | rfl | rfl
  · go_enter Tryd.func39, Tryd.ntmps39
    go_wp2_with fail
    generalize hW : World.alloc _ _ = W
    have hz : C5 W w.heap.size 0 0 0 0 0 := by subst hW; exact (by refine ⟨?_, ?_, ?_, ?_, ?_, ?_⟩ <;> first | (simp [go_sem]; done) | (simp; omega))
    have fz : ∀ o, W.frozen? ⟨w.heap.size, o, none⟩ = false := by intro o; subst hW; simp [go_sem]
    have hx : C5 W (w.heap.size + 1) c 0 0 0 0 := by subst hW; exact (by refine ⟨?_, ?_, ?_, ?_, ?_, ?_⟩ <;> first | (simp [go_sem]; done) | (simp; omega))
    have hw : Below w.heap.size w W := by subst hW; go_grown
    clear hW
    refine (l1Term_any c 0 0 0 0 (w.heap.size + 1) _ hx).mono ?_
    rintro e w1 ⟨rfl, hb1⟩
    obtain ⟨z0, z1, z2, z3, z4, z5⟩ := c5_on hz hb1
    have fz1 : ∀ o, w1.frozen? ⟨w.heap.size, o, none⟩ = false := fun o => ((bcell hb1).2 _ o hz.1).trans (fz o)
    have hw1 := below_on hw hb1
    clear hz fz hx hw hb1
    go_wp2
    refine bodyPost_ret (v := .agg #[.int .i64 c, .int .i64 0, .int .i64 0, .int .i64 0, .int .i64 0]) (by simp [results, Tryd.results39, go_sem, z1, z2, z3, z4, z5]) rfl ⟨rfl, ?_⟩
    go_grown
  · go_enter Tryd.func39, Tryd.ntmps39
    go_wp2_with fail
    generalize hW : World.alloc _ _ = W
    have hz : C5 W w.heap.size 0 0 0 0 0 := by subst hW; exact (by refine ⟨?_, ?_, ?_, ?_, ?_, ?_⟩ <;> first | (simp [go_sem]; done) | (simp; omega))
    have fz : ∀ o, W.frozen? ⟨w.heap.size, o, none⟩ = false := by intro o; subst hW; simp [go_sem]
    have hx : C5 W (w.heap.size + 1) 0 c 0 0 0 := by subst hW; exact (by refine ⟨?_, ?_, ?_, ?_, ?_, ?_⟩ <;> first | (simp [go_sem]; done) | (simp; omega))
    have hw : Below w.heap.size w W := by subst hW; go_grown
    clear hW
    refine (l1Term_any 0 c 0 0 0 (w.heap.size + 1) _ hx).mono ?_
    rintro e w1 ⟨rfl, hb1⟩
    obtain ⟨z0, z1, z2, z3, z4, z5⟩ := c5_on hz hb1
    have fz1 : ∀ o, w1.frozen? ⟨w.heap.size, o, none⟩ = false := fun o => ((bcell hb1).2 _ o hz.1).trans (fz o)
    have hw1 := below_on hw hb1
    clear hz fz hx hw hb1
    go_wp2
    refine bodyPost_ret (v := .agg #[.int .i64 0, .int .i64 c, .int .i64 0, .int .i64 0, .int .i64 0]) (by simp [results, Tryd.results39, go_sem, z1, z2, z3, z4, z5]) rfl ⟨rfl, ?_⟩
    go_grown
  · go_enter Tryd.func39, Tryd.ntmps39
    go_wp2_with fail
    generalize hW : World.alloc _ _ = W
    have hz : C5 W w.heap.size 0 0 0 0 0 := by subst hW; exact (by refine ⟨?_, ?_, ?_, ?_, ?_, ?_⟩ <;> first | (simp [go_sem]; done) | (simp; omega))
    have fz : ∀ o, W.frozen? ⟨w.heap.size, o, none⟩ = false := by intro o; subst hW; simp [go_sem]
    have hx : C5 W (w.heap.size + 1) 0 0 c 0 0 := by subst hW; exact (by refine ⟨?_, ?_, ?_, ?_, ?_, ?_⟩ <;> first | (simp [go_sem]; done) | (simp; omega))
    have hw : Below w.heap.size w W := by subst hW; go_grown
    clear hW
    refine (l1Term_any 0 0 c 0 0 (w.heap.size + 1) _ hx).mono ?_
    rintro e w1 ⟨rfl, hb1⟩
    obtain ⟨z0, z1, z2, z3, z4, z5⟩ := c5_on hz hb1
    have fz1 : ∀ o, w1.frozen? ⟨w.heap.size, o, none⟩ = false := fun o => ((bcell hb1).2 _ o hz.1).trans (fz o)
    have hw1 := below_on hw hb1
    clear hz fz hx hw hb1
    go_wp2
    refine bodyPost_ret (v := .agg #[.int .i64 0, .int .i64 0, .int .i64 c, .int .i64 0, .int .i64 0]) (by simp [results, Tryd.results39, go_sem, z1, z2, z3, z4, z5]) rfl ⟨rfl, ?_⟩
    go_grown
  · go_enter Tryd.func39, Tryd.ntmps39
    go_wp2_with fail
    generalize hW : World.alloc _ _ = W
    have hz : C5 W w.heap.size 0 0 0 0 0 := by subst hW; exact (by refine ⟨?_, ?_, ?_, ?_, ?_, ?_⟩ <;> first | (simp [go_sem]; done) | (simp; omega))
    have fz : ∀ o, W.frozen? ⟨w.heap.size, o, none⟩ = false := by intro o; subst hW; simp [go_sem]
    have hx : C5 W (w.heap.size + 1) 0 0 0 c 0 := by subst hW; exact (by refine ⟨?_, ?_, ?_, ?_, ?_, ?_⟩ <;> first | (simp [go_sem]; done) | (simp; omega))
    have hw : Below w.heap.size w W := by subst hW; go_grown
    clear hW
    refine (l1Term_any 0 0 0 c 0 (w.heap.size + 1) _ hx).mono ?_
    rintro e w1 ⟨rfl, hb1⟩
    obtain ⟨z0, z1, z2, z3, z4, z5⟩ := c5_on hz hb1
    have fz1 : ∀ o, w1.frozen? ⟨w.heap.size, o, none⟩ = false := fun o => ((bcell hb1).2 _ o hz.1).trans (fz o)
    have hw1 := below_on hw hb1
    clear hz fz hx hw hb1
    go_wp2
    refine bodyPost_ret (v := .agg #[.int .i64 0, .int .i64 0, .int .i64 0, .int .i64 c, .int .i64 0]) (by simp [results, Tryd.results39, go_sem, z1, z2, z3, z4, z5]) rfl ⟨rfl, ?_⟩
    go_grown

theorem atom_t (k m a b c d n : Int) (w : World) : Calls Tryd.prog 40 #[.agg #[.int .i64 k, .int .i64 m, .int .i64 a, .int .i64 b, .int .i64 c, .int .i64 d, .int .i64 n]] w (fun e w' => e = .returned (.agg #[.int .i64 2, .int .i64 k, .int .i64 m, .int .i64 a, .int .i64 b, .int .i64 c, .int .i64 d, .int .i64 n, .int .i64 0, .slice none 0 0]) ∧ Below w.heap.size w w') := by
  go_enter Tryd.func40, Tryd.ntmps40
  go_wp2
  refine bodyPost_ret (v := .agg #[.int .i64 2, .int .i64 k, .int .i64 m, .int .i64 a, .int .i64 b, .int .i64 c, .int .i64 d, .int .i64 n, .int .i64 0, .slice none 0 0]) (by simp [results, Tryd.results40, go_sem]) rfl ⟨rfl, ?_⟩
  go_grown

def PtT (h l : List UInt8) (v : Int) (n : Nat) (w : World) (e : Ending) (w' : World) : Prop := ∃ s, e = .returned (.agg #[.int .i64 (ptP h l v n).1.k, .int .i64 (ptP h l v n).1.ak, .int .i64 (ptP h l v n).1.am, .int .i64 (ptP h l v n).1.a, .int .i64 (ptP h l v n).1.b, .int .i64 (ptP h l v n).1.c, .int .i64 (ptP h l v n).1.d, .int .i64 (ptP h l v n).1.n, .int .i64 (ptP h l v n).1.v, s]) ∧ FS w' w.heap.size (ptP h l v n).2 s ∧ Below w.heap.size w w'

set_option maxRecDepth 10000 in
set_option maxHeartbeats 2000000 in
theorem l8Number_any (h l : List UInt8) (v : Int) (n : Nat) (w : World) (hv : 0 ≤ v ∧ v < 4) (hn : n ≤ 1000000) (hlt : n < h.length) :
    Calls Tryd.prog 25 #[.int .i64 v, .int .i64 n] w (PtT h l v n w) := by
  have hP : Hid (ptP h l v n = (⟨2, 1, 0, uq v 0, uq v 1, uq v 2, uq v 3, -(n : Int), 0⟩, .nil)) := Lib.hid (by unfold ptP; rw [if_pos hlt])
  have HS := Lib.hid fun w => l6Single_any v 1 w hv
  have hwn : IntKind.i64.wrap (-(n : Int)) = -(n : Int) := by rw [IntKind.wrap_i64]; omega
  have hwm : wrap64 (-(n : Int)) = -(n : Int) := by unfold wrap64; omega
  obtain ⟨a, ha⟩ : ∃ a, uq v 0 = a := ⟨_, rfl⟩
  obtain ⟨b, hb⟩ : ∃ a, uq v 1 = a := ⟨_, rfl⟩
  obtain ⟨c, hc⟩ : ∃ a, uq v 2 = a := ⟨_, rfl⟩
  obtain ⟨d, hd⟩ : ∃ a, uq v 3 = a := ⟨_, rfl⟩
  unfold uq at ha hb hc hd
  rw [ha, hb, hc, hd] at HS
  rw [show uq v 0 = a from ha, show uq v 1 = b from hb, show uq v 2 = c from hc, show uq v 3 = d from hd] at hP
  obtain ⟨z, hz⟩ : ∃ z, -(n : Int) = z := ⟨_, rfl⟩
  rw [hz] at hwn hwm hP
  unfold PtT
  rw [hP.out]
  clear ha hb hc hd hlt hn hv hP
  go_enter Tryd.func25, Tryd.ntmps25
  go_wp2_with fail
  generalize hW : World.alloc _ _ = W
  have hzz : C10 W w.heap.size ⟨0, 0, 0, 0, 0, 0, 0, 0, 0⟩ (.slice none 0 0) := by subst hW; exact (by refine ⟨?_, ?_, ?_, ?_, ?_, ?_, ?_, ?_, ?_, ?_, ?_⟩ <;> first | (simp [go_sem]; done) | (simp; omega))
  have fz : ∀ o, W.frozen? ⟨w.heap.size, o, none⟩ = false := by intro o; subst hW; simp [go_sem]
  have hw : Below w.heap.size w W := by subst hW; go_grown
  clear hW
  refine (HS.out _).mono ?_
  rintro e w1 ⟨rfl, hb1⟩
  have hz1 := c10_on hzz hb1
  have fz1 : ∀ o, w1.frozen? ⟨w.heap.size, o, none⟩ = false := fun o => ((bcell hb1).2 _ o hzz.1).trans (fz o)
  have hw1 := below_on hw hb1
  clear hzz fz hw hb1
  go_upto_region 2 with fail
  generalize hW : World.alloc w1 _ = W2
  obtain ⟨hx, fx, hb2, hs2⟩ := c5_alloc hW
  have hz2 := c10_on hz1 hb2
  have fz2 : ∀ o, W2.frozen? ⟨w.heap.size, o, none⟩ = false := fun o => ((bcell hb2).2 _ o hz1.1).trans (fz1 o)
  have hw2 := below_on hw1 hb2
  have hne : w.heap.size < w1.heap.size := hz1.1
  clear hW hz1 fz1 hw1 hb2
  obtain ⟨x0, q0, q1, q2, q3, q4⟩ := id hx
  go_upto_region 3 with fail
  generalize hW : World.setCell _ _ _ = W3
  obtain ⟨hx3, hs3, hk3⟩ := c5_put4 hW hx
  have hw3 : Below w.heap.size w W3 := by subst hW; exact hw2.setCell (by dsimp only; omega) _
  have hcz : ∀ o, W3.cell? ⟨w.heap.size, o, none⟩ = W2.cell? ⟨w.heap.size, o, none⟩ := fun o => World.cell?_of_block (hk3 w.heap.size (Nat.ne_of_lt hne))
  have hz3 : C10 W3 w.heap.size ⟨0, 0, 0, 0, 0, 0, 0, 0, 0⟩ (.slice none 0 0) := by simpa only [C10, hcz, hs3] using hz2
  have fz3 := fz_putk0 hk3 (Nat.ne_of_lt hne) fz2
  clear hW hx fx hk3 hcz hz2 fz2 hw2 x0 q0 q1 q2 q3 q4
  obtain ⟨x0, q0, q1, q2, q3, q4⟩ := id hx3
  go_wp2_with fail
  refine (atom_t 1 0 a b c d z _).mono ?_
  rintro e w4 ⟨rfl, hb4⟩
  have hz4 := c10_on hz3 hb4
  have fz4 : ∀ o, w4.frozen? ⟨w.heap.size, o, none⟩ = false := fun o => ((bcell hb4).2 _ o hz3.1).trans (fz3 o)
  have hw4 := below_on hw3 hb4
  obtain ⟨z0, e0, e1, e2, e3, e4, e5, e6, e7, e8, e9⟩ := id hz4
  clear hb4 hz3 fz3 hw3 x0 q0 q1 q2 q3 q4 hx3
  go_wp2
  generalize hW7 : World.setCell _ _ _ = W7
  obtain ⟨hz7, _, _, _⟩ := ten_set (g := ⟨2, 1, 0, a, b, c, d, z, 0⟩) hz4 hW7
  have hw7 : Below w.heap.size w W7 := by subst hW7; go_grown
  obtain ⟨y0, y1, y2, y3, y4, y5, y6, y7, y8, y9, y10⟩ := hz7
  refine bodyPost_ret (v := .agg #[.int .i64 2, .int .i64 1, .int .i64 0, .int .i64 a, .int .i64 b, .int .i64 c, .int .i64 d, .int .i64 z, .int .i64 0, .slice none 0 0]) (by simp [results, Tryd.results25, go_sem, y1, y2, y3, y4, y5, y6, y7, y8, y9, y10]) rfl ⟨_, rfl, fs_nil _ _, hw7⟩

set_option maxHeartbeats 1000000 in
theorem two_t (lo : Nat) (k : Int) (h g : FH) (f u : Fo) (s t : Value) (w : World) (hlo : lo ≤ w.heap.size) (hs : FS w lo f s) (ht : FS w lo u t) : Calls Tryd.prog 41 #[.int .i64 k, .agg #[.int .i64 h.k, .int .i64 h.ak, .int .i64 h.am, .int .i64 h.a, .int .i64 h.b, .int .i64 h.c, .int .i64 h.d, .int .i64 h.n, .int .i64 h.v, s], .agg #[.int .i64 g.k, .int .i64 g.ak, .int .i64 g.am, .int .i64 g.a, .int .i64 g.b, .int .i64 g.c, .int .i64 g.d, .int .i64 g.n, .int .i64 g.v, t]] w (fun e w' => ∃ s', e = .returned (.agg #[.int .i64 k, .int .i64 0, .int .i64 0, .int .i64 0, .int .i64 0, .int .i64 0, .int .i64 0, .int .i64 0, .int .i64 0, s']) ∧ FS w' lo (.cons h f (.cons g u .nil)) s' ∧ Below w.heap.size w w') := by
  have HS := Lib.hid hs
  have HT := Lib.hid ht
  obtain ⟨sa, sn, sc, rfl⟩ := hs.slice
  obtain ⟨ta, tn, tc, rfl⟩ := ht.slice
  clear hs ht
  go_enter Tryd.func41, Tryd.ntmps41
  go_wp2
  refine bodyPost_ret (v := .agg #[.int .i64 k, .int .i64 0, .int .i64 0, .int .i64 0, .int .i64 0, .int .i64 0, .int .i64 0, .int .i64 0, .int .i64 0, .slice (some ⟨w.heap.size + 1 + 1 + 1, 0, none⟩) 2 2]) (by simp [results, Tryd.results41, go_sem]) rfl ?_
  generalize hW : World.alloc _ _ = W
  have hb : Below w.heap.size w W := by subst hW; go_grown
  have hsz : w.heap.size + 1 + 1 + 1 < W.heap.size := by subst hW; simp
  refine ⟨_, rfl, .inr ⟨Nat.zero_lt_two, w.heap.size + 1 + 1 + 1, 0, 2, rfl, Nat.le_refl _, by decide, by omega, hsz, ⟨⟨.slice sa sn sc, ?_, FS.below hb (Nat.le_refl _) HS.out⟩, ⟨.slice ta tn tc, ?_, FS.below hb (Nat.le_refl _) HT.out⟩, trivial⟩⟩, hb⟩
  · subst hW
    refine ⟨?_, ?_, ?_, ?_, ?_, ?_, ?_, ?_, ?_, ?_⟩ <;> simp [go_sem]
  · subst hW
    refine ⟨?_, ?_, ?_, ?_, ?_, ?_, ?_, ?_, ?_, ?_⟩ <;> simp [go_sem]
theorem c10_putk {W W' : World} {x : Nat} {h : FH} {s : Value} (hk : ∀ k, k ≠ x → W'.heap[k]? = W.heap[k]?) (hs : W'.heap.size = W.heap.size) {z : Nat} (hz : C10 W z h s) (hne : z ≠ x) : C10 W' z h s := by
  have hcz : ∀ o, W'.cell? ⟨z, o, none⟩ = W.cell? ⟨z, o, none⟩ := fun o => World.cell?_of_block (hk _ hne)
  simpa only [C10, hcz, hs] using hz
theorem c5_putk {W W' : World} {x : Nat} {a b c d n : Int} (hk : ∀ k, k ≠ x → W'.heap[k]? = W.heap[k]?) (hs : W'.heap.size = W.heap.size) {z : Nat} (hz : C5 W z a b c d n) (hne : z ≠ x) : C5 W' z a b c d n := by
  have hcz : ∀ o, W'.cell? ⟨z, o, none⟩ = W.cell? ⟨z, o, none⟩ := fun o => World.cell?_of_block (hk _ hne)
  simpa only [C5, hcz, hs] using hz
theorem cells55 {W w' : World} {x y : Nat} {a b c d n e f g h m : Int} (hx : C5 W x a b c d n) (hy : C5 W y e f g h m) (hb : Below W.heap.size W w') :
    (w'.cell? ⟨x, 0, none⟩ = some (.int .i64 a) ∧ w'.cell? ⟨x, 1, none⟩ = some (.int .i64 b) ∧ w'.cell? ⟨x, 2, none⟩ = some (.int .i64 c) ∧ w'.cell? ⟨x, 3, none⟩ = some (.int .i64 d) ∧ w'.cell? ⟨x, 4, none⟩ = some (.int .i64 n)) ∧ w'.cell? ⟨y, 0, none⟩ = some (.int .i64 e) ∧ w'.cell? ⟨y, 1, none⟩ = some (.int .i64 f) ∧ w'.cell? ⟨y, 2, none⟩ = some (.int .i64 g) ∧ w'.cell? ⟨y, 3, none⟩ = some (.int .i64 h) ∧ w'.cell? ⟨y, 4, none⟩ = some (.int .i64 m) := ⟨(c5_on hx hb).2, (c5_on hy hb).2⟩
theorem cells55s {W W' : World} {x y z : Nat} {a b c d n e f g h m : Int} {p q : FH} {s t : Value} (hz : C10 W z p s) (hx : C5 W x a b c d n) (hy : C5 W y e f g h m) (h1 : x ≠ z) (h2 : y ≠ z)
    (hW : ((((((((((W.setCell ⟨z, 0, none⟩ (.int .i64 q.k)).setCell ⟨z, 1, none⟩ (.int .i64 q.ak)).setCell ⟨z, 2, none⟩ (.int .i64 q.am)).setCell ⟨z, 3, none⟩ (.int .i64 q.a)).setCell ⟨z, 4, none⟩ (.int .i64 q.b)).setCell ⟨z, 5, none⟩ (.int .i64 q.c)).setCell ⟨z, 6, none⟩ (.int .i64 q.d)).setCell ⟨z, 7, none⟩ (.int .i64 q.n)).setCell ⟨z, 8, none⟩ (.int .i64 q.v)).setCell ⟨z, 9, none⟩ t) = W') :
    (W'.cell? ⟨x, 0, none⟩ = some (.int .i64 a) ∧ W'.cell? ⟨x, 1, none⟩ = some (.int .i64 b) ∧ W'.cell? ⟨x, 2, none⟩ = some (.int .i64 c) ∧ W'.cell? ⟨x, 3, none⟩ = some (.int .i64 d) ∧ W'.cell? ⟨x, 4, none⟩ = some (.int .i64 n)) ∧ W'.cell? ⟨y, 0, none⟩ = some (.int .i64 e) ∧ W'.cell? ⟨y, 1, none⟩ = some (.int .i64 f) ∧ W'.cell? ⟨y, 2, none⟩ = some (.int .i64 g) ∧ W'.cell? ⟨y, 3, none⟩ = some (.int .i64 h) ∧ W'.cell? ⟨y, 4, none⟩ = some (.int .i64 m) := by
  obtain ⟨hz9, hk9, hs9, _⟩ := ten_set hz hW
  exact ⟨(c5_putk hk9 hs9 hx h1).2, (c5_putk hk9 hs9 hy h2).2⟩
theorem fz_putk {W W' : World} {x z : Nat} (hk : ∀ k, k ≠ x → W'.heap[k]? = W.heap[k]?) (hne : z ≠ x) (fz : ∀ o, W.frozen? ⟨z, o, none⟩ = false) : ∀ o, W'.frozen? ⟨z, o, none⟩ = false := fun o => (World.frozen?_of_block (hk _ hne)).trans (fz o)
theorem fz_onk {W W' : World} {z : Nat} (hb : Below W.heap.size W W') (hz : z < W.heap.size) (fz : ∀ o, W.frozen? ⟨z, o, none⟩ = false) : ∀ o, W'.frozen? ⟨z, o, none⟩ = false := fun o => ((bcell hb).2 _ o hz).trans (fz o)

end Go.Proofs.YtmkflokcficmoaaDoor

/- The model's part of a formula for numbers in steps. -/
namespace Go.Proofs.YtmkflokcficmoaaDoor
open Go.RowKit

set_option maxRecDepth 10000 in
set_option maxHeartbeats 600000 in
theorem l8Steps_any (h l : List UInt8) (v : Int) (n : Nat) (w : World) (hv : 0 ≤ v ∧ v < 4) (hn : n ≤ 1000000) (hlt : h.length ≤ n) :
    Calls Tryd.prog 26 #[.int .i64 v, .int .i64 n, .int .i64 (l.length : Nat)] w (PtT h l v n w) := by
  have hP : Hid (ptP h l v n = (⟨4, 0, 0, 0, 0, 0, 0, 0, 0⟩, .cons ⟨2, 0, 0, -uq v 0, -uq v 1, -uq v 2, -uq v 3, n, 0⟩ .nil (.cons ⟨2, 2, (l.length : Nat), uq v 0, uq v 1, uq v 2, uq v 3, -(n : Int), 0⟩ .nil .nil))) := Lib.hid (by unfold ptP; rw [if_neg (by omega)])
  have HS := Lib.hid fun w => l6Single_any v 1 w hv
  have HM := Lib.hid fun w => l6Single_any v (-1) w hv
  rw [uq_neg, uq_neg, uq_neg, uq_neg] at HM
  have hwn : IntKind.i64.wrap (-(n : Int)) = -(n : Int) := by rw [IntKind.wrap_i64]; omega
  have hwm : wrap64 (-(n : Int)) = -(n : Int) := by unfold wrap64; omega
  obtain ⟨a, ha⟩ : ∃ a, uq v 0 = a := ⟨_, rfl⟩
  obtain ⟨b, hb⟩ : ∃ a, uq v 1 = a := ⟨_, rfl⟩
  obtain ⟨c, hc⟩ : ∃ a, uq v 2 = a := ⟨_, rfl⟩
  obtain ⟨d, hd⟩ : ∃ a, uq v 3 = a := ⟨_, rfl⟩
  rw [ha, hb, hc, hd] at hP HM
  unfold uq at ha hb hc hd
  rw [ha, hb, hc, hd] at HS
  obtain ⟨a', ha'⟩ : ∃ z, -a = z := ⟨_, rfl⟩
  obtain ⟨b', hb'⟩ : ∃ z, -b = z := ⟨_, rfl⟩
  obtain ⟨c', hc'⟩ : ∃ z, -c = z := ⟨_, rfl⟩
  obtain ⟨d', hd'⟩ : ∃ z, -d = z := ⟨_, rfl⟩
  rw [ha', hb', hc', hd'] at hP HM
  obtain ⟨z, hz⟩ : ∃ z, -(n : Int) = z := ⟨_, rfl⟩
  rw [hz] at hwn hwm hP
  obtain ⟨m, hm⟩ : ∃ m : Int, ((l.length : Nat) : Int) = m := ⟨_, rfl⟩
  rw [hm] at hP ⊢
  unfold PtT
  rw [hP.out]
  clear ha hb hc hd ha' hb' hc' hd' hlt hn hv hP hm
  go_enter Tryd.func26, Tryd.ntmps26
  go_wp2_with fail
  generalize hW : World.alloc _ _ = W
  have hzz : C10 W w.heap.size ⟨0, 0, 0, 0, 0, 0, 0, 0, 0⟩ (.slice none 0 0) := by subst hW; exact (by refine ⟨?_, ?_, ?_, ?_, ?_, ?_, ?_, ?_, ?_, ?_, ?_⟩ <;> first | (simp [go_sem]; done) | (simp; omega))
  have fz : ∀ o, W.frozen? ⟨w.heap.size, o, none⟩ = false := by intro o; subst hW; simp [go_sem]
  have hw : Below w.heap.size w W := by subst hW; go_grown
  clear hW
  refine (HM.out _).mono ?_
  rintro e w1 ⟨rfl, hb1⟩
  have hz1 := c10_on hzz hb1
  have fz1 := fz_onk hb1 hzz.1 fz
  have hw1 := below_on hw hb1
  clear hzz fz hw hb1
  go_upto_region 2 with fail
  generalize hW : World.alloc w1 _ = W2
  obtain ⟨hx, fx, hb2, hs2⟩ := c5_alloc hW
  have hz2 := c10_on hz1 hb2
  have fz2 := fz_onk hb2 hz1.1 fz1
  have hw2 := below_on hw1 hb2
  have hne : w.heap.size < w1.heap.size := hz1.1
  clear hW hz1 fz1 hw1 hb2
  obtain ⟨x0, q0, q1, q2, q3, q4⟩ := id hx
  go_upto_region 3 with fail
  generalize hW : World.setCell _ _ _ = W3
  obtain ⟨hx3, hs3, hk3⟩ := c5_put4 hW hx
  have hw3 : Below w.heap.size w W3 := by subst hW; exact hw2.setCell (by dsimp only; omega) _
  have hz3 := c10_putk hk3 hs3 hz2 (by omega)
  have fz3 := fz_putk hk3 (by omega) fz2
  clear hW hx fx hk3 hz2 fz2 hw2 x0 q0 q1 q2 q3 q4
  go_wp2_with fail
  refine (HS.out _).mono ?_
  rintro e w4 ⟨rfl, hb4⟩
  have hz4 := c10_on hz3 hb4
  have fz4 := fz_onk hb4 hz3.1 fz3
  have hw4 := below_on hw3 hb4
  have hx4 := c5_on hx3 hb4
  clear hz3 fz3 hw3 hx3 hb4
  go_upto_region 4 with fail
  generalize hW : World.alloc w4 _ = W5
  obtain ⟨hy, fy, hb5, hs5⟩ := c5_alloc hW
  have hz5 := c10_on hz4 hb5
  have fz5 := fz_onk hb5 hz4.1 fz4
  have hw5 := below_on hw4 hb5
  have hx5 := c5_on hx4 hb5
  have hne2 : w.heap.size < w4.heap.size := hz4.1
  have hne3 : w1.heap.size < w4.heap.size := hx4.1
  clear hW hz4 fz4 hw4 hx4 hb5
  obtain ⟨x0, q0, q1, q2, q3, q4⟩ := id hy
  go_upto_region 5 with fail
  generalize hW : World.setCell _ _ _ = W6
  obtain ⟨hy6, hs6, hk6⟩ := c5_put4 hW hy
  have hw6 : Below w.heap.size w W6 := by subst hW; exact hw5.setCell (by dsimp only; omega) _
  have hz6 := c10_putk hk6 hs6 hz5 (by omega)
  have fz6 := fz_putk hk6 (by omega) fz5
  have hx6 := c5_putk hk6 hs6 hx5 (by omega)
  clear hW hy fy hk6 hz5 fz5 hw5 hx5 x0 q0 q1 q2 q3 q4
  have cx := hx6.2
  have cy := hy6.2
  have hbb : Below W6.heap.size W6 W6 := Below.refl _ _
  go_wp2_with fail
  refine wp_region_held_drew (S := (fun w' => (w'.cell? ⟨w1.heap.size, 0, none⟩ = some (.int .i64 a') ∧ w'.cell? ⟨w1.heap.size, 1, none⟩ = some (.int .i64 b') ∧ w'.cell? ⟨w1.heap.size, 2, none⟩ = some (.int .i64 c') ∧ w'.cell? ⟨w1.heap.size, 3, none⟩ = some (.int .i64 d') ∧ w'.cell? ⟨w1.heap.size, 4, none⟩ = some (.int .i64 n)) ∧ w'.cell? ⟨w4.heap.size, 0, none⟩ = some (.int .i64 a) ∧ w'.cell? ⟨w4.heap.size, 1, none⟩ = some (.int .i64 b) ∧ w'.cell? ⟨w4.heap.size, 2, none⟩ = some (.int .i64 c) ∧ w'.cell? ⟨w4.heap.size, 3, none⟩ = some (.int .i64 d) ∧ w'.cell? ⟨w4.heap.size, 4, none⟩ = some (.int .i64 z))) (by kernel_rfl) ?_ (fun hHeld => ?_)
  · try dsimp only
    first | (refine cells55 hx6 hy6 ?_; go_grown; done) | (exact cells55s (q := ⟨4, 0, 0, 0, 0, 0, 0, 0, 0⟩) (t := .slice ta tn tc) hz8 hx8 hy8 (Nat.ne_of_gt hne) (Nat.ne_of_gt hne2) rfl)
  refine wpAnyH_take (i := 0) (oi := { dst := some 18, op := Go.Op.load 26 (Go.Operand.tmp 7), type := 26, pos := "l8_onevar.go:82", after := #[], guard := none }) (v := ?_) rfl (by kernel_rfl) (by kernel_rfl) (by kernel_rfl) (fun _ _ _ h => h) (Or.inl ⟨by rfl, ?_⟩) (by assumption) ?_
  rotate_left
  · (intro w hSw; (try dsimp only at hSw); first | (go_simp; done) | (go_simp; with_reducible rfl))
  try simp only [Act.put, List.setIfInBounds_toArray, List.set_cons_zero, List.set_cons_succ]
  refine wpAnyH_take (i := 1) (oi := { dst := some 19, op := Go.Op.build 28 #[(2, Go.Operand.tmp 18)], type := 28, pos := "l8_onevar.go:82", after := #[{ on := 0, ground := Go.Ground.data }], guard := none }) (v := ?_) rfl (by kernel_rfl) (by kernel_rfl) (by kernel_rfl) (fun _ _ _ h => h) (Or.inl ⟨by rfl, ?_⟩) (by assumption) ?_
  rotate_left
  · (intro w hSw; (try dsimp only at hSw); first | (go_simp; done) | (go_simp; with_reducible rfl))
  try simp only [Act.put, List.setIfInBounds_toArray, List.set_cons_zero, List.set_cons_succ]
  refine wpAnyH_take (i := 3) (oi := { dst := some 21, op := Go.Op.move (Go.Operand.tmp 2), type := 3, pos := "l8_onevar.go:82", after := #[], guard := none }) (v := ?_) rfl (by kernel_rfl) (by kernel_rfl) (by kernel_rfl) (fun _ _ _ h => h) (Or.inl ⟨by rfl, ?_⟩) (by assumption) ?_
  rotate_left
  · (intro w hSw; (try dsimp only at hSw); first | (go_simp; done) | (go_simp; with_reducible rfl))
  try simp only [Act.put, List.setIfInBounds_toArray, List.set_cons_zero, List.set_cons_succ]
  refine wpAnyH_take (i := 4) (oi := { dst := some 22, op := Go.Op.load 26 (Go.Operand.tmp 8), type := 26, pos := "l8_onevar.go:82", after := #[], guard := none }) (v := ?_) rfl (by kernel_rfl) (by kernel_rfl) (by kernel_rfl) (fun _ _ _ h => h) (Or.inl ⟨by rfl, ?_⟩) (by assumption) ?_
  rotate_left
  · (intro w hSw; (try dsimp only at hSw); first | (go_simp; done) | (go_simp; with_reducible rfl))
  try simp only [Act.put, List.setIfInBounds_toArray, List.set_cons_zero, List.set_cons_succ]
  refine wpAnyH_take (i := 5) (oi := { dst := some 23, op := Go.Op.build 28 #[(0, Go.Operand.const (Go.Value.int Go.IntKind.i64 2)), (1, Go.Operand.tmp 21), (2, Go.Operand.tmp 22)], type := 28, pos := "l8_onevar.go:82", after := #[{ on := 3, ground := Go.Ground.data }, { on := 4, ground := Go.Ground.data }], guard := none }) (v := ?_) rfl (by kernel_rfl) (by kernel_rfl) (by kernel_rfl) (fun _ _ _ h => h) (Or.inl ⟨by rfl, ?_⟩) (by assumption) ?_
  rotate_left
  · (intro w hSw; (try dsimp only at hSw); first | (go_simp; done) | (go_simp; with_reducible rfl))
  try simp only [Act.put, List.setIfInBounds_toArray, List.set_cons_zero, List.set_cons_succ]
  refine wpAnyH_ready (rs := [2]) (by kernel_rfl) (by simp) ?_
  refine AllReadyH.cons (o := { dst := some 20, op := Go.Op.call { callee := Go.Callee.value (Go.Operand.func 40), args := #[Go.Operand.tmp 19], argTypes := #[28] }, type := 31, pos := "l8_onevar.go:82", after := #[{ on := 1, ground := Go.Ground.data }], guard := none }) rfl (fun K hK => ?_) AllReadyH.nil
  go_simp
  (go_at_call 40; (first | (with_reducible refine (atom_t 0 0 a' b' c' d' n _).mono ?_) | (with_reducible refine (atom_t 2 m a b c d z _).mono ?_)); rintro e w7 ⟨rfl, hb7⟩; have hbb := below_on (w := W6) (by go_grown) hb7; clear hb7)
  (try go_wp2_with fail)
  refine hK.out _ _ ?_ (fun hHeld => ?_)
  · try dsimp only
    first | (refine cells55 hx6 hy6 ?_; go_grown; done) | (exact cells55s (q := ⟨4, 0, 0, 0, 0, 0, 0, 0, 0⟩) (t := .slice ta tn tc) hz8 hx8 hy8 (Nat.ne_of_gt hne) (Nat.ne_of_gt hne2) rfl)
  clear hK K
  try simp only [Act.put, List.setIfInBounds_toArray, List.set_cons_zero, List.set_cons_succ]
  refine wpAnyH_ready (rs := [6]) (by kernel_rfl) (by simp) ?_
  refine AllReadyH.cons (o := { dst := some 24, op := Go.Op.call { callee := Go.Callee.value (Go.Operand.func 40), args := #[Go.Operand.tmp 23], argTypes := #[28] }, type := 31, pos := "l8_onevar.go:82", after := #[{ on := 5, ground := Go.Ground.data }, { on := 2, ground := Go.Ground.chain }], guard := none }) rfl (fun K hK => ?_) AllReadyH.nil
  go_simp
  (go_at_call 40; (first | (with_reducible refine (atom_t 0 0 a' b' c' d' n _).mono ?_) | (with_reducible refine (atom_t 2 m a b c d z _).mono ?_)); rintro e w7 ⟨rfl, hb7⟩; have hbb := below_on (w := W6) (by go_grown) hb7; clear hb7)
  (try go_wp2_with fail)
  refine hK.out _ _ ?_ (fun hHeld => ?_)
  · try dsimp only
    first | (refine cells55 hx6 hy6 ?_; go_grown; done) | (exact cells55s (q := ⟨4, 0, 0, 0, 0, 0, 0, 0, 0⟩) (t := .slice ta tn tc) hz8 hx8 hy8 (Nat.ne_of_gt hne) (Nat.ne_of_gt hne2) rfl)
  clear hK K
  try simp only [Act.put, List.setIfInBounds_toArray, List.set_cons_zero, List.set_cons_succ]
  refine wpAnyH_ready (rs := [7]) (by kernel_rfl) (by simp) ?_
  refine AllReadyH.cons (o := { dst := some 25, op := Go.Op.call { callee := Go.Callee.value (Go.Operand.func 41), args := #[Go.Operand.const (Go.Value.int Go.IntKind.i64 4), Go.Operand.tmp 20, Go.Operand.tmp 24], argTypes := #[3, 31, 31] }, type := 31, pos := "l8_onevar.go:82", after := #[{ on := 2, ground := Go.Ground.data }, { on := 6, ground := Go.Ground.data }, { on := 6, ground := Go.Ground.chain }], guard := none }) rfl (fun K hK => ?_) AllReadyH.nil
  go_simp
  (go_at_call 41; refine (two_t (w.heap.size + 1) 4 ⟨2, 0, 0, a', b', c', d', n, 0⟩ ⟨2, 2, m, a, b, c, d, z, 0⟩ .nil .nil _ _ _ (by have := hbb.size; have := hz6.1; omega) (fs_nil _ _) (fs_nil _ _)).mono ?_; rintro e w8 ⟨s8, rfl, hs8', hb8⟩; obtain ⟨ta, tn, tc, rfl⟩ := hs8'.slice; have HS8 := Lib.hid hs8'; have hbb8 := below_on hbb hb8; have hz8 := c10_on hz6 hbb8; have fz8 := fz_onk hbb8 hz6.1 fz6; have hx8 := c5_on hx6 hbb8; have hy8 := c5_on hy6 hbb8; obtain ⟨z0, e0, e1, e2, e3, e4, e5, e6, e7, e8, e9⟩ := id hz8; clear hs8' hb8)
  (try go_wp2_with fail)
  refine hK.out _ _ ?_ (fun hHeld => ?_)
  · try dsimp only
    first | (refine cells55 hx6 hy6 ?_; go_grown; done) | (exact cells55s (q := ⟨4, 0, 0, 0, 0, 0, 0, 0, 0⟩) (t := .slice ta tn tc) hz8 hx8 hy8 (Nat.ne_of_gt hne) (Nat.ne_of_gt hne2) rfl)
  clear hK K
  try simp only [Act.put, List.setIfInBounds_toArray, List.set_cons_zero, List.set_cons_succ]
  refine wpAnyH_ready (rs := [8]) (by kernel_rfl) (by simp) ?_
  refine AllReadyH.cons (o := { dst := none, op := Go.Op.store 31 (Go.Operand.tmp 6) (Go.Operand.tmp 25), type := 0, pos := "l8_onevar.go:82", after := #[{ on := 7, ground := Go.Ground.data }, { on := 7, ground := Go.Ground.chain }, { on := 0, ground := Go.Ground.phase }, { on := 1, ground := Go.Ground.phase }, { on := 2, ground := Go.Ground.phase }, { on := 3, ground := Go.Ground.phase }, { on := 4, ground := Go.Ground.phase }, { on := 5, ground := Go.Ground.phase }, { on := 6, ground := Go.Ground.phase }, { on := 7, ground := Go.Ground.phase }], guard := none }) rfl (fun K hK => ?_) AllReadyH.nil
  go_simp
  refine hK.out _ _ ?_ (fun hHeld => ?_)
  · try dsimp only
    first | (refine cells55 hx6 hy6 ?_; go_grown; done) | (exact cells55s (q := ⟨4, 0, 0, 0, 0, 0, 0, 0, 0⟩) (t := .slice ta tn tc) hz8 hx8 hy8 (Nat.ne_of_gt hne) (Nat.ne_of_gt hne2) rfl)
  clear hK K
  try simp only [Act.put, List.setIfInBounds_toArray, List.set_cons_zero, List.set_cons_succ]
  refine wpAnyH_done (by kernel_rfl) ?_ _
  generalize hW9 : World.setCell _ _ _ = W9
  obtain ⟨hz9, hk9, hs9, _⟩ := ten_set (g := ⟨4, 0, 0, 0, 0, 0, 0, 0, 0⟩) hz8 hW9
  have hw9 : Below w.heap.size w W9 := by subst hW9; have hw8 := below_on hw6 hbb8; go_grown
  have HS9 := Lib.hid (FS.mono (lo' := w.heap.size) (Nat.le_succ _) (FS.kept (w' := W9) (Nat.le_of_eq hs9.symm) (fun k hk _ => hk9 k (by omega)) HS8.out))
  obtain ⟨y0, y1, y2, y3, y4, y5, y6, y7, y8, y9, y10⟩ := hz9
  go_wp2
  refine bodyPost_ret (v := .agg #[.int .i64 4, .int .i64 0, .int .i64 0, .int .i64 0, .int .i64 0, .int .i64 0, .int .i64 0, .int .i64 0, .int .i64 0, .slice ta tn tc]) (by simp [results, Tryd.results26, go_sem, y1, y2, y3, y4, y5, y6, y7, y8, y9, y10]) rfl ⟨_, rfl, HS9.out, hw9⟩
end Go.Proofs.YtmkflokcficmoaaDoor

/- The model's FormulaOfSet. -/
namespace Go.Proofs.YtmkflokcficmoaaDoor
open Go.RowKit

def fsL (h l : List UInt8) (v : Int) : Fo := ptL h l v (blN (atS h l) (h.length + l.length))
def fsQ (h l : List UInt8) (v : Int) : Bool := svS h l && varB v
def fsR (h l : List UInt8) (v : Int) : FH × Fo := if fsQ h l v = true then jR false (fsL h l v) else (⟨0, 0, 0, 0, 0, 0, 0, 0, 0⟩, .nil)
def fsB (h l : List UInt8) (v : Int) : Bool := fsQ h l v && jB false (fsL h l v)
theorem fsR_size (h l : List UInt8) (v : Int) : (fsR h l v).2.size ≤ 600 := by
  unfold fsR
  split
  · exact jR_size _ _
  · decide
theorem fsL_size {h l : List UInt8} (v : Int) (hh : h.length ≤ 1000) (hl : l.length ≤ 1000) : (fsL h l v).size ≤ 6000 := by
  have h1 := ptL_size h l v (blN (atS h l) (h.length + l.length))
  have h2 := bl_len (atS h l) (h.length + l.length)
  unfold fsL
  omega
def FsT (q : FH × Fo) (b : Bool) (w : World) (e : Ending) (w' : World) : Prop := ∃ s, e = .returned (.tuple #[.agg #[.int .i64 q.1.k, .int .i64 q.1.ak, .int .i64 q.1.am, .int .i64 q.1.a, .int .i64 q.1.b, .int .i64 q.1.c, .int .i64 q.1.d, .int .i64 q.1.n, .int .i64 q.1.v, s], .bool b]) ∧ FS w' w.heap.size q.2 s ∧ Below w.heap.size w w'
theorem fown_lit {w : World} {B lo : Nat} (hB : B ≤ w.heap.size) : FOwn (w.alloc (.cells #[] 31)) B lo (.slice (some ⟨w.heap.size, 0, none⟩) 0 0) .nil :=
  ⟨[], by have := World.ownsRow_lit (base := B) (e := 31) (size := 10) w #[] 0 hB (Nat.zero_le _) rfl; simpa [Fo.len] using this, .inr ⟨_, 0, rfl, trivial⟩⟩
theorem pt_fsp {w3 w4 : World} {lo B : Nat} {n : Nat} {f : Fo} {s : Value} (h : FS w4 w3.heap.size f s) (hlo : lo ≤ w3.heap.size) (hn : n ≤ w3.heap.size) : FSP w4 (fun k => lo ≤ k ∧ (k < B ∨ n ≤ k) ∧ k < w4.heap.size) f s :=
  FSP.kept (Nat.le_refl _) (fun _ _ _ => rfl) (fun k hk => ⟨by have := hk.1; omega, .inr (by have := hk.1; omega), hk.2⟩) (FSP.of h)
theorem s2_low {W w' : World} {B b : Nat} {x y : ByteArray} (h : S2 W b x y) (hb : Below B W w') (hlt : b < B) : S2 w' b x y :=
  have hk := hb.block b hlt
  ⟨Nat.lt_of_lt_of_le h.1 hb.size, (World.cell?_of_block hk).trans h.2.1, (World.cell?_of_block hk).trans h.2.2.1, fun o => (World.frozen?_of_block hk).trans (h.2.2.2 o)⟩
theorem c10_low {W w' : World} {B b : Nat} {h : FH} {s : Value} (hz : C10 W b h s) (hb : Below B W w') (hlt : b < B) : C10 w' b h s := by
  have hk := hb.block b hlt
  have hcz : ∀ o, w'.cell? ⟨b, o, none⟩ = W.cell? ⟨b, o, none⟩ := fun o => World.cell?_of_block hk
  exact ⟨Nat.lt_of_lt_of_le hz.1 hb.size, by simpa only [hcz] using hz.2⟩
theorem fz_low {W w' : World} {B b : Nat} (hb : Below B W w') (hlt : b < B) (fz : ∀ o, W.frozen? ⟨b, o, none⟩ = false) : ∀ o, w'.frozen? ⟨b, o, none⟩ = false := fun o => (World.frozen?_of_block (hb.block b hlt)).trans (fz o)

set_option maxRecDepth 10000 in
set_option maxHeartbeats 1000000 in
theorem l8Raw_any (h l : List UInt8) (v : Int) (w : World) (hh : h.length ≤ 1000000000) (hl : l.length ≤ 1000000000) :
    Calls Tryd.prog 11 #[.agg #[.string (bs h), .string (bs l)], .int .i64 v] w (FsT (fsR h l v) (fsB h l v) w) := by
  have HV := Lib.hid fun w => specSetValid_b h l w hh hl
  have HX := Lib.hid fun w => l1Var_any v w
  obtain ⟨p, hp⟩ : ∃ p, svS h l = p := ⟨_, rfl⟩
  obtain ⟨q, hq⟩ : ∃ q, varB v = q := ⟨_, rfl⟩
  rw [hp] at HV
  rw [hq] at HX
  have HP := Lib.hid hp
  have HQ := Lib.hid hq
  have hs1 := bs_size h
  have hs2 := bs_size l
  clear hp hq
  go_enter Tryd.func11, Tryd.ntmps11
  go_wp2_with fail
  generalize hW : World.alloc w _ = W
  obtain ⟨hx, hsx, hwx⟩ := s2_new hW
  clear hW
  generalize hW : World.alloc W _ = W2
  have hzz : C10 W2 W.heap.size ⟨0, 0, 0, 0, 0, 0, 0, 0, 0⟩ (.slice none 0 0) := by subst hW; exact (by refine ⟨?_, ?_, ?_, ?_, ?_, ?_, ?_, ?_, ?_, ?_, ?_⟩ <;> first | (simp [go_sem]; done) | (simp; omega))
  have fz : ∀ o, W2.frozen? ⟨W.heap.size, o, none⟩ = false := by intro o; subst hW; simp [go_sem]
  have hwz : Below W.heap.size W W2 := by subst hW; go_grown
  have HS2 : Hid (W2.heap.size = w.heap.size + 1 + 1) := Lib.hid (by subst hW; simp [hsx])
  rw [hsx] at hzz fz
  have hx2 := s2_on hx hwz
  have hb2 := below_on hwx hwz
  clear hW hx hwx hwz hsx
  generalize hW3 : World.alloc W2 _ = W3
  have hown : FOwn W3 W2.heap.size W2.heap.size (.slice (some ⟨W2.heap.size, 0, none⟩) 0 0) .nil := by subst hW3; exact fown_lit (Nat.le_refl _)
  have hbw : Below W2.heap.size W2 W3 := by subst hW3; go_grown
  have hx3 := s2_on hx2 hbw
  have hz3 := c10_on hzz hbw
  have fz3 := fz_onk hbw hzz.1 fz
  have hb3 := below_on hb2 hbw
  have hz0 := hzz.1
  have hsW3 := hbw.size
  clear hW3 hbw hx2 hzz fz hb2
  obtain ⟨x0, x1, x2, x3⟩ := id hx3
  refine (HV.out _).mono ?_
  rintro e w4 ⟨rfl, hb4⟩
  have hx4 := s2_on hx3 hb4
  have hz4 := c10_on hz3 hb4
  have fz4 := fz_onk hb4 hz3.1 fz3
  have k4 := below_on hb3 hb4
  have ho4 := fown_below hown hb4
  have HSZ : Hid (W2.heap.size ≤ w4.heap.size) := Lib.hid (by have := hb4.size; have := hsW3; omega)
  clear x0 x1 x2 x3 hx3 hz3 fz3 hb3 hown hb4
  cases p with
  | false =>
    obtain ⟨z0, e0, e1, e2, e3, e4, e5, e6, e7, e8, e9⟩ := id hz4
    go_wp2
    generalize hW7 : World.setCell _ _ _ = W7
    obtain ⟨hz7, _, _, _⟩ := ten_set (g := ⟨0, 0, 0, 0, 0, 0, 0, 0, 0⟩) hz4 hW7
    have hw7 : Below w.heap.size w W7 := by subst hW7; go_grown
    obtain ⟨y0, y1, y2, y3, y4, y5, y6, y7, y8, y9, y10⟩ := hz7
    have hr : fsR h l v = (⟨0, 0, 0, 0, 0, 0, 0, 0, 0⟩, .nil) := by unfold fsR fsQ; rw [HP.out, HQ.out]; rfl
    have hbb : fsB h l v = false := by unfold fsB fsQ; rw [HP.out, HQ.out]; rfl
    refine bodyPost_ret (v := .tuple #[.agg #[.int .i64 0, .int .i64 0, .int .i64 0, .int .i64 0, .int .i64 0, .int .i64 0, .int .i64 0, .int .i64 0, .int .i64 0, .slice none 0 0], .bool false]) (by simp [results, Tryd.results11, go_sem, y1, y2, y3, y4, y5, y6, y7, y8, y9, y10]) rfl ?_
    unfold FsT
    rw [hr, hbb]
    exact ⟨_, rfl, fs_nil _ _, hw7⟩
  | true =>
    go_wp2_with fail
    refine (HX.out _).mono ?_
    rintro e w' ⟨rfl, rfl⟩
    cases q with
    | false =>
      obtain ⟨z0, e0, e1, e2, e3, e4, e5, e6, e7, e8, e9⟩ := id hz4
      go_wp2
      generalize hW7 : World.setCell _ _ _ = W7
      obtain ⟨hz7, _, _, _⟩ := ten_set (g := ⟨0, 0, 0, 0, 0, 0, 0, 0, 0⟩) hz4 hW7
      have hw7 : Below w.heap.size w W7 := by subst hW7; go_grown
      obtain ⟨y0, y1, y2, y3, y4, y5, y6, y7, y8, y9, y10⟩ := hz7
      have hr : fsR h l v = (⟨0, 0, 0, 0, 0, 0, 0, 0, 0⟩, .nil) := by unfold fsR fsQ; rw [HP.out, HQ.out]; rfl
      have hbb : fsB h l v = false := by unfold fsB fsQ; rw [HP.out, HQ.out]; rfl
      refine bodyPost_ret (v := .tuple #[.agg #[.int .i64 0, .int .i64 0, .int .i64 0, .int .i64 0, .int .i64 0, .int .i64 0, .int .i64 0, .int .i64 0, .int .i64 0, .slice none 0 0], .bool false]) (by simp [results, Tryd.results11, go_sem, y1, y2, y3, y4, y5, y6, y7, y8, y9, y10]) rfl ?_
      unfold FsT
      rw [hr, hbb]
      exact ⟨_, rfl, fs_nil _ _, hw7⟩
    | true =>
      obtain ⟨_, _, v3, v5, v4, v6⟩ := svS_parts HP.out
      have hvv : 0 ≤ v ∧ v < 4 := by have := HQ.out; unfold varB at this; simpa using this
      have HHas := Lib.hid fun (n : Nat) (w : World) (hn : n ≤ 1000000) => l7Has_any h l n w v6 hh hl (by omega)
      have HNum := Lib.hid fun (n : Nat) (w : World) (hn : n ≤ 1000000) (hlt : n < h.length) => l8Number_any h l v n w hvv hn hlt
      have HSt := Lib.hid fun (n : Nat) (w : World) (hn : n ≤ 1000000) (hlt : h.length ≤ n) => l8Steps_any h l v n w hvv hn hlt
      obtain ⟨hl', hhl⟩ : ∃ x, h.length = x := ⟨_, rfl⟩
      obtain ⟨ll, hll⟩ : ∃ x, l.length = x := ⟨_, rfl⟩
      rw [hhl] at hs1 v3 HNum HSt
      rw [hll] at hs2 v5 v4 HSt
      obtain ⟨N, hN⟩ : ∃ N, hl' + ll = N := ⟨_, rfl⟩
      have hwN : IntKind.i64.wrap ((hl' : Int) + (ll : Int)) = (N : Int) := by rw [IntKind.wrap_i64]; omega
      have HN : Hid (h.length + l.length = N) := Lib.hid (by rw [hhl, hll]; exact hN)
      have hNb : N ≤ 640 := by omega
      have hlN : hl' ≤ N := by omega
      have HL0 := Lib.hid hhl
      clear hhl hll hN hvv v6
      go_wp2_with fail
      go_loopw [6, 7] (fun lv i wr => ∃ k : Nat, i = .int .i64 k ∧ k ≤ N ∧ FOwn wr W2.heap.size W2.heap.size lv (ptL h l v (blN (atS h l) k)) ∧ S2 wr w.heap.size (bs h) (bs l) ∧ C10 wr (w.heap.size + 1) ⟨0, 0, 0, 0, 0, 0, 0, 0, 0⟩ (.slice none 0 0) ∧ (∀ o, wr.frozen? ⟨w.heap.size + 1, o, none⟩ = false) ∧ Below w.heap.size w wr ∧ W2.heap.size ≤ wr.heap.size) (fun _ i _ => N - (intOf i).toNat)
      case atStart =>
        refine ⟨0, rfl, Nat.zero_le _, ?_, hx4, hz4, fz4, k4, HSZ.out⟩
        rw [HS2.out] at ho4 ⊢
        exact ho4
      case round =>
        obtain ⟨k, rfl, hk, hown, hx, hz, fz, hb, hB⟩ := hrel
        clear ho4 hx4 hz4 fz4 k4
        obtain ⟨x0, x1, x2, x3⟩ := id hx
        by_cases hlt : k < N
        · have hk' : (k : Int) < (N : Int) := by omega
          have hwk : IntKind.i64.wrap ((k : Int) + 1) = ((k + 1 : Nat) : Int) := by rw [IntKind.wrap_i64]; omega
          have hbl := bl_len (atS h l) k
          obtain ⟨t, ht⟩ : ∃ t, inS (atS h l) k = t := ⟨_, rfl⟩
          have HH := Lib.hid (fun w => HHas.out k w (by omega))
          rw [ht] at HH
          go_wp2_with fail
          refine (HH.out _).mono ?_
          rintro e w5 ⟨rfl, hb5⟩
          have hx5 := s2_on hx hb5
          have hz5 := c10_on hz hb5
          have fz5 := fz_onk hb5 hz.1 fz
          have k5 := below_on hb hb5
          have hr5 := hb5.size
          clear x0 x1 x2 x3
          obtain ⟨x0, x1, x2, x3⟩ := id hx5
          cases t with
          | false =>
            have HOW : Hid (FOwn w5 W2.heap.size W2.heap.size _ (ptL h l v (blN (atS h l) (k + 1)))) := Lib.hid (by rw [bl_drop ht]; exact fown_below hown hb5)
            clear ht hown hx hz fz hb hb5 hbl
            go_wp2
            go_roundw
            case rel => exact ⟨k + 1, rfl, by omega, HOW.out, hx5, hz5, fz5, k5, by omega⟩
            case measure => simp [intOf]; omega
          | true =>
            by_cases hkl : k < hl'
            · have hkh :  (k : Int) < (hl' : Int) := by omega
              go_wp2_with fail
              refine (HNum.out k w5 (by omega) (by omega)).mono ?_
              rintro e w6 ⟨s6, rfl, hs6, hb6⟩
              obtain ⟨sa, sn, sc, rfl⟩ := hs6.slice
              obtain ⟨v7, w7, hr7, ho7, hb7⟩ := fown_app (ptP h l v k).1 (ptP h l v k).2 sa sn sc hown (by rw [ptL_len]; omega) (by have := hb6.size; omega) (below_on hb5 hb6) (pt_fsp hs6 (by omega) hr5)
              rw [← ptL_snoc, ← bl_keep ht] at ho7
              obtain ⟨pq, hpq⟩ : ∃ pq, ptP h l v k = pq := ⟨_, rfl⟩
              rw [hpq] at hr7 ⊢
              have HRUN := Lib.hid hr7
              clear hr7
              have hlen7 : (ptL h l v (blN (atS h l) k)).len ≤ 1000 := by rw [ptL_len]; omega
              obtain ⟨ga, gc, rfl⟩ := fown_slice hown
              have HOW := Lib.hid ho7
              have hz6 := c10_on hz5 hb6
              have fz6 := fz_onk hb6 hz5.1 fz5
              have hx6 := s2_on hx5 hb6
              have k6 := below_on k5 hb6
              have hr6 := hb6.size
              have hx7 := s2_low hx6 hb7 (by have := hz0; omega)
              have hz7 := c10_low hz6 hb7 (by have := hz0; omega)
              have fz7 := fz_low hb7 (by have := hz0; omega) fz6
              have k7 := k6.trans (hb7.mono (by have := hz0; omega))
              have hs7 : W2.heap.size ≤ w7.heap.size := by have := hb7.size; omega
              clear ho7 ht hown hx hz fz hb hb5 hbl hs6 hpq x0 x1 x2 x3 hx5 hz5 fz5 k5
              go_wp2_with (at_builtin; refine wpList_append_run rfl _ _ 29 rfl rfl rfl HRUN.out ?_)
              go_roundw
              case rel => exact ⟨k + 1, rfl, by omega, HOW.out, hx7, hz7, fz7, k7, hs7⟩
              case measure => simp [intOf]; omega
            · have hkh : ¬ (k : Int) < (hl' : Int) := by omega
              go_wp2_with fail
              refine (HSt.out k w5 (by omega) (by omega)).mono ?_
              rintro e w6 ⟨s6, rfl, hs6, hb6⟩
              obtain ⟨sa, sn, sc, rfl⟩ := hs6.slice
              obtain ⟨v7, w7, hr7, ho7, hb7⟩ := fown_app (ptP h l v k).1 (ptP h l v k).2 sa sn sc hown (by rw [ptL_len]; omega) (by have := hb6.size; omega) (below_on hb5 hb6) (pt_fsp hs6 (by omega) hr5)
              rw [← ptL_snoc, ← bl_keep ht] at ho7
              obtain ⟨pq, hpq⟩ : ∃ pq, ptP h l v k = pq := ⟨_, rfl⟩
              rw [hpq] at hr7 ⊢
              have HRUN := Lib.hid hr7
              clear hr7
              have hlen7 : (ptL h l v (blN (atS h l) k)).len ≤ 1000 := by rw [ptL_len]; omega
              obtain ⟨ga, gc, rfl⟩ := fown_slice hown
              have HOW := Lib.hid ho7
              have hz6 := c10_on hz5 hb6
              have fz6 := fz_onk hb6 hz5.1 fz5
              have hx6 := s2_on hx5 hb6
              have k6 := below_on k5 hb6
              have hr6 := hb6.size
              have hx7 := s2_low hx6 hb7 (by have := hz0; omega)
              have hz7 := c10_low hz6 hb7 (by have := hz0; omega)
              have fz7 := fz_low hb7 (by have := hz0; omega) fz6
              have k7 := k6.trans (hb7.mono (by have := hz0; omega))
              have hs7 : W2.heap.size ≤ w7.heap.size := by have := hb7.size; omega
              clear ho7 ht hown hx hz fz hb hb5 hbl hs6 hpq x0 x1 x2 x3 hx5 hz5 fz5 k5
              go_wp2_with (at_builtin; refine wpList_append_run rfl _ _ 29 rfl rfl rfl HRUN.out ?_)
              go_roundw
              case rel => exact ⟨k + 1, rfl, by omega, HOW.out, hx7, hz7, fz7, k7, hs7⟩
              case measure => simp [intOf]; omega
        · have hk' : ¬ (k : Int) < (N : Int) := by omega
          obtain rfl : k = N := by omega
          have HJ := Lib.hid (specJoinAny_any (ptL h l v (blN (atS h l) k)) wr W2.heap.size _ (by have h1 := ptL_size h l v (blN (atS h l) k); have h2 := bl_len (atS h l) k; omega) (fown_fs hown (Nat.le_refl _)))
          obtain ⟨ga, gc, rfl⟩ := fown_slice hown
          have hL : Hid (ptL h l v (blN (atS h l) k) = fsL h l v) := Lib.hid (by unfold fsL; rw [HN.out])
          have hlen : (ptL h l v (blN (atS h l) k)).len ≤ 1000 := by rw [ptL_len]; have := bl_len (atS h l) k; omega
          rw [hL.out] at HJ hlen ⊢
          obtain ⟨n, hn⟩ : ∃ n, (fsL h l v).len = n := ⟨_, rfl⟩
          rw [hn] at HJ hlen ⊢
          clear hown hn
          go_wp2_with fail
          refine HJ.out.mono ?_
          intro e w5 hpost
          obtain ⟨s5, rfl, hs5, hb5⟩ := js_of hpost
          obtain ⟨ta, tn, tc, rfl⟩ := hs5.slice
          have HS5 := Lib.hid hs5
          have hz5 := c10_on hz hb5
          have fz5 := fz_onk hb5 hz.1 fz
          have k5 := below_on hb hb5
          obtain ⟨z0, e0, e1, e2, e3, e4, e5, e6, e7, e8, e9⟩ := id hz5
          have hzlt := hz.1
          have hRR : Hid (fsR h l v = jR false (fsL h l v)) := Lib.hid (by unfold fsR fsQ; rw [HP.out, HQ.out]; rfl)
          have hBB : Hid (fsB h l v = jB false (fsL h l v)) := Lib.hid (by unfold fsB fsQ; rw [HP.out, HQ.out]; rfl)
          obtain ⟨r, hr⟩ : ∃ r, jR false (fsL h l v) = r := ⟨_, rfl⟩
          obtain ⟨bj, hbj⟩ : ∃ b, jB false (fsL h l v) = b := ⟨_, rfl⟩
          have HRr := Lib.hid hr
          have HBj := Lib.hid hbj
          rw [hr] at HS5 ⊢
          rw [hbj]
          clear hs5 hpost hb5 hz fz hb x0 x1 x2 x3 hr hbj hx
          go_wp2
          generalize hW7 : World.setCell _ _ _ = W7
          obtain ⟨hz7, hk7, hs7, _⟩ := ten_set (g := r.1) hz5 hW7
          have hw7 : Below w.heap.size w W7 := by subst hW7; go_grown
          have HS7 := Lib.hid (FS.mono (lo' := w.heap.size) (by omega) (FS.kept (w' := W7) (Nat.le_of_eq hs7.symm) (fun k hk _ => hk7 k (by omega)) HS5.out))
          obtain ⟨y0, y1, y2, y3, y4, y5, y6, y7, y8, y9, y10⟩ := hz7
          refine bodyPost_ret (v := .tuple #[.agg #[.int .i64 r.1.k, .int .i64 r.1.ak, .int .i64 r.1.am, .int .i64 r.1.a, .int .i64 r.1.b, .int .i64 r.1.c, .int .i64 r.1.d, .int .i64 r.1.n, .int .i64 r.1.v, .slice ta tn tc], .bool bj]) (by simp [results, Tryd.results11, go_sem, y1, y2, y3, y4, y5, y6, y7, y8, y9, y10]) rfl ?_
          show FsT _ _ _ _ _
          unfold FsT
          rw [hRR.out, hBB.out, HRr.out, HBj.out]
          exact ⟨_, rfl, HS7.out, hw7⟩
end Go.Proofs.YtmkflokcficmoaaDoor
