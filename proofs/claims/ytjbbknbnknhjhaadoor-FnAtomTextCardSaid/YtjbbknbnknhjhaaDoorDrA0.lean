/- The boxes of a drawn atom. -/
import Derived.Test.YtjbbknbnknhjhaaDoorDrTx
import Derived.Test.YtjbbknbnknhjhaaDoorAtJ
import Derived.Deep.RegionHeld3
namespace Go.Proofs.YtjbbknbnknhjhaaDoor
open Go.RowKit

def AtomT (r : Nat) (p K : Int) (w : World) (e : Ending) (w' : World) : Prop := ∃ k m a b c d n : Int, e = .returned (.agg #[.int .i64 k, .int .i64 m, .int .i64 a, .int .i64 b, .int .i64 c, .int .i64 d, .int .i64 n]) ∧ Turned r p K w w'
def AtomV (r : Nat) (p K : Int) (w : World) (e : Ending) (w' : World) : Prop := ∃ k m a b c d n : Int, e = .returned (.agg #[.int .i64 k, .int .i64 m, .int .i64 a, .int .i64 b, .int .i64 c, .int .i64 d, .int .i64 n]) ∧ avB k m a b c d n = true ∧ Turned r p K w w'
theorem av_of {k m a b c d n : Int} (h : tvB a b c d n = true) (hk : (k = 0 ∨ k = 1) ∧ m = 0 ∨ (k = 2 ∨ k = 3) ∧ 1 ≤ m ∧ m ≤ 100) : avB k m a b c d n = true := by
  unfold avB
  rw [h]
  rcases hk with ⟨h1, rfl⟩ | ⟨h1, h2, h3⟩
  · rw [if_pos h1]; rfl
  · rw [if_neg (by omega), if_pos h1]; simp [inB, h2, h3]
def ScV (w : World) (e : Ending) (w' : World) : Prop := ∃ (k m a b c d n : Int) (ok : Bool), e = .returned (.tuple #[.agg #[.int .i64 k, .int .i64 m, .int .i64 a, .int .i64 b, .int .i64 c, .int .i64 d, .int .i64 n], .bool ok]) ∧ (ok = true → avB k m a b c d n = true) ∧ Below w.heap.size w w'
theorem specScale_v (k m a b c d n K : Int) (w : World) : Calls Tryd.prog 54 #[.agg #[.int .i64 k, .int .i64 m, .int .i64 a, .int .i64 b, .int .i64 c, .int .i64 d, .int .i64 n], .int .i64 K] w (ScV w) := by
  by_cases h : (avB k m a b c d n && inB K 1 100) = true
  · obtain ⟨h1, h2⟩ : avB k m a b c d n = true ∧ inB K 1 100 = true := by simpa using h
    have hK : 1 ≤ K ∧ K ≤ 100 := by simpa [inB] using h2
    by_cases h3 : avB k (m * K) (a * K) (b * K) (c * K) (d * K) (n * K) = true
    · exact (specScaleAtom_in k m a b c d n K _ _ _ _ _ _ _ _ _ _ _ _ true w h1 hK.1 hK.2 rfl rfl rfl rfl rfl (Lib.hid fun W => l2One_yes _ _ _ _ _ _ _ W h3)).mono fun _ _ ⟨he, hb⟩ => ⟨_, _, _, _, _, _, _, _, he, fun _ => h3, hb⟩
    · have h4 : avB k (m * K) (a * K) (b * K) (c * K) (d * K) (n * K) = false := by simpa using h3
      exact (specScaleAtom_in k m a b c d n K _ _ _ _ _ _ _ _ _ _ _ _ false w h1 hK.1 hK.2 rfl rfl rfl rfl rfl (Lib.hid fun W => l2One_no _ _ _ _ _ _ _ W h4)).mono fun _ _ ⟨he, hb⟩ => ⟨_, _, _, _, _, _, _, _, he, fun h => (by cases h), hb⟩
  · have h4 : (avB k m a b c d n && inB K 1 100) = false := by simpa using h
    exact (specScaleAtom_bad k m a b c d n K w h4).mono fun _ _ ⟨he, hb⟩ => ⟨_, _, _, _, _, _, _, _, he, fun h => (by cases h), hb⟩

theorem c7_only {w w' : World} {r x : Nat} {k m a b c d n : Int} (h : C7 w x k m a b c d n) (hg : w.grownBy w' (some r)) (hne : x ≠ r) : C7 w' x k m a b c d n :=
  have f : ∀ o, w'.cell? ⟨x, o, none⟩ = w.cell? ⟨x, o, none⟩ := fun _ => cell_only hg h.1 hne
  ⟨Nat.lt_of_lt_of_le h.1 hg.size, (f 0).trans h.2.1, (f 1).trans h.2.2.1, (f 2).trans h.2.2.2.1, (f 3).trans h.2.2.2.2.1, (f 4).trans h.2.2.2.2.2.1, (f 5).trans h.2.2.2.2.2.2.1, (f 6).trans h.2.2.2.2.2.2.2⟩

/-- While l2Some draws: the atom's box, the result's box, and that only the reader has turned. -/
def L2 (w : World) (r : Nat) (p K : Int) (x z : Nat) (k m a b c d n : Int) (W : World) : Prop :=
  C7 W x k m a b c d n ∧ Hid (∀ o, W.frozen? ⟨x, o, none⟩ = false) ∧ C7 W z 0 0 0 0 0 0 0 ∧ Hid (∀ o, W.frozen? ⟨z, o, none⟩ = false) ∧ Turned r p K w W ∧ r ≠ x ∧ r ≠ z ∧ z ≠ x ∧ w.heap.size ≤ x ∧ w.heap.size ≤ z ∧ r < w.heap.size
theorem l2_turn {w W W' : World} {r x z : Nat} {p q K K' k m a b c d n : Int} (h : L2 w r p K x z k m a b c d n W) (ht : Turned r q K' W W') (hR : Rd W r q) (q0 : p ≤ q) (q1 : q ≤ p + K) : L2 w r p (K + K') x z k m a b c d n W' := by
  obtain ⟨h7, hf, hz, hfz, h1, e1, e2, e3, e4, e5, e6⟩ := h
  exact ⟨c7_only h7 ht.1 (Ne.symm e1), fz_only hf ht.1 h7.1 (Ne.symm e1), c7_only hz ht.1 (Ne.symm e2), fz_only hfz ht.1 hz.1 (Ne.symm e2), turned_two h1 hR ht q0 q1, e1, e2, e3, e4, e5, e6⟩
theorem l2_below {w W W' : World} {r x z : Nat} {p K k m a b c d n : Int} (h : L2 w r p K x z k m a b c d n W) (hb : Below W.heap.size W W') : L2 w r p K x z k m a b c d n W' := by
  obtain ⟨h7, hf, hz, hfz, h1, e1, e2, e3, e4, e5, e6⟩ := h
  exact ⟨c7_on h7 hb, fun o => ((bcell hb).2 _ o h7.1).trans (hf.out o), c7_on hz hb, fun o => ((bcell hb).2 _ o hz.1).trans (hfz.out o), turned_below h1 hb, e1, e2, e3, e4, e5, e6⟩
theorem l2_rd {w W : World} {r x z : Nat} {p K k m a b c d n : Int} (h : L2 w r p K x z k m a b c d n W) : ∃ q, p ≤ q ∧ q ≤ p + K ∧ Rd W r q := by
  obtain ⟨_, _, _, _, ⟨_, q, q0, q1, hR⟩, _⟩ := h
  exact ⟨q, q0, q1, hR⟩

def Box7 (W : World) (B : Nat) : Prop := C7 W B 0 0 0 0 0 0 0 ∧ ∀ o, W.frozen? ⟨B, o, none⟩ = false
theorem box7_turn {W W' : World} {r B : Nat} {p K : Int} (h : Box7 W B) (ht : Turned r p K W W') (hne : B ≠ r) : Box7 W' B :=
  ⟨c7_only h.1 ht.1 hne, (fz_only (Lib.hid h.2) ht.1 h.1.1 hne).out⟩
theorem box7_below {W W' : World} {B : Nat} (h : Box7 W B) (hb : Below W.heap.size W W') : Box7 W' B :=
  ⟨c7_on h.1 hb, fun o => ((bcell hb).2 _ o h.1.1).trans (h.2 o)⟩
theorem keep7s {W : World} {x B : Nat} {k m a b c d n : Int} {v0 v1 v2 v3 v4 v5 v6 : Value} (h : C7 W x k m a b c d n) (hne : B ≠ x) :
    let W' := (((((((W.setCell ⟨B, 0, none⟩ v0).setCell ⟨B, 1, none⟩ v1).setCell ⟨B, 2, none⟩ v2).setCell ⟨B, 3, none⟩ v3).setCell ⟨B, 4, none⟩ v4).setCell ⟨B, 5, none⟩ v5).setCell ⟨B, 6, none⟩ v6)
    W'.cell? ⟨x, 0, none⟩ = some (.int .i64 k) ∧ W'.cell? ⟨x, 1, none⟩ = some (.int .i64 m) ∧ W'.cell? ⟨x, 2, none⟩ = some (.int .i64 a) ∧ W'.cell? ⟨x, 3, none⟩ = some (.int .i64 b) ∧ W'.cell? ⟨x, 4, none⟩ = some (.int .i64 c) ∧ W'.cell? ⟨x, 5, none⟩ = some (.int .i64 d) ∧ W'.cell? ⟨x, 6, none⟩ = some (.int .i64 n) := by
  intro W'
  obtain ⟨g0, g1, g2, g3, g4, g5, g6, g7⟩ := h
  have far : ∀ o, W'.cell? ⟨x, o, none⟩ = W.cell? ⟨x, o, none⟩ := by
    intro o
    show World.cell? _ _ = _
    repeat rw [cell_far (fun e => hne e.symm)]
  exact ⟨(far _).trans g1, (far _).trans g2, (far _).trans g3, (far _).trans g4, (far _).trans g5, (far _).trans g6, (far _).trans g7⟩
theorem three_at {W : World} {b : Nat} {x y z : Int} (h0 : W.cell? ⟨b, 0, none⟩ = some (.int .i64 x)) (h1 : W.cell? ⟨b, 1, none⟩ = some (.int .i64 y)) (h2 : W.cell? ⟨b, 2, none⟩ = some (.int .i64 z)) :
    ∀ i u, ([x, y, z] : List Int)[i]? = some u → W.cell? ⟨b, i, none⟩ = some (.int .i64 u) := by
  intro i u h
  match i, h with
  | 0, h | 1, h | 2, h => simp at h; subst h; assumption
  | i + 3, h => simp at h
theorem l2_box {w W W' : World} {r x z B : Nat} {p K k m a b c d n : Int} {k' m' a' b' c' d' n' : Int} (h : L2 w r p K x z k m a b c d n W) (hB : Box7 W B) (hx : B ≠ x) (hz : B ≠ z) (hw : w.heap.size ≤ B)
    (hW : (((((((W.setCell ⟨B, 0, none⟩ (.int .i64 k')).setCell ⟨B, 1, none⟩ (.int .i64 m')).setCell ⟨B, 2, none⟩ (.int .i64 a')).setCell ⟨B, 3, none⟩ (.int .i64 b')).setCell ⟨B, 4, none⟩ (.int .i64 c')).setCell ⟨B, 5, none⟩ (.int .i64 d')).setCell ⟨B, 6, none⟩ (.int .i64 n')) = W') :
    L2 w r p K x z k m a b c d n W' ∧ C7 W' B k' m' a' b' c' d' n' := by
  obtain ⟨⟨b0, b1, b2, b3, b4, b5, b6, b7⟩, fb⟩ := hB
  obtain ⟨h7, hf, hzz, hfz, h1, e1, e2, e3, e4, e5, e6⟩ := h
  have far : ∀ (t o : Nat), B ≠ t → W'.cell? ⟨t, o, none⟩ = W.cell? ⟨t, o, none⟩ := by
    intro t o hne
    subst hW
    repeat rw [cell_far (fun e => hne e.symm)]
  subst hW
  refine ⟨⟨?_, fun o => by simp [go_sem, hf.out o], ?_, fun o => by simp [go_sem, hfz.out o], ?_, e1, e2, e3, e4, e5, e6⟩, ?_⟩
  · obtain ⟨g0, g1, g2, g3, g4, g5, g6, g7⟩ := h7
    exact ⟨by simpa [World.setCell] using g0, (far _ _ hx).trans g1, (far _ _ hx).trans g2, (far _ _ hx).trans g3, (far _ _ hx).trans g4, (far _ _ hx).trans g5, (far _ _ hx).trans g6, (far _ _ hx).trans g7⟩
  · obtain ⟨g0, g1, g2, g3, g4, g5, g6, g7⟩ := hzz
    exact ⟨by simpa [World.setCell] using g0, (far _ _ hz).trans g1, (far _ _ hz).trans g2, (far _ _ hz).trans g3, (far _ _ hz).trans g4, (far _ _ hz).trans g5, (far _ _ hz).trans g6, (far _ _ hz).trans g7⟩
  · repeat (first | (with_reducible refine turned_put ?_ e6 hw) | exact h1)
  · exact ⟨by simpa [World.setCell] using b0, by simp [go_sem, *], by simp [go_sem, *], by simp [go_sem, *], by simp [go_sem, *], by simp [go_sem, *], by simp [go_sem, *], by simp [go_sem, *]⟩

theorem l2_put5a {w W W' : World} {r x z : Nat} {p K k m a b c d n v : Int} (h : L2 w r p K x z k m a b c d n W) (hW : W.setCell ⟨x, 5, none⟩ (.int .i64 v) = W') : L2 w r p K x z k m a b c v n W' := by
  obtain ⟨⟨x0, x1, x2, x3, x4, x5, x6, x7⟩, hf, hz, hfz, h1, e1, e2, e3, e4, e5, e6⟩ := h
  subst hW
  refine ⟨⟨by simpa [World.setCell] using x0, by simp [go_sem, *], by simp [go_sem, *], by simp [go_sem, *], by simp [go_sem, *], by simp [go_sem, *], by simp [go_sem, *], by simp [go_sem, *]⟩, fun o => by simp [go_sem, hf.out o], ?_, fun o => by simp [go_sem, hfz.out o], turned_put h1 e6 e4, e1, e2, e3, e4, e5, e6⟩
  obtain ⟨g0, g1, g2, g3, g4, g5, g6, g7⟩ := hz
  exact ⟨by simpa [World.setCell] using g0, (cell_far e3).trans g1, (cell_far e3).trans g2, (cell_far e3).trans g3, (cell_far e3).trans g4, (cell_far e3).trans g5, (cell_far e3).trans g6, (cell_far e3).trans g7⟩
theorem l2_put4 {w W W' : World} {r x z : Nat} {p K k m a b c d n v : Int} (h : L2 w r p K x z k m a b c d n W) (hW : W.setCell ⟨x, 4, none⟩ (.int .i64 v) = W') : L2 w r p K x z k m a b v d n W' := by
  obtain ⟨⟨x0, x1, x2, x3, x4, x5, x6, x7⟩, hf, hz, hfz, h1, e1, e2, e3, e4, e5, e6⟩ := h
  subst hW
  refine ⟨⟨by simpa [World.setCell] using x0, by simp [go_sem, *], by simp [go_sem, *], by simp [go_sem, *], by simp [go_sem, *], by simp [go_sem, *], by simp [go_sem, *], by simp [go_sem, *]⟩, fun o => by simp [go_sem, hf.out o], ?_, fun o => by simp [go_sem, hfz.out o], turned_put h1 e6 e4, e1, e2, e3, e4, e5, e6⟩
  obtain ⟨g0, g1, g2, g3, g4, g5, g6, g7⟩ := hz
  exact ⟨by simpa [World.setCell] using g0, (cell_far e3).trans g1, (cell_far e3).trans g2, (cell_far e3).trans g3, (cell_far e3).trans g4, (cell_far e3).trans g5, (cell_far e3).trans g6, (cell_far e3).trans g7⟩
theorem l2_put3 {w W W' : World} {r x z : Nat} {p K k m a b c d n v : Int} (h : L2 w r p K x z k m a b c d n W) (hW : W.setCell ⟨x, 3, none⟩ (.int .i64 v) = W') : L2 w r p K x z k m a v c d n W' := by
  obtain ⟨⟨x0, x1, x2, x3, x4, x5, x6, x7⟩, hf, hz, hfz, h1, e1, e2, e3, e4, e5, e6⟩ := h
  subst hW
  refine ⟨⟨by simpa [World.setCell] using x0, by simp [go_sem, *], by simp [go_sem, *], by simp [go_sem, *], by simp [go_sem, *], by simp [go_sem, *], by simp [go_sem, *], by simp [go_sem, *]⟩, fun o => by simp [go_sem, hf.out o], ?_, fun o => by simp [go_sem, hfz.out o], turned_put h1 e6 e4, e1, e2, e3, e4, e5, e6⟩
  obtain ⟨g0, g1, g2, g3, g4, g5, g6, g7⟩ := hz
  exact ⟨by simpa [World.setCell] using g0, (cell_far e3).trans g1, (cell_far e3).trans g2, (cell_far e3).trans g3, (cell_far e3).trans g4, (cell_far e3).trans g5, (cell_far e3).trans g6, (cell_far e3).trans g7⟩
theorem l2_put2 {w W W' : World} {r x z : Nat} {p K k m a b c d n v : Int} (h : L2 w r p K x z k m a b c d n W) (hW : W.setCell ⟨x, 2, none⟩ (.int .i64 v) = W') : L2 w r p K x z k m v b c d n W' := by
  obtain ⟨⟨x0, x1, x2, x3, x4, x5, x6, x7⟩, hf, hz, hfz, h1, e1, e2, e3, e4, e5, e6⟩ := h
  subst hW
  refine ⟨⟨by simpa [World.setCell] using x0, by simp [go_sem, *], by simp [go_sem, *], by simp [go_sem, *], by simp [go_sem, *], by simp [go_sem, *], by simp [go_sem, *], by simp [go_sem, *]⟩, fun o => by simp [go_sem, hf.out o], ?_, fun o => by simp [go_sem, hfz.out o], turned_put h1 e6 e4, e1, e2, e3, e4, e5, e6⟩
  obtain ⟨g0, g1, g2, g3, g4, g5, g6, g7⟩ := hz
  exact ⟨by simpa [World.setCell] using g0, (cell_far e3).trans g1, (cell_far e3).trans g2, (cell_far e3).trans g3, (cell_far e3).trans g4, (cell_far e3).trans g5, (cell_far e3).trans g6, (cell_far e3).trans g7⟩
theorem l2_put0 {w W W' : World} {r x z : Nat} {p K k m a b c d n v : Int} (h : L2 w r p K x z k m a b c d n W) (hW : W.setCell ⟨x, 0, none⟩ (.int .i64 v) = W') : L2 w r p K x z v m a b c d n W' := by
  obtain ⟨⟨x0, x1, x2, x3, x4, x5, x6, x7⟩, hf, hz, hfz, h1, e1, e2, e3, e4, e5, e6⟩ := h
  subst hW
  refine ⟨⟨by simpa [World.setCell] using x0, by simp [go_sem, *], by simp [go_sem, *], by simp [go_sem, *], by simp [go_sem, *], by simp [go_sem, *], by simp [go_sem, *], by simp [go_sem, *]⟩, fun o => by simp [go_sem, hf.out o], ?_, fun o => by simp [go_sem, hfz.out o], turned_put h1 e6 e4, e1, e2, e3, e4, e5, e6⟩
  obtain ⟨g0, g1, g2, g3, g4, g5, g6, g7⟩ := hz
  exact ⟨by simpa [World.setCell] using g0, (cell_far e3).trans g1, (cell_far e3).trans g2, (cell_far e3).trans g3, (cell_far e3).trans g4, (cell_far e3).trans g5, (cell_far e3).trans g6, (cell_far e3).trans g7⟩
theorem l2_put1 {w W W' : World} {r x z : Nat} {p K k m a b c d n v : Int} (h : L2 w r p K x z k m a b c d n W) (hW : W.setCell ⟨x, 1, none⟩ (.int .i64 v) = W') : L2 w r p K x z k v a b c d n W' := by
  obtain ⟨⟨x0, x1, x2, x3, x4, x5, x6, x7⟩, hf, hz, hfz, h1, e1, e2, e3, e4, e5, e6⟩ := h
  subst hW
  refine ⟨⟨by simpa [World.setCell] using x0, by simp [go_sem, *], by simp [go_sem, *], by simp [go_sem, *], by simp [go_sem, *], by simp [go_sem, *], by simp [go_sem, *], by simp [go_sem, *]⟩, fun o => by simp [go_sem, hf.out o], ?_, fun o => by simp [go_sem, hfz.out o], turned_put h1 e6 e4, e1, e2, e3, e4, e5, e6⟩
  obtain ⟨g0, g1, g2, g3, g4, g5, g6, g7⟩ := hz
  exact ⟨by simpa [World.setCell] using g0, (cell_far e3).trans g1, (cell_far e3).trans g2, (cell_far e3).trans g3, (cell_far e3).trans g4, (cell_far e3).trans g5, (cell_far e3).trans g6, (cell_far e3).trans g7⟩
theorem l2_put6 {w W W' : World} {r x z : Nat} {p K k m a b c d n v : Int} (h : L2 w r p K x z k m a b c d n W) (hW : W.setCell ⟨x, 6, none⟩ (.int .i64 v) = W') : L2 w r p K x z k m a b c d v W' := by
  obtain ⟨⟨x0, x1, x2, x3, x4, x5, x6, x7⟩, hf, hz, hfz, h1, e1, e2, e3, e4, e5, e6⟩ := h
  subst hW
  refine ⟨⟨by simpa [World.setCell] using x0, by simp [go_sem, *], by simp [go_sem, *], by simp [go_sem, *], by simp [go_sem, *], by simp [go_sem, *], by simp [go_sem, *], by simp [go_sem, *]⟩, fun o => by simp [go_sem, hf.out o], ?_, fun o => by simp [go_sem, hfz.out o], turned_put h1 e6 e4, e1, e2, e3, e4, e5, e6⟩
  obtain ⟨g0, g1, g2, g3, g4, g5, g6, g7⟩ := hz
  exact ⟨by simpa [World.setCell] using g0, (cell_far e3).trans g1, (cell_far e3).trans g2, (cell_far e3).trans g3, (cell_far e3).trans g4, (cell_far e3).trans g5, (cell_far e3).trans g6, (cell_far e3).trans g7⟩
theorem l2_more {w W : World} {r x z : Nat} {p K K' k m a b c d n : Int} (h : L2 w r p K x z k m a b c d n W) (hK : K ≤ K') : L2 w r p K' x z k m a b c d n W := by
  obtain ⟨h7, hf, hz, hfz, h1, e⟩ := h
  exact ⟨h7, hf, hz, hfz, turned_more h1 hK, e⟩
theorem l2_put5 {w W W' : World} {r x z : Nat} {p K k m a b c d n a' b' c' d' n' : Int} (h : L2 w r p K x z k m a b c d n W) (hW : (((((W.setCell ⟨x, 2, none⟩ (.int .i64 a')).setCell ⟨x, 3, none⟩ (.int .i64 b')).setCell ⟨x, 4, none⟩ (.int .i64 c')).setCell ⟨x, 5, none⟩ (.int .i64 d')).setCell ⟨x, 6, none⟩ (.int .i64 n')) = W') : L2 w r p K x z k m a' b' c' d' n' W' := by
  subst hW
  have s2 : L2 w r p K x z k m a' b c d n (W.setCell ⟨x, 2, none⟩ (.int .i64 a')) := l2_put2 h rfl
  have s3 := l2_put3 (v := b') s2 rfl
  have s4 := l2_put4 (v := c') s3 rfl
  have s5 := l2_put5a (v := d') s4 rfl
  exact l2_put6 (v := n') s5 rfl

end Go.Proofs.YtjbbknbnknhjhaaDoor
