/- What the model draws as a formula: l3Atom, l3Two, l3One. -/
import Derived.Test.YthhbmnfmhomggaaDrF
namespace Go.Proofs.Ythhbmnfmhomggaa
open Go.RowKit

theorem c10_only {w w' : World} {r x : Nat} {h : FH} {s : Value} (hx : C10 w x h s) (hg : w.grownBy w' (some r)) (hne : x ≠ r) : C10 w' x h s := gp_cells hg hx hne

/-- A formula is drawn: its list lies in blocks from lo on. -/
def FmT (r : Nat) (p K : Int) (lo : Nat) (w : World) (e : Ending) (w' : World) : Prop := ∃ (h : FH) (f : Fo) (s : Value), e = .returned (.agg #[.int .i64 h.k, .int .i64 h.ak, .int .i64 h.am, .int .i64 h.a, .int .i64 h.b, .int .i64 h.c, .int .i64 h.d, .int .i64 h.n, .int .i64 h.v, s]) ∧ FS w' lo f s ∧ Turned r p K w w'

theorem fs_turned {w w' : World} {r lo : Nat} {p K : Int} {f : Fo} {s : Value} (h : FS w lo f s) (ht : Turned r p K w w') (hr : r < lo) : FS w' lo f s :=
  FS.kept ht.1.size (fun k hk hlt => ht.1.block k hlt (by intro e; injection e with e; omega)) h

def FmB (lo : Nat) (w : World) (e : Ending) (w' : World) : Prop := ∃ (h : FH) (f : Fo) (s : Value), e = .returned (.agg #[.int .i64 h.k, .int .i64 h.ak, .int .i64 h.am, .int .i64 h.a, .int .i64 h.b, .int .i64 h.c, .int .i64 h.d, .int .i64 h.n, .int .i64 h.v, s]) ∧ FS w' lo f s ∧ Below w.heap.size w w'

set_option maxHeartbeats 1000000 in
theorem l3Atom_t (k m a b c d n : Int) (w : World) : Calls Try.prog 105 #[.agg #[.int .i64 k, .int .i64 m, .int .i64 a, .int .i64 b, .int .i64 c, .int .i64 d, .int .i64 n]] w (fun e w' => e = .returned (.agg #[.int .i64 2, .int .i64 k, .int .i64 m, .int .i64 a, .int .i64 b, .int .i64 c, .int .i64 d, .int .i64 n, .int .i64 0, .slice none 0 0]) ∧ Below w.heap.size w w') := by
  go_enter Try.func105, Try.ntmps105
  go_wp2
  refine bodyPost_ret (v := .agg #[.int .i64 2, .int .i64 k, .int .i64 m, .int .i64 a, .int .i64 b, .int .i64 c, .int .i64 d, .int .i64 n, .int .i64 0, .slice none 0 0]) (by simp [results, Try.results105, go_sem]) rfl ⟨rfl, ?_⟩
  go_grown

set_option maxHeartbeats 1000000 in
theorem l3One_t (lo : Nat) (k v : Int) (h : FH) (f : Fo) (s : Value) (w : World) (hlo : lo ≤ w.heap.size) (hs : FS w lo f s) : Calls Try.prog 108 #[.int .i64 k, .int .i64 v, .agg #[.int .i64 h.k, .int .i64 h.ak, .int .i64 h.am, .int .i64 h.a, .int .i64 h.b, .int .i64 h.c, .int .i64 h.d, .int .i64 h.n, .int .i64 h.v, s]] w (fun e w' => ∃ s', e = .returned (.agg #[.int .i64 k, .int .i64 0, .int .i64 0, .int .i64 0, .int .i64 0, .int .i64 0, .int .i64 0, .int .i64 0, .int .i64 v, s']) ∧ FS w' lo (.cons h f .nil) s' ∧ Below w.heap.size w w') := by
  have HS := Lib.hid hs
  obtain ⟨sa, sn, sc, rfl⟩ := hs.slice
  clear hs
  go_enter Try.func108, Try.ntmps108
  go_wp2
  refine bodyPost_ret (v := .agg #[.int .i64 k, .int .i64 0, .int .i64 0, .int .i64 0, .int .i64 0, .int .i64 0, .int .i64 0, .int .i64 0, .int .i64 v, .slice (some ⟨w.heap.size + 1 + 1, 0, none⟩) 1 1]) (by simp [results, Try.results108, go_sem]) rfl ?_
  generalize hW : World.alloc _ _ = W
  have hb : Below w.heap.size w W := by subst hW; go_grown
  have hsz : w.heap.size + 1 + 1 < W.heap.size := by subst hW; simp
  refine ⟨_, rfl, .inr ⟨Nat.one_pos, w.heap.size + 1 + 1, 0, 1, rfl, Nat.le_refl _, by decide, by omega, hsz, ⟨⟨.slice sa sn sc, ?_, FS.below hb (Nat.le_refl _) HS.out⟩, trivial⟩⟩, hb⟩
  subst hW
  refine ⟨?_, ?_, ?_, ?_, ?_, ?_, ?_, ?_, ?_, ?_⟩ <;> simp [go_sem]

set_option maxHeartbeats 1000000 in
theorem l3Two_t (lo : Nat) (k : Int) (h g : FH) (f u : Fo) (s t : Value) (w : World) (hlo : lo ≤ w.heap.size) (hs : FS w lo f s) (ht : FS w lo u t) : Calls Try.prog 98 #[.int .i64 k, .agg #[.int .i64 h.k, .int .i64 h.ak, .int .i64 h.am, .int .i64 h.a, .int .i64 h.b, .int .i64 h.c, .int .i64 h.d, .int .i64 h.n, .int .i64 h.v, s], .agg #[.int .i64 g.k, .int .i64 g.ak, .int .i64 g.am, .int .i64 g.a, .int .i64 g.b, .int .i64 g.c, .int .i64 g.d, .int .i64 g.n, .int .i64 g.v, t]] w (fun e w' => ∃ s', e = .returned (.agg #[.int .i64 k, .int .i64 0, .int .i64 0, .int .i64 0, .int .i64 0, .int .i64 0, .int .i64 0, .int .i64 0, .int .i64 0, s']) ∧ FS w' lo (.cons h f (.cons g u .nil)) s' ∧ Below w.heap.size w w') := by
  have HS := Lib.hid hs
  have HT := Lib.hid ht
  obtain ⟨sa, sn, sc, rfl⟩ := hs.slice
  obtain ⟨ta, tn, tc, rfl⟩ := ht.slice
  clear hs ht
  go_enter Try.func98, Try.ntmps98
  go_wp2
  refine bodyPost_ret (v := .agg #[.int .i64 k, .int .i64 0, .int .i64 0, .int .i64 0, .int .i64 0, .int .i64 0, .int .i64 0, .int .i64 0, .int .i64 0, .slice (some ⟨w.heap.size + 1 + 1 + 1, 0, none⟩) 2 2]) (by simp [results, Try.results98, go_sem]) rfl ?_
  generalize hW : World.alloc _ _ = W
  have hb : Below w.heap.size w W := by subst hW; go_grown
  have hsz : w.heap.size + 1 + 1 + 1 < W.heap.size := by subst hW; simp
  refine ⟨_, rfl, .inr ⟨Nat.zero_lt_two, w.heap.size + 1 + 1 + 1, 0, 2, rfl, Nat.le_refl _, by decide, by omega, hsz, ⟨⟨.slice sa sn sc, ?_, FS.below hb (Nat.le_refl _) HS.out⟩, ⟨.slice ta tn tc, ?_, FS.below hb (Nat.le_refl _) HT.out⟩, trivial⟩⟩, hb⟩
  · subst hW
    refine ⟨?_, ?_, ?_, ?_, ?_, ?_, ?_, ?_, ?_, ?_⟩ <;> simp [go_sem]
  · subst hW
    refine ⟨?_, ?_, ?_, ?_, ?_, ?_, ?_, ?_, ?_, ?_⟩ <;> simp [go_sem]

end Go.Proofs.Ythhbmnfmhomggaa
