/- The model's l3Valid in one form. -/
import Derived.Test.YtcgolbkpfncgpaaNm
namespace Go.Proofs.Ytcgolbkpfncgpaa
open Go.RowKit

/-- A formula and a bool are returned; the formula's lists lie in blocks from lo on. -/
def RqT (q : FH × Fo) (ok : Bool) (lo : Nat) (w : World) (e : Ending) (w' : World) : Prop := ∃ s, e = .returned (.tuple #[.agg #[.int .i64 q.1.k, .int .i64 q.1.ak, .int .i64 q.1.am, .int .i64 q.1.a, .int .i64 q.1.b, .int .i64 q.1.c, .int .i64 q.1.d, .int .i64 q.1.n, .int .i64 q.1.v, s], .bool ok]) ∧ FS w' lo q.2 s ∧ Below w.heap.size w w'
theorem fs_none (w : World) (lo : Nat) : FS w lo .nil (.slice none 0 0) := .inl ⟨rfl, none, 0, rfl, Nat.le_refl _, Nat.zero_le _⟩
theorem l3Valid_u (h : FH) (f : Fo) (w : World) (lo : Nat) (s : Value) (ok b : Bool) (hs : FS w lo f s) (hb : (ok && vfB h f) = b) : Calls Try.prog 110 #[.agg #[.int .i64 h.k, .int .i64 h.ak, .int .i64 h.am, .int .i64 h.a, .int .i64 h.b, .int .i64 h.c, .int .i64 h.d, .int .i64 h.n, .int .i64 h.v, s], .bool ok] w (RqT (okQ b h f) b lo w) := by
  cases b with
  | false => exact (l3Valid_no h f w lo s ok hs hb).mono fun _ _ hp => ⟨.slice none 0 0, hp.1, fs_none _ _, hp.2⟩
  | true =>
    simp only [Bool.and_eq_true] at hb
    obtain ⟨rfl, hv⟩ := hb
    exact (l3Valid_yes h f w lo s hs hv).mono fun _ w' hp => ⟨s, hp.1, FS.below hp.2 (Nat.le_refl _) hs, hp.2⟩
theorem okQ_size (b : Bool) (h : FH) (f : Fo) (hb : b = true → vfB h f = true) : (okQ b h f).2.size ≤ 600 := by
  unfold okQ
  split
  · rename_i e
    have := (vf_parts (hb e)).2.2
    show f.size ≤ 600
    omega
  · exact Nat.zero_le _

end Go.Proofs.Ytcgolbkpfncgpaa
