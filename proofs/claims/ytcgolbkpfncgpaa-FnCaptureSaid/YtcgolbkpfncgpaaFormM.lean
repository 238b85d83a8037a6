/- Contracts of NestedCount and IsOpen of the model and of the program, from those of FormulaValid and nestedIn. -/
import Derived.Test.YtcgolbkpfncgpaaFormL
namespace Go.Proofs.Ytcgolbkpfncgpaa
open Go.RowKit

def ncI (h : FH) (f : Fo) : Int := if vfB h f = true then ((f.nst + qN h : Nat) : Int) else -1
def opB (h : FH) (f : Fo) : Bool := vfB h f && decide (f.nst + qN h = 0)

theorem vf_parts {h : FH} {f : Fo} (hv : vfB h f = true) : ownB h f.len = true ∧ f.okB = true ∧ f.size + 1 ≤ 600 := by
  have := (vf_cond h f).1 hv
  simp only [Bool.and_eq_true] at this
  exact ⟨this.1.1, this.1.2, this.2⟩

theorem NestedCount_any (h : FH) (f : Fo) (w : World) (lo : Nat) (s : Value) (hs : FS w lo f s) :
    Calls Try.prog 144 #[.agg #[.int .i64 h.k, .int .i64 h.ak, .int .i64 h.am, .int .i64 h.a, .int .i64 h.b, .int .i64 h.c, .int .i64 h.d, .int .i64 h.n, .int .i64 h.v, s]] w (IntT (ncI h f) w) := by
  have HC := Lib.hid (fun W hW => nodeOf_any h f W lo s (FS.below (w := w) hW (Nat.le_refl _) hs))
  obtain ⟨sa, sn, sc, rfl⟩ := hs.slice
  clear hs
  cases hv : vfB h f with
  | true =>
    obtain ⟨h1, h2, h3⟩ := vf_parts hv
    have HN := Lib.hid (ns_any f.size h f (Nat.le_refl _) h1 h2 (by omega))
    have HI := Lib.hid (show ncI h f = ((f.nst + qN h : Nat) : Int) by unfold ncI; rw [if_pos hv])
    have HV := Lib.hid (show ndV h f = .tuple #[nd1 h f.nds, .bool true] by unfold ndV; rw [if_pos hv])
    obtain ⟨q, hq⟩ : ∃ q, f.nst + qN h = q := ⟨_, rfl⟩
    rw [hq] at HN HI
    clear hv hq h1 h2 h3
    go_enter Try.func144, Try.ntmps144
    go_wp2_with fail
    refine (HC.out _ (by go_grown)).mono ?_
    rintro e w1 ⟨rfl, hb1⟩
    rw [HV.out]
    have hw1 : Below w.heap.size w w1 := below_on (by go_grown) hb1
    clear hb1
    go_wp2_with fail
    refine (HN.out _).mono ?_
    rintro e w2 ⟨rfl, hb2⟩
    go_wp2
    go_ret
    exact ⟨ret_int' HI.out.symm, below_on hw1 hb2⟩
  | false =>
    have HI := Lib.hid (show ncI h f = -1 by unfold ncI; rw [if_neg (by rw [hv]; simp)])
    have HV := Lib.hid (show ndV h f = .tuple #[.nilIface, .bool false] by unfold ndV; rw [if_neg (by rw [hv]; simp)])
    clear hv
    go_enter Try.func144, Try.ntmps144
    go_wp2_with fail
    refine (HC.out _ (by go_grown)).mono ?_
    rintro e w1 ⟨rfl, hb1⟩
    rw [HV.out]
    go_wp2
    go_ret
    exact ⟨ret_int' HI.out.symm, below_on (by go_grown) hb1⟩

theorem op_nc (h : FH) (f : Fo) : (ncI h f == 0) = opB h f := by
  unfold ncI opB
  cases vfB h f with
  | true =>
    rw [if_pos rfl, Bool.true_and]
    by_cases e : f.nst + qN h = 0
    · rw [e]; rfl
    · rw [decide_eq_false e, beq_eq_false_iff_ne]; omega
  | false => rfl

theorem IsOpen_any (h : FH) (f : Fo) (w : World) (lo : Nat) (s : Value) (hs : FS w lo f s) :
    Calls Try.prog 118 #[.agg #[.int .i64 h.k, .int .i64 h.ak, .int .i64 h.am, .int .i64 h.a, .int .i64 h.b, .int .i64 h.c, .int .i64 h.d, .int .i64 h.n, .int .i64 h.v, s]] w (BoolT (opB h f) w) := by
  have HC := Lib.hid (fun W hW => NestedCount_any h f W lo s (FS.below (w := w) hW (Nat.le_refl _) hs))
  obtain ⟨sa, sn, sc, rfl⟩ := hs.slice
  have HO := Lib.hid (op_nc h f)
  clear hs
  go_enter Try.func118, Try.ntmps118
  go_wp2_with fail
  refine (HC.out _ (by go_grown)).mono ?_
  rintro e w1 ⟨rfl, hb1⟩
  go_wp2
  go_ret
  exact ⟨va_bool (by rw [← HO.out]), below_on (by go_grown) hb1⟩

theorem specIsOpen_any (h : FH) (f : Fo) (w : World) (lo : Nat) (s : Value) (hs : FS w lo f s) :
    Calls Try.prog 114 #[.agg #[.int .i64 h.k, .int .i64 h.ak, .int .i64 h.am, .int .i64 h.a, .int .i64 h.b, .int .i64 h.c, .int .i64 h.d, .int .i64 h.n, .int .i64 h.v, s]] w (BoolT (opB h f) w) := by
  have HC := Lib.hid (fun W hW => specFormulaValid_any h f W lo s (FS.below (w := w) hW (Nat.le_refl _) hs))
  have HN := Lib.hid (fun W hz hW => neF_any h f W lo s hz (FS.below (w := w) hW (Nat.le_refl _) hs))
  obtain ⟨sa, sn, sc, rfl⟩ := hs.slice
  clear hs
  cases hv : vfB h f with
  | true =>
    have hz : f.size ≤ 1048576 := by have := (vf_parts hv).2.2; omega
    have HI := Lib.hid (show opB h f = (((f.nst + qN h : Nat) : Int) == 0) by rw [← op_nc]; unfold ncI; rw [if_pos hv])
    obtain ⟨q, hq⟩ : ∃ q, f.nst + qN h = q := ⟨_, rfl⟩
    rw [hq] at HN HI
    rw [hv] at HC
    clear hv hq
    go_enter Try.func114, Try.ntmps114
    go_wp2_with fail
    generalize hW : World.alloc _ _ = W
    have hx : C10 W w.heap.size h (.slice sa sn sc) := by subst hW; exact (by refine ⟨?_, ?_, ?_, ?_, ?_, ?_, ?_, ?_, ?_, ?_, ?_⟩ <;> first | (simp [go_sem]; done) | (simp; omega))
    have hw : Below w.heap.size w W := by subst hW; go_grown
    clear hW
    refine (HC.out _ hw).mono ?_
    rintro e w1 ⟨rfl, hb1⟩
    have hw1 := below_on hw hb1
    obtain ⟨x0, c0, c1, c2, c3, c4, c5, c6, c7, c8, c9⟩ := c10_on hx hb1
    go_wp2_with fail
    refine (HN.out _ hz hw1).mono ?_
    rintro e w2 ⟨rfl, hb2⟩
    go_wp2
    go_ret
    exact ⟨va_bool (by rw [HI.out]), below_on hw1 hb2⟩
  | false =>
    have HI := Lib.hid (show opB h f = false by unfold opB; rw [hv]; rfl)
    rw [hv] at HC
    clear hv
    go_enter Try.func114, Try.ntmps114
    go_wp2_with fail
    refine (HC.out _ (by go_grown)).mono ?_
    rintro e w1 ⟨rfl, hb1⟩
    go_wp2
    go_ret
    exact ⟨va_bool HI.out.symm, below_on (by go_grown) hb1⟩

end Go.Proofs.Ytcgolbkpfncgpaa
