/- The comparison of an atom with the zero value; the contract of validApart. -/
import Derived.Test.YtbppcpaodfjpkaaDoorFormD
import Derived.Deep.QuietTactic
import Derived.BigQuiet
namespace Go.Proofs.YtbppcpaodfjpkaaDoor
open Go.RowKit

/-- The atom is the zero value. -/
def zB (h : FH) : Bool := decide (h.ak = 0 ∧ h.am = 0 ∧ h.a = 0 ∧ h.b = 0 ∧ h.c = 0 ∧ h.d = 0 ∧ h.n = 0)
def atB (h : FH) : Bool := avB h.ak h.am h.a h.b h.c h.d h.n
/-- A formula is valid apart from its parts. -/
def ownB (h : FH) (len : Nat) : Bool := (if h.k = 2 then atB h else zB h) && (if qB h.k then varB h.v else decide (h.v = 0)) && decide ((len : Int) = subsI h.k)

theorem Tryd.neq_atom (k m a b c d n : Int) (t : Bool) (h : decide (k = 0 ∧ m = 0 ∧ a = 0 ∧ b = 0 ∧ c = 0 ∧ d = 0 ∧ n = 0) = t) (w : World) :
    (binOp .neq 33 (.agg #[.int .i64 k, .int .i64 m, .int .i64 a, .int .i64 b, .int .i64 c, .int .i64 d, .int .i64 n]) (.agg #[.int .i64 0, .int .i64 0, .int .i64 0, .int .i64 0, .int .i64 0, .int .i64 0, .int .i64 0])).run Tryd.prog w = .ok (.bool (!t)) w := by
  subst h
  by_cases h0 : k = 0
  · by_cases h1 : m = 0
    · by_cases h2 : a = 0
      · by_cases h3 : b = 0
        · by_cases h4 : c = 0
          · by_cases h5 : d = 0
            · by_cases h6 : n = 0
              · subst h0 h1 h2 h3 h4 h5 h6; kernel_rfl
              · subst h0 h1 h2 h3 h4 h5; go_simp
            · subst h0 h1 h2 h3 h4; go_simp
          · subst h0 h1 h2 h3; go_simp
        · subst h0 h1 h2; go_simp
      · subst h0 h1; go_simp
    · subst h0; go_simp
  · go_simp

theorem isQ_is (k : Int) (t : Bool) (w : World) (h : qB k = t) : Calls Tryd.prog 85 #[.int .i64 k] w fun e w' => e = .returned (.bool t) ∧ w = w' := by rw [← h]; exact isQuantifier_any k w
theorem l3Quant_is (k : Int) (t : Bool) (w : World) (h : qB k = t) : Calls Tryd.prog 64 #[.int .i64 k] w fun e w' => e = .returned (.bool t) ∧ w = w' := by rw [← h]; exact l3Quant_any k w
theorem isVar_is (v : Int) (t : Bool) (w : World) (h : varB v = t) : Calls Tryd.prog 86 #[.int .i64 v] w fun e w' => e = .returned (.bool t) ∧ w = w' := by rw [← h]; exact isVar_any v w

theorem va_bool {b c : Bool} (h : b = c) : Ending.returned (.bool b) = .returned (.bool c) := by rw [h]

set_option maxHeartbeats 1000000 in
theorem validApart_any (h : FH) (x : Option Addr) (len cap : Nat) (w : World) :
    Calls Tryd.prog 77 #[.agg #[.int .i64 h.k, .int .i64 h.ak, .int .i64 h.am, .int .i64 h.a, .int .i64 h.b, .int .i64 h.c, .int .i64 h.d, .int .i64 h.n, .int .i64 h.v, .slice x len cap]] w fun e w' => e = .returned (.bool (ownB h len)) ∧ Below w.heap.size w w' := by
  obtain ⟨k, ak, am, a, b, c, d, n, v⟩ := h
  dsimp only
  by_cases hk : k = 2
  · subst hk
    cases hat : avB ak am a b c d n with
    | false =>
      have ho : ownB ⟨2, ak, am, a, b, c, d, n, v⟩ len = false := by simp [ownB, atB, hat]
      rw [ho]
      have HA := Lib.hid hat
      clear hat ho
      go_enter Tryd.func77, Tryd.ntmps77
      go_wp2_with fail
      generalize hW : World.alloc _ _ = W
      have hw : Below w.heap.size w W := by subst hW; go_grown
      clear hW
      refine (AtomValid_is _ _ _ _ _ _ _ false _ HA.out).mono ?_
      rintro e w1 ⟨rfl, hb1⟩
      go_wp2
      go_ret
      exact ⟨rfl, below_on hw hb1⟩
    | true =>
      have HA := Lib.hid hat
      have HQ := Lib.hid (show qB 2 = false from rfl)
      by_cases hv : v = 0
      · subst hv
        have HO := Lib.hid (show ownB ⟨2, ak, am, a, b, c, d, n, 0⟩ len = decide ((len : Int) = subsI 2) by simp [ownB, atB, hat, HQ.out])
        clear hat
        go_enter Tryd.func77, Tryd.ntmps77
        go_wp2_with fail
        generalize hW : World.alloc _ _ = W
        have hx : C10 W w.heap.size ⟨2, ak, am, a, b, c, d, n, 0⟩ (.slice x len cap) := by subst hW; exact (by refine ⟨?_, ?_, ?_, ?_, ?_, ?_, ?_, ?_, ?_, ?_, ?_⟩ <;> first | (simp [go_sem]; done) | (simp; omega))
        have hw : Below w.heap.size w W := by subst hW; go_grown
        clear hW
        refine (AtomValid_is _ _ _ _ _ _ _ true _ HA.out).mono ?_
        rintro e w1 ⟨rfl, hb1⟩
        obtain ⟨x0, c0, c1, c2, c3, c4, c5, c6, c7, c8, c9⟩ := c10_on hx hb1
        go_wp2_with (go_at_call 85; refine (isQ_is _ _ _ HQ.out).mono ?_; rintro e w' ⟨rfl, rfl⟩)
        go_quiet ((go_at_call 87; exact Calls.quiet_of_same ((partCount_any _ _).mono fun _ _ h => ⟨h.1, h.2.symm⟩)))
        go_wp2
        go_ret
        exact ⟨va_bool (by rw [HO.out]; rfl), below_drewN (below_on hw hb1) _⟩
      · have hv0 : (v != 0) = true := by simpa using hv
        have ho : ownB ⟨2, ak, am, a, b, c, d, n, v⟩ len = false := by simp [ownB, hv, HQ.out]
        rw [ho]
        clear hat ho hv
        go_enter Tryd.func77, Tryd.ntmps77
        go_wp2_with fail
        generalize hW : World.alloc _ _ = W
        have hx : C10 W w.heap.size ⟨2, ak, am, a, b, c, d, n, v⟩ (.slice x len cap) := by subst hW; exact (by refine ⟨?_, ?_, ?_, ?_, ?_, ?_, ?_, ?_, ?_, ?_, ?_⟩ <;> first | (simp [go_sem]; done) | (simp; omega))
        have hw : Below w.heap.size w W := by subst hW; go_grown
        clear hW
        refine (AtomValid_is _ _ _ _ _ _ _ true _ HA.out).mono ?_
        rintro e w1 ⟨rfl, hb1⟩
        obtain ⟨x0, c0, c1, c2, c3, c4, c5, c6, c7, c8, c9⟩ := c10_on hx hb1
        go_wp2_with (go_at_call 85; refine (isQ_is _ _ _ HQ.out).mono ?_; rintro e w' ⟨rfl, rfl⟩)
        go_ret
        exact ⟨rfl, below_on hw hb1⟩
  · have hk2 : (k == 2) = false := by simpa using hk
    cases hz : decide (ak = 0 ∧ am = 0 ∧ a = 0 ∧ b = 0 ∧ c = 0 ∧ d = 0 ∧ n = 0) with
    | false =>
      have hne := fun w => Tryd.neq_atom ak am a b c d n false hz w
      have ho : ownB ⟨k, ak, am, a, b, c, d, n, v⟩ len = false := by simp only [ownB, zB, hk, if_false, hz, Bool.false_and]
      rw [ho]
      clear hz ho hk
      simp only [Bool.not_false] at hne
      go_enter Tryd.func77, Tryd.ntmps77
      go_wp2
      go_ret
      exact ⟨rfl, by go_grown⟩
    | true =>
      have hne := fun w => Tryd.neq_atom ak am a b c d n true hz w
      simp only [Bool.not_true] at hne
      cases hq : qB k with
      | true =>
        have HQ := Lib.hid hq
        cases hvv : varB v with
        | true =>
          have HV := Lib.hid hvv
          have HO := Lib.hid (show ownB ⟨k, ak, am, a, b, c, d, n, v⟩ len = decide ((len : Int) = subsI k) by simp only [ownB, zB, hk, if_false, hz, hq, hvv, if_true, Bool.true_and])
          clear hz hq hvv hk
          go_enter Tryd.func77, Tryd.ntmps77
          go_wp2_with (first | (go_at_call 85; refine (isQ_is _ _ _ HQ.out).mono ?_; rintro e w' ⟨rfl, rfl⟩) | (go_at_call 86; refine (isVar_is _ _ _ HV.out).mono ?_; rintro e w' ⟨rfl, rfl⟩))
          go_quiet ((go_at_call 87; exact Calls.quiet_of_same ((partCount_any _ _).mono fun _ _ h => ⟨h.1, h.2.symm⟩)))
          go_wp2
          go_ret
          exact ⟨va_bool (by rw [HO.out]; rfl), below_drewN (by go_grown) _⟩
        | false =>
          have HV := Lib.hid hvv
          have ho : ownB ⟨k, ak, am, a, b, c, d, n, v⟩ len = false := by simp only [ownB, hq, hvv, if_true, Bool.and_false, Bool.false_and]
          rw [ho]
          clear hz hq hvv hk ho
          go_enter Tryd.func77, Tryd.ntmps77
          go_wp2_with (first | (go_at_call 85; refine (isQ_is _ _ _ HQ.out).mono ?_; rintro e w' ⟨rfl, rfl⟩) | (go_at_call 86; refine (isVar_is _ _ _ HV.out).mono ?_; rintro e w' ⟨rfl, rfl⟩))
          go_ret
          exact ⟨rfl, by go_grown⟩
      | false =>
        have HQ := Lib.hid hq
        by_cases hv : v = 0
        · subst hv
          have HO := Lib.hid (show ownB ⟨k, ak, am, a, b, c, d, n, 0⟩ len = decide ((len : Int) = subsI k) by simp only [ownB, zB, hk, if_false, hz, hq, Bool.true_and, Bool.false_eq_true, decide_true])
          clear hz hq hk
          go_enter Tryd.func77, Tryd.ntmps77
          go_wp2_with (go_at_call 85; refine (isQ_is _ _ _ HQ.out).mono ?_; rintro e w' ⟨rfl, rfl⟩)
          go_quiet ((go_at_call 87; exact Calls.quiet_of_same ((partCount_any _ _).mono fun _ _ h => ⟨h.1, h.2.symm⟩)))
          go_wp2
          go_ret
          exact ⟨va_bool (by rw [HO.out]; rfl), below_drewN (by go_grown) _⟩
        · have hv0 : (v != 0) = true := by simpa using hv
          have ho : ownB ⟨k, ak, am, a, b, c, d, n, v⟩ len = false := by simp [ownB, hv, hq]
          rw [ho]
          clear hz hq hk ho hv
          go_enter Tryd.func77, Tryd.ntmps77
          go_wp2_with (go_at_call 85; refine (isQ_is _ _ _ HQ.out).mono ?_; rintro e w' ⟨rfl, rfl⟩)
          go_ret
          exact ⟨rfl, by go_grown⟩

end Go.Proofs.YtbppcpaodfjpkaaDoor
