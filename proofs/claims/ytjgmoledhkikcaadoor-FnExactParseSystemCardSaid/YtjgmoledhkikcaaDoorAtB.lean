/- Contracts of AtomValid and TruthAtom of the program and of the model. -/
import Derived.Test.YtjgmoledhkikcaaDoorAtA
import Derived.Test.YtjgmoledhkikcaaDoorSpecB
namespace Go.Proofs.YtjgmoledhkikcaaDoor
open Go.RowKit

set_option maxHeartbeats 400000 in
theorem AtomValid_is (k m a b c d n : Int) (t : Bool) (w : World) (h : avB k m a b c d n = t) :
    Calls Tryd.prog 35 #[.agg #[.int .i64 k, .int .i64 m, .int .i64 a, .int .i64 b, .int .i64 c, .int .i64 d, .int .i64 n]] w fun e w' => e = .returned (.bool t) ∧ Below w.heap.size w w' := by
  by_cases h01 : k = 0 ∨ k = 1
  · by_cases hm : m = 0
    · subst hm
      have ht : tvB a b c d n = t := by simpa [avB, h01] using h
      have HT := Lib.hid ht
      clear h ht
      rcases h01 with rfl | rfl
      all_goals
        go_enter Tryd.func35, Tryd.ntmps35
        go_wp2_with (go_at_call 58; refine (TermValid_is _ _ _ _ _ t _ HT.out).mono ?_; rintro e w' ⟨rfl, rfl⟩)
        go_ret
        exact ⟨rfl, by go_grown⟩
    · have ht : t = false := by simpa [avB, h01, hm] using h.symm
      subst ht
      have hm' : (m == 0) = false := by simpa using hm
      clear h hm
      rcases h01 with rfl | rfl
      all_goals
        go_enter Tryd.func35, Tryd.ntmps35
        go_wp2
        go_ret
        exact ⟨rfl, by go_grown⟩
  · have k0 : (k == 0) = false := by simp; omega
    have k1 : (k == 1) = false := by simp; omega
    by_cases h23 : k = 2 ∨ k = 3
    · by_cases m0 : 1 ≤ m
      · by_cases m1 : m ≤ 100
        · have ht : tvB a b c d n = t := by simpa [avB, h01, h23, inB, m0, m1] using h
          have HT := Lib.hid ht
          clear h ht k0 k1 h01
          rcases h23 with rfl | rfl
          all_goals
            go_enter Tryd.func35, Tryd.ntmps35
            go_wp2_with (go_at_call 58; refine (TermValid_is _ _ _ _ _ t _ HT.out).mono ?_; rintro e w' ⟨rfl, rfl⟩)
            go_ret
            exact ⟨rfl, by go_grown⟩
        · have ht : t = false := by simpa [avB, h01, h23, inB, m1] using h.symm
          subst ht
          clear h k0 k1 h01
          rcases h23 with rfl | rfl
          all_goals
            go_enter Tryd.func35, Tryd.ntmps35
            go_wp2
            go_ret
            exact ⟨rfl, by go_grown⟩
      · have ht : t = false := by simpa [avB, h01, h23, inB, m0] using h.symm
        subst ht
        clear h k0 k1 h01
        rcases h23 with rfl | rfl
        all_goals
          go_enter Tryd.func35, Tryd.ntmps35
          go_wp2
          go_ret
          exact ⟨rfl, by go_grown⟩
    · have ht : t = false := by simpa [avB, h01, h23] using h.symm
      subst ht
      have k2 : (k == 2) = false := by simp; omega
      have k3 : (k == 3) = false := by simp; omega
      clear h h01 h23
      go_enter Tryd.func35, Tryd.ntmps35
      go_wp2
      go_ret
      exact ⟨rfl, by go_grown⟩

set_option maxHeartbeats 400000 in
theorem specAtomValid_is (k m a b c d n : Int) (t : Bool) (w : World) (h : avB k m a b c d n = t) :
    Calls Tryd.prog 48 #[.agg #[.int .i64 k, .int .i64 m, .int .i64 a, .int .i64 b, .int .i64 c, .int .i64 d, .int .i64 n]] w fun e w' => e = .returned (.bool t) ∧ Below w.heap.size w w' := by
  by_cases htv : tvB a b c d n = true
  · have HT := Lib.hid htv
    by_cases hk : 0 ≤ k ∧ k ≤ 3
    · have HK := Lib.hid (show inB k 0 3 = true by simp [inB]; omega)
      by_cases h1 : k ≤ 1
      · have ht : decide (m = 0) = t := by
          rw [← h]; simp only [avB, htv, Bool.true_and]; rw [if_pos (by omega)]
        have HM := Lib.hid ht
        clear h ht htv hk
        go_enter Tryd.func48, Tryd.ntmps48
        go_wp2_with (first | (go_at_call 69; refine (specTermValid_is _ _ _ _ _ true _ HT.out).mono ?_; rintro e w' ⟨rfl, rfl⟩) | (go_at_call 70; refine (l1In_is _ _ _ true _ HK.out).mono ?_; rintro e w' ⟨rfl, rfl⟩))
        go_ret
        exact ⟨ret_bool (by rw [← HM.out]; first | rfl | simp), by go_grown⟩
      · have ht : inB m 1 100 = t := by
          rw [← h]; simp only [avB, htv, Bool.true_and]; rw [if_neg (by omega), if_pos (by omega)]
        have HM := Lib.hid ht
        clear h ht htv hk
        go_enter Tryd.func48, Tryd.ntmps48
        go_wp2_with fail
        refine (specTermValid_is _ _ _ _ _ true _ HT.out).mono ?_
        rintro e w' ⟨rfl, rfl⟩
        go_wp2_with fail
        refine (l1In_is _ _ _ true _ HK.out).mono ?_
        rintro e w' ⟨rfl, rfl⟩
        go_wp2_with fail
        refine (l1In_is _ _ _ t _ HM.out).mono ?_
        rintro e w' ⟨rfl, rfl⟩
        go_wp2
        go_ret
        exact ⟨rfl, by go_grown⟩
    · have HK := Lib.hid (show inB k 0 3 = false by simp [inB]; omega)
      have ht : t = false := by
        rw [← h]; simp only [avB, htv, Bool.true_and]; rw [if_neg (by omega), if_neg (by omega)]
      subst ht
      clear h htv hk
      go_enter Tryd.func48, Tryd.ntmps48
      go_wp2_with (first | (go_at_call 69; refine (specTermValid_is _ _ _ _ _ true _ HT.out).mono ?_; rintro e w' ⟨rfl, rfl⟩) | (go_at_call 70; refine (l1In_is _ _ _ false _ HK.out).mono ?_; rintro e w' ⟨rfl, rfl⟩))
      go_ret
      exact ⟨rfl, by go_grown⟩
  · have hf : tvB a b c d n = false := by simpa using htv
    have ht : t = false := by rw [← h]; exact avB_tv hf
    subst ht
    have HT := Lib.hid hf
    clear h htv hf
    go_enter Tryd.func48, Tryd.ntmps48
    go_wp2_with (go_at_call 69; refine (specTermValid_is _ _ _ _ _ false _ HT.out).mono ?_; rintro e w' ⟨rfl, rfl⟩)
    go_ret
    exact ⟨rfl, by go_grown⟩

def trN (t : Bool) : Int := if t then 0 else 1

end Go.Proofs.YtjgmoledhkikcaaDoor
