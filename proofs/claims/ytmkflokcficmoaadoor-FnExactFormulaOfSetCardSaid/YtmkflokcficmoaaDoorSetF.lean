/- The program's SetValid. -/
import Derived.Test.YtmkflokcficmoaaDoorSa7
import Derived.Test.YtmkflokcficmoaaDoorShelf
import Derived.Lib.SlTrimSet
namespace Go.Proofs.YtmkflokcficmoaaDoor
open Go.RowKit

theorem dw_all {p : UInt8 → Bool} : ∀ l : List UInt8, (∀ x ∈ l.dropWhile p, p x = true) → ∀ x ∈ l, p x = true
  | [], _, x, hx => by simp at hx
  | a :: l, h, x, hx => by
    by_cases ha : p a = true
    · rw [List.dropWhile_cons_of_pos ha] at h
      rcases List.mem_cons.1 hx with rfl | hx
      · exact ha
      · exact dw_all l h x hx
    · rw [List.dropWhile_cons_of_neg ha] at h
      exact absurd (h a (by simp)) ha
theorem dw_nil {p : UInt8 → Bool} {l : List UInt8} (h : ∀ x ∈ l, p x = true) : l.dropWhile p = [] := by
  induction l with
  | nil => rfl
  | cons a l ih =>
    rw [List.dropWhile_cons_of_pos (h a (by simp))]
    exact ih fun x hx => h x (by simp [hx])
theorem trim_bits (l : List UInt8) : (Lib.trimS l [48, 49]).isEmpty = bitL l := by
  have hp : ∀ x : UInt8, ([48, 49] : List UInt8).contains x = true ↔ (x = 48 ∨ x = 49) := fun x => by simp
  rw [Bool.eq_iff_iff, List.isEmpty_iff, bitL_iff]
  unfold Lib.trimS Lib.trimLeftS Lib.trimRightS
  constructor
  · intro h x hx
    have h1 : ∀ y ∈ (l.reverse.dropWhile (([48, 49] : List UInt8).contains ·)).reverse, ([48, 49] : List UInt8).contains y = true := dw_all _ fun y hy => by rw [h] at hy; simp at hy
    have h2 := dw_all l.reverse fun y hy => h1 y (List.mem_reverse.2 hy)
    exact (hp x).1 (h2 x (List.mem_reverse.2 hx))
  · intro h
    rw [dw_nil (l := l.reverse) fun x hx => (hp x).2 (h x (List.mem_reverse.1 hx))]
    rfl

theorem trimSet_is (l : List UInt8) (w : World) (hl : l.length ≤ 1000000000) :
    Calls Tryd.prog 29 #[.string (bs l), .string ⟨#[48, 49]⟩] w fun e w' => (∃ t, e = .returned (.string (bs t)) ∧ t.isEmpty = bitL l) ∧ Below w.heap.size w w' :=
  (Tryd.strings_Trim_set (bs l) ⟨#[48, 49]⟩ w (by rw [bs_size]; omega) (by decide) (ascii_of_all (by decide))).mono fun _ _ ⟨he, hw⟩ => ⟨⟨_, he, by rw [bs_data]; exact trim_bits l⟩, hw⟩

set_option maxHeartbeats 1000000 in
theorem SetValid_any (h l : List UInt8) (w : World) (hh : h.length ≤ 1000000000) (hl : l.length ≤ 1000000000) :
    Calls Tryd.prog 13 #[.agg #[.string (bs h), .string (bs l)]] w fun e w' => e = .returned (.bool (svS h l)) ∧ Below w.heap.size w w' := by
  have T1 := Lib.hid fun w => trimSet_is h w hh
  have T2 := Lib.hid fun w => trimSet_is l w hl
  have hs1 := bs_size h
  have hs2 := bs_size l
  have hlist := bs_list
  obtain ⟨H, hH⟩ : ∃ H, h.length = H := ⟨_, rfl⟩
  obtain ⟨L, hL⟩ : ∃ L, l.length = L := ⟨_, rfl⟩
  obtain ⟨p, hp⟩ : ∃ p, bitL h = p := ⟨_, rfl⟩
  obtain ⟨q, hq⟩ : ∃ q, bitL l = q := ⟨_, rfl⟩
  have HS : Hid (svS h l = ((p && decide (H ≤ 400)) && (q && decide (1 ≤ L ∧ L ≤ 240)))) := Lib.hid (by unfold svS; rw [hH, hL, hp, hq])
  rw [hH] at hs1
  rw [hL] at hs2
  rw [hp] at T1
  rw [hq] at T2
  rw [HS.out]
  clear HS hH hL hp hq hh hl
  by_cases c1 : 400 < H
  · have g1 : decide (400 < H) = true := decide_eq_true c1
    go_enter Tryd.func13, Tryd.ntmps13
    go_wp2
    go_ret
    exact ⟨ret_bool (by rw [decide_eq_false (show ¬ H ≤ 400 by omega), Bool.and_false, Bool.false_and]), by go_grown⟩
  · by_cases c2 : L = 0
    · subst c2
      go_enter Tryd.func13, Tryd.ntmps13
      go_wp2
      go_ret
      exact ⟨ret_bool (by simp), by go_grown⟩
    · by_cases c3 : 240 < L
      · go_enter Tryd.func13, Tryd.ntmps13
        go_wp2
        go_ret
        exact ⟨ret_bool (by rw [decide_eq_false (show ¬ (1 ≤ L ∧ L ≤ 240) by omega), Bool.and_false, Bool.and_false]), by go_grown⟩
      · have e1 : decide (H ≤ 400) = true := decide_eq_true (by omega)
        have e2 : decide (1 ≤ L ∧ L ≤ 240) = true := decide_eq_true (by omega)
        rw [e1, e2, Bool.and_true, Bool.and_true]
        clear e1 e2
        have d1 : decide ((400 : Int) < (H : Int)) = false := decide_eq_false (by omega)
        have d2 : ((L : Int) == 0) = false := by rw [beq_eq_false_iff_ne]; omega
        have d3 : decide ((240 : Int) < (L : Int)) = false := decide_eq_false (by omega)
        go_enter Tryd.func13, Tryd.ntmps13
        go_wp2_with fail
        generalize hW : World.alloc w _ = W
        obtain ⟨hz, hsW, hw0⟩ := s2_new hW
        clear hW
        refine (T1.out _).mono ?_
        rintro e w1 ⟨⟨t, rfl, ht⟩, hb1⟩
        obtain ⟨z0, z1, z2, z3⟩ := s2_on hz hb1
        have hb1' := below_on hw0 hb1
        cases p with
        | false =>
          go_wp2
          go_ret
          exact ⟨rfl, hb1'⟩
        | true =>
          go_wp2_with fail
          refine (T2.out _).mono ?_
          rintro e w2 ⟨⟨u, rfl, hu⟩, hb2⟩
          have hb2' := below_on hb1' hb2
          go_wp2
          go_ret
          exact ⟨rfl, hb2'⟩
end Go.Proofs.YtmkflokcficmoaaDoor
