/- UnionSets and MeetSets of the model; its repetitions, its changed bits. -/
import Derived.Test.YtkhnninnmpffmaaDoorSetK
namespace Go.Proofs.YtkhnninnmpffmaaDoor
open Go.RowKit

/-- A string again and again. -/
def repL (x : List UInt8) (n : Nat) : List UInt8 := (List.replicate n x).flatten
theorem rep_len (x : List UInt8) (n : Nat) : (repL x n).length = n * x.length := by
  unfold repL
  simp [List.length_flatten]
theorem rep_two (x : List UInt8) (n : Nat) : repL (x ++ x) n = repL x (n + n) := by
  induction n with
  | zero => rfl
  | succ n ih =>
    have e1 : repL (x ++ x) (n + 1) = (x ++ x) ++ repL (x ++ x) n := by unfold repL; rw [List.replicate_succ, List.flatten_cons]
    have e2 : repL x (n + 1 + (n + 1)) = x ++ (x ++ repL x (n + n)) := by
      rw [show n + 1 + (n + 1) = (n + n) + 1 + 1 by omega]
      unfold repL
      rw [List.replicate_succ, List.replicate_succ, List.flatten_cons, List.flatten_cons]
    rw [e1, ih, e2, List.append_assoc]
theorem rep_odd (x : List UInt8) (n : Nat) : x ++ repL (x ++ x) n = repL x (n + n + 1) := by
  rw [rep_two]
  unfold repL
  rw [List.replicate_succ, List.flatten_cons]
theorem rep_zero (n : Nat) : repL [48] n = List.replicate n 48 := by
  unfold repL
  induction n with
  | zero => rfl
  | succ n ih => rw [List.replicate_succ, List.flatten_cons, ih, List.replicate_succ]; rfl

set_option maxHeartbeats 2000000 in
theorem l17Many_any (x0 : List UInt8) (n0 : Nat) (w : World) (hx0 : x0.length ≤ 1000) (hn0 : n0 ≤ 100000) :
    Calls Tryd.prog 17 #[.string (bs x0), .int .i64 n0] w fun e w' => e = .returned (.string (bs (repL x0 n0))) ∧ w = w' := by
  have happ := bs_app
  have hb0 : ({ data := #[] } : ByteArray) = bs [] := rfl
  obtain ⟨T, hT⟩ : ∃ T, repL x0 n0 = T := ⟨_, rfl⟩
  have HTL : Hid (T.length ≤ 100000000) := Lib.hid (by rw [← hT, rep_len]; exact Nat.le_trans (Nat.mul_le_mul hn0 hx0) (by omega))
  have hst : Hid ([] ++ repL x0 n0 = T) := Lib.hid (by rw [← hT]; rfl)
  rw [hT]
  clear hT
  go_enter Tryd.func17, Tryd.ntmps17
  go_wp2
  go_loopw [0, 1, 5] (fun s i o wr => ∃ (X O : List UInt8) (n : Nat), s = .string (bs X) ∧ i = .int .i64 n ∧ o = .string (bs O) ∧ wr = w ∧ n ≤ 100000 ∧ X.length ≤ 1000000000 ∧ O ++ repL X n = T) (fun _ i _ _ => (intOf i).toNat)
  case atStart => exact ⟨x0, [], n0, rfl, rfl, rfl, rfl, hn0, by omega, hst.out⟩
  case round =>
    obtain ⟨X, O, n, rfl, rfl, rfl, rfl, hn, hX, ht⟩ := hrel
    have HT := Lib.hid ht
    have hz1 := bs_size X
    have hz2 := bs_size O
    have hO : O.length ≤ 100000000 := by have := HTL.out; rw [← ht, List.length_append] at this; omega
    obtain ⟨m, hm⟩ : ∃ m, n / 2 = m := ⟨_, rfl⟩
    have hd : (n : Int).tdiv 2 = (m : Int) := by rw [Int.tdiv_eq_ediv_of_nonneg (by omega)]; omega
    have hwm : IntKind.i64.wrap (m : Int) = (m : Int) := by rw [IntKind.wrap_i64]; omega
    have hmn : m ≤ n ∧ (0 < n → m < n) := by omega
    by_cases h0 : 0 < n
    · have g0 : decide ((0 : Int) < (n : Int)) = true := decide_eq_true (by omega)
      have g1 : decide (0 < n) = true := decide_eq_true h0
      have hXT : X.length * n ≤ 100000000 := by
        have := HTL.out
        rw [← ht, List.length_append, rep_len] at this
        rw [Nat.mul_comm]
        omega
      have hXb : X.length ≤ 100000000 := Nat.le_trans (Nat.le_mul_of_pos_right _ h0) hXT
      have hX2 : (X ++ X).length ≤ 1000000000 := by rw [List.length_append]; omega
      obtain ⟨r, hr⟩ : ∃ r, n % 2 = r := ⟨_, rfl⟩
      have ht2 : (n : Int).tmod 2 = (r : Int) := by rw [Int.tmod_eq_emod_of_nonneg (by omega)]; omega
      have HX2 := Lib.hid hX2
      obtain ⟨a, ha⟩ : ∃ a, X.length = a := ⟨_, rfl⟩
      obtain ⟨b, hb⟩ : ∃ a, O.length = a := ⟨_, rfl⟩
      rw [ha] at hz1 hXb
      rw [hb] at hz2 hO
      by_cases hodd : r = 1
      · have e1 : ((r : Int) == 1) = true := by rw [hodd]; rfl
        have HN : Hid ((O ++ X) ++ repL (X ++ X) m = T) := Lib.hid (by rw [List.append_assoc, rep_odd, ← HT.out]; congr 2; omega)
        clear ht hXT hX2 hodd hr hm ha hb
        go_wp2
        go_roundw
        case rel => exact ⟨X ++ X, O ++ X, m, rfl, rfl, rfl, trivial, by omega, HX2.out, HN.out⟩
        case measure => simp [intOf]; omega
      · have e1 : ((r : Int) == 1) = false := by rw [beq_eq_false_iff_ne]; omega
        have HN : Hid (O ++ repL (X ++ X) m = T) := Lib.hid (by rw [rep_two, ← HT.out]; congr 2; omega)
        clear ht hXT hX2 hodd hr hm ha hb
        go_wp2
        go_roundw
        case rel => exact ⟨X ++ X, O, m, rfl, rfl, rfl, trivial, by omega, HX2.out, HN.out⟩
        case measure => simp [intOf]; omega
    · have g0 : decide ((0 : Int) < (n : Int)) = false := decide_eq_false (by omega)
      have g1 : decide (0 < n) = false := decide_eq_false h0
      have hF : Hid (O = T) := Lib.hid (by rw [← ht, show n = 0 by omega]; simp [repL])
      clear ht hd hwm hm
      go_wp2
      go_ret
      exact ⟨by rw [hF.out]; rfl, rfl⟩

end Go.Proofs.YtkhnninnmpffmaaDoor
