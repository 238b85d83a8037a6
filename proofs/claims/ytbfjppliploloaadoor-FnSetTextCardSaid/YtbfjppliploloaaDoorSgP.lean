/- The program's ParseSet. -/
import Derived.Test.YtbfjppliploloaaDoorSf7
import Derived.Test.YtbfjppliploloaaDoorSgM
import Derived.BigQuiet
import Derived.Deep.RegionHeld3
import Derived.BigGuardPart
namespace Go.Proofs.YtbfjppliploloaaDoor
open Go.RowKit

theorem index1_is (t : List UInt8) (w : World) :
    Calls Tryd.prog 41 #[.string (bs t), .string ⟨#[40]⟩] w fun e w' => e = .returned (.int .i64 (Lib.indexByte t 40)) ∧ w' = w :=
  (Tryd.stringslite_Index_one (bs t) 40 w).mono fun _ _ ⟨he, hw⟩ => ⟨by rw [he, bs_data], hw⟩
theorem suffix_is (l : List UInt8) (w : World) (hl : l.length ≤ 1000000000) :
    Calls Tryd.prog 16 #[.string (bs l), .string ⟨#[41]⟩] w fun e w' => e = .returned (.tuple #[.string (bs (Lib.trimSuffix l [41])), .bool (Lib.hasSuffix l [41])]) ∧ w' = w :=
  (Tryd.strings_CutSuffix (bs l) ⟨#[41]⟩ w (by rw [bs_size]; omega)).mono fun _ _ ⟨he, hw⟩ => ⟨by rw [he, bs_data]; rfl, hw⟩

set_option maxHeartbeats 1000000 in
theorem cut_none (t : List UInt8) (w : World) (h : Lib.indexByte t 40 = -1) :
    Calls Tryd.prog 30 #[.string (bs t), .string ⟨#[40]⟩] w fun e w' => e = .returned (.tuple #[.string (bs t), .string (bs []), .bool false]) ∧ w' = w := by
  have HI := Lib.hid fun w => index1_is t w
  rw [h] at HI
  clear h
  go_enter Tryd.func30, Tryd.ntmps30
  go_wp2_with fail
  refine (HI.out _).mono ?_
  rintro e w1 ⟨rfl, rfl⟩
  go_wp2
  refine bodyPost_ret (v := .tuple #[.string (bs t), .string (bs []), .bool false]) (by simp [results, Tryd.results30, go_sem]; rfl) rfl ⟨rfl, ?_⟩
  rfl
set_option maxHeartbeats 1000000 in
theorem cut_at (t : List UInt8) (k : Nat) (w : World) (h : Lib.indexByte t 40 = k) (hk : k < t.length) (ht : t.length ≤ 1000000000) :
    Calls Tryd.prog 30 #[.string (bs t), .string ⟨#[40]⟩] w fun e w' => e = .returned (.tuple #[.string (bs (t.take k)), .string (bs (t.drop (k + 1))), .bool true]) ∧ Below w.heap.size w w' := by
  have HI := Lib.hid fun w => index1_is t w
  rw [h] at HI
  have h1 := run_upto (P := Tryd.prog) Tryd.underlying9 (l := t) (k := k) (by omega) rfl .i64
  have h2 := run_from (P := Tryd.prog) Tryd.underlying9 (l := t) (k := k + 1) (by omega) rfl .i64
  have hwk : IntKind.i64.wrap ((k : Int) + 1) = ((k + 1 : Nat) : Int) := by rw [IntKind.wrap_i64]; omega
  have hk0 : (0 : Int) ≤ (k : Int) := by omega
  obtain ⟨A, hA⟩ : ∃ A, t.take k = A := ⟨_, rfl⟩
  obtain ⟨B, hB⟩ : ∃ A, t.drop (k + 1) = A := ⟨_, rfl⟩
  obtain ⟨m, hm⟩ : ∃ m, k + 1 = m := ⟨_, rfl⟩
  rw [hA] at h1
  rw [hB] at h2
  rw [hA, hB]
  rw [hm] at h2 hwk
  have hsz : ({ data := #[40] } : ByteArray).size = 1 := rfl
  clear h hk ht hA hB hm
  go_enter Tryd.func30, Tryd.ntmps30
  go_wp2_with fail
  refine (HI.out _).mono ?_
  rintro e w1 ⟨rfl, rfl⟩
  go_wp2_with fail
  go_region
  go_wp2
  refine bodyPost_ret (v := .tuple #[.string (bs A), .string (bs B), .bool true]) (by simp [results, Tryd.results30, go_sem]) rfl ⟨rfl, ?_⟩
  go_grown
theorem cuts_none (t : List UInt8) (w : World) (h : Lib.indexByte t 40 = -1) :
    Calls Tryd.prog 15 #[.string (bs t), .string ⟨#[40]⟩] w fun e w' => e = .returned (.tuple #[.string (bs t), .string (bs []), .bool false]) ∧ Below w.heap.size w w' := by
  have HI := Lib.hid fun w => cut_none t w h
  go_enter Tryd.func15, Tryd.ntmps15
  go_wp2_with fail
  refine (HI.out _).mono ?_
  rintro e w1 ⟨rfl, rfl⟩
  go_wp2
  refine bodyPost_ret (v := .tuple #[.string (bs t), .string (bs []), .bool false]) (by simp [results, Tryd.results15, go_sem]) rfl ⟨rfl, ?_⟩
  go_grown
theorem cuts_at (t : List UInt8) (k : Nat) (w : World) (h : Lib.indexByte t 40 = k) (hk : k < t.length) (ht : t.length ≤ 1000000000) :
    Calls Tryd.prog 15 #[.string (bs t), .string ⟨#[40]⟩] w fun e w' => e = .returned (.tuple #[.string (bs (t.take k)), .string (bs (t.drop (k + 1))), .bool true]) ∧ Below w.heap.size w w' := by
  have HI := Lib.hid fun w => cut_at t k w h hk ht
  go_enter Tryd.func15, Tryd.ntmps15
  go_wp2_with fail
  refine (HI.out _).mono ?_
  rintro e w1 ⟨rfl, hb1⟩
  go_wp2
  refine bodyPost_ret (v := .tuple #[.string (bs (t.take k)), .string (bs (t.drop (k + 1))), .bool true]) (by simp [results, Tryd.results15, go_sem]) rfl ⟨rfl, ?_⟩
  exact hb1

set_option maxHeartbeats 2000000 in
theorem ParseSet_any (t : List UInt8) (w : World) (ht : t.length ≤ 1000000000) :
    Calls Tryd.prog 8 #[.string (bs t)] w fun e w' => e = .returned (.tuple #[.agg #[.string (bs (paR t).1.1), .string (bs (paR t).1.2)], .bool (paR t).2]) ∧ Below w.heap.size w w' := by
  rcases idx_spec 40 t with ⟨hi, _⟩ | ⟨k, hk, hi, hb, _⟩
  · have HF : Hid (paR t = (([], []), false)) := Lib.hid (by unfold paR; rw [hi]; rfl)
    have HC := Lib.hid fun w => cuts_none t w hi
    have HU := Lib.hid fun w => suffix_is [] w (by simp)
    have HU2 : Hid (Lib.hasSuffix [] [41] = false) := Lib.hid rfl
    rw [HU2.out] at HU
    rw [show Lib.trimSuffix [] [41] = [] from rfl] at HU
    rw [HF.out]
    clear hi ht
    go_enter Tryd.func8, Tryd.ntmps8
    go_wp2_with fail
    generalize hW0 : World.alloc w _ = W
    obtain ⟨hz, _, hwz⟩ := s2_new hW0
    clear hW0
    refine (HC.out _).mono ?_
    rintro e w1 ⟨rfl, hb1⟩
    have z1 := s2_on hz hb1
    have k1 := below_on hwz hb1
    clear hz hwz hb1
    go_wp2_with fail
    refine (HU.out _).mono ?_
    rintro e w2 ⟨rfl, rfl⟩
    obtain ⟨c0, c1, c2, c3⟩ := id z1
    go_wp2
    generalize hW : World.setCell _ _ _ = W8
    obtain ⟨y8, _, _, hb8⟩ := s2_put hW _ _ z1
    generalize hA : World.alloc W8 _ = W9
    obtain ⟨_, _, hw9⟩ := s2_new hA
    obtain ⟨_, r1, r2, _⟩ := s2_on y8 hw9
    refine bodyPost_ret (v := .tuple #[.agg #[.string ⟨#[]⟩, .string ⟨#[]⟩], .bool false]) (by simp [results, Tryd.results8, go_sem, r1, r2]) rfl ⟨rfl, ?_⟩
    exact below_on (hb8 w k1 (Nat.le_refl _)) hw9
  · have hl := pa_at hk hb
    have HC := Lib.hid fun w => cuts_at t k w hi hk ht
    have HU := Lib.hid fun w => suffix_is (t.drop (k + 1)) w (by rw [List.length_drop]; omega)
    cases hs : Lib.hasSuffix (t.drop (k + 1)) [41] with
    | false =>
      rw [hs] at hl
      have HF : Hid (paR t = (([], []), false)) := Lib.hid (by unfold paR; rw [← hl, Bool.and_false]; rfl)
      rw [hs] at HU
      rw [HF.out]
      obtain ⟨A, hA⟩ : ∃ A, t.take k = A := ⟨_, rfl⟩
      obtain ⟨B, hB⟩ : ∃ A, t.drop (k + 1) = A := ⟨_, rfl⟩
      obtain ⟨D, hD⟩ : ∃ A, Lib.trimSuffix B [41] = A := ⟨_, rfl⟩
      rw [hA, hB] at HC
      rw [hB, hD] at HU
      clear hi ht hl hs hk hb hA hB hD
      go_enter Tryd.func8, Tryd.ntmps8
      go_wp2_with fail
      generalize hW0 : World.alloc w _ = W
      obtain ⟨hz, _, hwz⟩ := s2_new hW0
      clear hW0
      refine (HC.out _).mono ?_
      rintro e w1 ⟨rfl, hb1⟩
      have z1 := s2_on hz hb1
      have k1 := below_on hwz hb1
      clear hz hwz hb1
      go_wp2_with fail
      refine (HU.out _).mono ?_
      rintro e w2 ⟨rfl, rfl⟩
      obtain ⟨c0, c1, c2, c3⟩ := id z1
      go_wp2
      generalize hW : World.setCell _ _ _ = W8
      obtain ⟨y8, _, _, hb8⟩ := s2_put hW _ _ z1
      generalize hA : World.alloc W8 _ = W9
      obtain ⟨_, _, hw9⟩ := s2_new hA
      obtain ⟨_, r1, r2, _⟩ := s2_on y8 hw9
      refine bodyPost_ret (v := .tuple #[.agg #[.string ⟨#[]⟩, .string ⟨#[]⟩], .bool false]) (by simp [results, Tryd.results8, go_sem, r1, r2]) rfl ⟨rfl, ?_⟩
      exact below_on (hb8 w k1 (Nat.le_refl _)) hw9
    | true =>
      rw [hs] at hl
      have hH := pa_head hi
      have hLp := pa_loop hs hi
      have hlh : (paH t).length ≤ 1000000000 := by unfold paH; rw [List.length_take]; omega
      have hll : (paL t).length ≤ 1000000000 := by unfold paL; rw [List.length_take, List.length_drop]; omega
      rw [hs, hLp] at HU
      rw [hH] at HC
      have HV := Lib.hid fun w => SetValid_any (paH t) (paL t) w hlh hll
      have HF0 : Hid (paR t = if svS (paH t) (paL t) then ((paH t, paL t), true) else (([], []), false)) := Lib.hid (by unfold paR; rw [← hl, hi, decide_eq_true (show (0 : Int) ≤ (k : Int) by omega)]; rfl)
      obtain ⟨B, hB⟩ : ∃ A, t.drop (k + 1) = A := ⟨_, rfl⟩
      obtain ⟨X, hX⟩ : ∃ A, paH t = A := ⟨_, rfl⟩
      obtain ⟨Y, hY⟩ : ∃ A, paL t = A := ⟨_, rfl⟩
      obtain ⟨v, hv⟩ : ∃ v, svS X Y = v := ⟨_, rfl⟩
      rw [hX, hY] at HV HF0
      rw [hv] at HV HF0
      rw [hX, hB] at HC
      rw [hB, hY] at HU
      clear hi ht hl hs hk hb hH hLp hlh hll hB hX hY hv
      cases v with
      | false =>
        have HF : Hid (paR t = (([], []), false)) := Lib.hid (by rw [HF0.out]; rfl)
        rw [HF.out]
        go_enter Tryd.func8, Tryd.ntmps8
        go_wp2_with fail
        generalize hW0 : World.alloc w _ = W
        obtain ⟨hz, _, hwz⟩ := s2_new hW0
        clear hW0
        refine (HC.out _).mono ?_
        rintro e w1 ⟨rfl, hb1⟩
        have z1 := s2_on hz hb1
        have k1 := below_on hwz hb1
        clear hz hwz hb1
        go_wp2_with fail
        refine (HU.out _).mono ?_
        rintro e w2 ⟨rfl, rfl⟩
        obtain ⟨c0, c1, c2, c3⟩ := id z1
        go_wp2_with fail
        generalize hW : World.alloc _ _ = W2
        obtain ⟨hx, _, hw2⟩ := s2_new hW
        clear hW
        have z2 := s2_on z1 hw2
        have k2 := below_on k1 hw2
        clear z1 k1 hw2 c0 c1 c2 c3
        obtain ⟨c0, c1, c2, c3⟩ := id z2
        obtain ⟨x0, x1, x2, x3⟩ := id hx
        refine (HV.out _).mono ?_
        rintro e w3 ⟨rfl, hb3⟩
        have z3 := s2_on z2 hb3
        have X3 := s2_on hx hb3
        have k3 := below_on k2 hb3
        clear c0 c1 c2 c3 x0 x1 x2 x3 z2 hx k2 hb3
        obtain ⟨c0, c1, c2, c3⟩ := id z3
        obtain ⟨x0, x1, x2, x3⟩ := id X3
        go_wp2
        generalize hW : World.setCell _ _ _ = W8
        obtain ⟨⟨_, r1, r2, _⟩, _, _, hb8⟩ := s2_put hW _ _ z3
        refine bodyPost_ret (v := .tuple #[.agg #[.string ⟨#[]⟩, .string ⟨#[]⟩], .bool false]) (by simp [results, Tryd.results8, go_sem, r1, r2]) rfl ⟨rfl, ?_⟩
        exact hb8 w k3 (Nat.le_refl _)
      | true =>
        have HF : Hid (paR t = ((X, Y), true)) := Lib.hid (by rw [HF0.out]; rfl)
        rw [HF.out]
        go_enter Tryd.func8, Tryd.ntmps8
        go_wp2_with fail
        generalize hW0 : World.alloc w _ = W
        obtain ⟨hz, _, hwz⟩ := s2_new hW0
        clear hW0
        refine (HC.out _).mono ?_
        rintro e w1 ⟨rfl, hb1⟩
        have z1 := s2_on hz hb1
        have k1 := below_on hwz hb1
        clear hz hwz hb1
        go_wp2_with fail
        refine (HU.out _).mono ?_
        rintro e w2 ⟨rfl, rfl⟩
        obtain ⟨c0, c1, c2, c3⟩ := id z1
        go_wp2_with fail
        generalize hW : World.alloc _ _ = W2
        obtain ⟨hx, _, hw2⟩ := s2_new hW
        clear hW
        have z2 := s2_on z1 hw2
        have k2 := below_on k1 hw2
        clear z1 k1 hw2 c0 c1 c2 c3
        obtain ⟨c0, c1, c2, c3⟩ := id z2
        obtain ⟨x0, x1, x2, x3⟩ := id hx
        refine (HV.out _).mono ?_
        rintro e w3 ⟨rfl, hb3⟩
        have z3 := s2_on z2 hb3
        have X3 := s2_on hx hb3
        have k3 := below_on k2 hb3
        clear c0 c1 c2 c3 x0 x1 x2 x3 z2 hx k2 hb3
        obtain ⟨c0, c1, c2, c3⟩ := id z3
        obtain ⟨x0, x1, x2, x3⟩ := id X3
        go_wp2
        generalize hW : World.setCell _ _ _ = W8
        obtain ⟨⟨_, r1, r2, _⟩, _, _, hb8⟩ := s2_put hW _ _ z3
        refine bodyPost_ret (v := .tuple #[.agg #[.string (bs (((X, Y), true)).1.1), .string (bs (((X, Y), true)).1.2)], .bool (((X, Y), true)).2]) (by simp [results, Tryd.results8, go_sem, r1, r2]) rfl ⟨rfl, ?_⟩
        exact hb8 w k3 (Nat.le_refl _)
end Go.Proofs.YtbfjppliploloaaDoor
