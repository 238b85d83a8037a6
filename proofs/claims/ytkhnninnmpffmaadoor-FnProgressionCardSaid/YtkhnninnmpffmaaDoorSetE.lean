/- The model's results: the normal form where it is valid; NormalSet, HasNumber. -/
import Derived.Test.YtkhnninnmpffmaaDoorSetD
namespace Go.Proofs.YtkhnninnmpffmaaDoor
open Go.RowKit

theorem res_yes {h l : List UInt8} (hl : l ≠ []) (h1 : ∀ x ∈ h, x = 48 ∨ x = 49) (h2 : ∀ x ∈ l, x = 48 ∨ x = 49) (hv : svS (nfS h l).1 (nfS h l).2 = true) : resA (atS h l) = (nfS h l, true) := by
  rw [sv_nf hl h1 h2, decide_eq_true_eq] at hv
  rw [res_nf hl, if_pos hv]
theorem res_no {h l : List UInt8} (hl : l ≠ []) (h1 : ∀ x ∈ h, x = 48 ∨ x = 49) (h2 : ∀ x ∈ l, x = 48 ∨ x = 49) (hv : svS (nfS h l).1 (nfS h l).2 = false) : resA (atS h l) = (([], []), false) := by
  rw [sv_nf hl h1 h2, decide_eq_false_iff_not] at hv
  rw [res_nf hl, if_neg hv]

set_option maxHeartbeats 1000000 in
theorem l7Result_any (h l : List UInt8) (w : World) (hl0 : l ≠ []) (h1 : ∀ x ∈ h, x = 48 ∨ x = 49) (h2 : ∀ x ∈ l, x = 48 ∨ x = 49) (hh : h.length ≤ 1000000000) (hl : l.length ≤ 1000000000) :
    Calls Tryd.prog 16 #[.string (bs h), .string (bs l)] w fun e w' => e = .returned (.tuple #[.agg #[.string (bs (resA (atS h l)).1.1), .string (bs (resA (atS h l)).1.2)], .bool (resA (atS h l)).2]) ∧ Below w.heap.size w w' := by
  have HN := Lib.hid fun w => l7Normal_any h l w hl0 hh hl
  have HY := Lib.hid (res_yes hl0 h1 h2)
  have HO := Lib.hid (res_no hl0 h1 h2)
  obtain ⟨_, _, q1, q2, _⟩ := nfS_spec (h := h) hl0
  have HV := Lib.hid fun w => specSetValid_any (nfS h l).1 (nfS h l).2 w (by omega) (by omega)
  obtain ⟨H, hH⟩ : ∃ H, (nfS h l).1 = H := ⟨_, rfl⟩
  obtain ⟨L, hL⟩ : ∃ L, (nfS h l).2 = L := ⟨_, rfl⟩
  have HP : Hid (nfS h l = (H, L)) := Lib.hid (by rw [← hH, ← hL])
  obtain ⟨v, hv⟩ : ∃ v, svS H L = v := ⟨_, rfl⟩
  rw [hH, hL] at HN HY HO HV
  rw [hv] at HY HO HV
  clear q1 q2 hH hL hv hl0 h1 h2 hh hl
  go_enter Tryd.func16, Tryd.ntmps16
  go_wp2_with fail
  generalize hW : World.alloc w _ = W
  obtain ⟨hz, hsW, hw0⟩ := s2_new hW
  clear hW
  refine (HN.out _).mono ?_
  rintro e w1 ⟨rfl, hb1⟩
  have hz1 := s2_on hz hb1
  have hb1' := below_on hw0 hb1
  go_wp2_with fail
  generalize hW : World.alloc w1 _ = W2
  obtain ⟨hx, hsW2, hw2⟩ := s2_new hW
  clear hW
  have hz2 := s2_on hz1 hw2
  have hb2 := below_on hb1' hw2
  obtain ⟨x0, x1, x2, x3⟩ := id hx
  refine (HV.out _).mono ?_
  rintro e w3 ⟨rfl, hw⟩
  have hg3 : Below W2.heap.size W2 w3 := by subst hw; go_grown
  clear hw
  have hx3 := s2_on hx hg3
  have hz3 := s2_on hz2 hg3
  have hb3 := below_on hb2 hg3
  obtain ⟨a0, a1, a2, a3⟩ := id hx3
  obtain ⟨c0, c1, c2, c3⟩ := id hz3
  clear x0 x1 x2 x3
  cases v with
  | true =>
    have HF := Lib.hid (HY.out rfl)
    go_wp2
    generalize hW : World.setCell _ _ _ = W8
    obtain ⟨⟨_, r1, r2, _⟩, _, _, hb8⟩ := s2_put hW _ _ hz3
    refine bodyPost_ret (v := .tuple #[.agg #[.string (bs (((H, L), true)).1.1), .string (bs (((H, L), true)).1.2)], .bool (((H, L), true)).2]) (by simp [results, Tryd.results16, go_sem, r1, r2]) rfl ⟨by rw [HF.out, HP.out], ?_⟩
    exact hb8 w hb3 (Nat.le_refl _)
  | false =>
    have HF := Lib.hid (HO.out rfl)
    go_wp2
    generalize hW : World.setCell _ _ _ = W8
    obtain ⟨⟨_, r1, r2, _⟩, _, _, hb8⟩ := s2_put hW _ _ hz3
    refine bodyPost_ret (v := .tuple #[.agg #[.string ⟨#[]⟩, .string ⟨#[]⟩], .bool false]) (by simp [results, Tryd.results16, go_sem, r1, r2]) rfl ⟨by rw [HF.out]; rfl, ?_⟩
    exact hb8 w hb3 (Nat.le_refl _)

theorem specSetValid_b (h l : List UInt8) (w : World) (hh : h.length ≤ 1000000000) (hl : l.length ≤ 1000000000) :
    Calls Tryd.prog 27 #[.agg #[.string (bs h), .string (bs l)]] w fun e w' => e = .returned (.bool (svS h l)) ∧ Below w.heap.size w w' :=
  (specSetValid_any h l w hh hl).mono fun _ _ ⟨he, hw⟩ => ⟨he, by subst hw; go_grown⟩

/-- What NormalSet answers. -/
noncomputable def normR (h l : List UInt8) : (List UInt8 × List UInt8) × Bool := if svS h l = true then resA (atS h l) else (([], []), false)

end Go.Proofs.YtkhnninnmpffmaaDoor
