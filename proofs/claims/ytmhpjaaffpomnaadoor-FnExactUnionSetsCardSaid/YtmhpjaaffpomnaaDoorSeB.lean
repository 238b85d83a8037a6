/- UnionSets and MeetSets of the model; its repetitions, its changed bits. -/
import Derived.Test.YtmhpjaaffpomnaaDoorSeA
namespace Go.Proofs.YtmhpjaaffpomnaaDoor
open Go.RowKit

theorem both_or : bothB false = fun x y => x || y := by
  funext x y
  cases x <;> cases y <;> rfl

set_option maxRecDepth 10000 in
set_option maxHeartbeats 2000000 in
theorem specUnionSets_any (h l h' l' : List UInt8) (w : World) (hh : h.length ≤ 1000000000) (hl : l.length ≤ 1000000000) (hh' : h'.length ≤ 1000000000) (hl' : l'.length ≤ 1000000000) :
    Calls Tryd.prog 26 #[.agg #[.string (bs h), .string (bs l)], .agg #[.string (bs h'), .string (bs l')]] w fun e w' => e = .returned (.tuple #[.agg #[.string (bs (combR (fun x y => x || y) h l h' l').1.1), .string (bs (combR (fun x y => x || y) h l h' l').1.2)], .bool (combR (fun x y => x || y) h l h' l').2]) ∧ Below w.heap.size w w' := by
  have HV := Lib.hid fun w => specSetValid_b h l w hh hl
  have HV2 := Lib.hid fun w => specSetValid_b h' l' w hh' hl'
  have HL := Lib.hid (l7Both_any h l h' l' false)
  rw [both_or] at HL
  obtain ⟨v, hv⟩ : ∃ v, svS h l = v := ⟨_, rfl⟩
  obtain ⟨v2, hv2⟩ : ∃ v, svS h' l' = v := ⟨_, rfl⟩
  have HQ : Hid (svS h l = v) := Lib.hid hv
  have HQ2 : Hid (svS h' l' = v2) := Lib.hid hv2
  rw [hv] at HV
  rw [hv2] at HV2
  clear hv hv2 hh hl hh' hl'
  cases v with
  | false =>
    have HF : Hid (combR (fun x y => x || y) h l h' l' = (([], []), false)) := Lib.hid (by unfold combR; rw [HQ.out]; rfl)
    go_enter Tryd.func26, Tryd.ntmps26
    go_wp2_with fail
    generalize hW0 : World.alloc w _ = W0
    obtain ⟨hx, hsx, hwx⟩ := s2_new hW0
    clear hW0
    generalize hW : World.alloc W0 _ = W1
    obtain ⟨hz, hsz, hwz⟩ := s2_new hW
    rw [hsx] at hz
    clear hW
    generalize hW : World.alloc W1 _ = W2
    obtain ⟨hr, hsr, hwr⟩ := s2_new hW
    rw [hsz, hsx] at hr
    clear hW
    have X1 := s2_on hx (below_on hwz hwr)
    have Z1 := s2_on hz hwr
    have B1 := below_on hwx (below_on hwz hwr)
    have hne : w.heap.size ≤ w.heap.size + 1 + 1 := by omega
    clear hx hz hwx hwz hwr hsx hsz hsr
    refine (HV.out _).mono ?_
    rintro e w3 ⟨rfl, hb3⟩
    have X3 := s2_on X1 hb3
    have Z3 := s2_on Z1 hb3
    have R3 := s2_on hr hb3
    have B3 := below_on B1 hb3
    clear X1 Z1 hr B1 hb3
    obtain ⟨x0, x1, x2, x3⟩ := id X3
    obtain ⟨z0, z1, z2, z3⟩ := id Z3
    obtain ⟨a0, a1, a2, a3⟩ := id R3
    go_wp2
    generalize hW : World.setCell _ _ _ = W8
    obtain ⟨⟨_, r1, r2, _⟩, _, _, hb8⟩ := s2_put hW _ _ R3
    refine bodyPost_ret (v := .tuple #[.agg #[.string ⟨#[]⟩, .string ⟨#[]⟩], .bool false]) (by simp [results, Tryd.results26, go_sem, r1, r2]) rfl ⟨by rw [HF.out]; rfl, ?_⟩
    exact hb8 w B3 hne
  | true =>
    cases v2 with
    | false =>
      have HF : Hid (combR (fun x y => x || y) h l h' l' = (([], []), false)) := Lib.hid (by unfold combR; rw [HQ.out, HQ2.out]; rfl)
      go_enter Tryd.func26, Tryd.ntmps26
      go_wp2_with fail
      generalize hW0 : World.alloc w _ = W0
      obtain ⟨hx, hsx, hwx⟩ := s2_new hW0
      clear hW0
      generalize hW : World.alloc W0 _ = W1
      obtain ⟨hz, hsz, hwz⟩ := s2_new hW
      rw [hsx] at hz
      clear hW
      generalize hW : World.alloc W1 _ = W2
      obtain ⟨hr, hsr, hwr⟩ := s2_new hW
      rw [hsz, hsx] at hr
      clear hW
      have X1 := s2_on hx (below_on hwz hwr)
      have Z1 := s2_on hz hwr
      have B1 := below_on hwx (below_on hwz hwr)
      have hne : w.heap.size ≤ w.heap.size + 1 + 1 := by omega
      clear hx hz hwx hwz hwr hsx hsz hsr
      refine (HV.out _).mono ?_
      rintro e w3 ⟨rfl, hb3⟩
      have X3 := s2_on X1 hb3
      have Z3 := s2_on Z1 hb3
      have R3 := s2_on hr hb3
      have B3 := below_on B1 hb3
      clear X1 Z1 hr B1 hb3
      obtain ⟨x0, x1, x2, x3⟩ := id X3
      obtain ⟨z0, z1, z2, z3⟩ := id Z3
      obtain ⟨a0, a1, a2, a3⟩ := id R3
      go_wp2_with fail
      refine (HV2.out _).mono ?_
      rintro e w4 ⟨rfl, hb4⟩
      have X4 := s2_on X3 hb4
      have Z4 := s2_on Z3 hb4
      have R4 := s2_on R3 hb4
      have B4 := below_on B3 hb4
      clear X3 Z3 R3 B3 hb4 x0 x1 x2 x3 z0 z1 z2 z3 a0 a1 a2 a3
      obtain ⟨x0, x1, x2, x3⟩ := id X4
      obtain ⟨z0, z1, z2, z3⟩ := id Z4
      obtain ⟨a0, a1, a2, a3⟩ := id R4
      go_wp2
      generalize hW : World.setCell _ _ _ = W8
      obtain ⟨⟨_, r1, r2, _⟩, _, _, hb8⟩ := s2_put hW _ _ R4
      refine bodyPost_ret (v := .tuple #[.agg #[.string ⟨#[]⟩, .string ⟨#[]⟩], .bool false]) (by simp [results, Tryd.results26, go_sem, r1, r2]) rfl ⟨by rw [HF.out]; rfl, ?_⟩
      exact hb8 w B4 hne
    | true =>
      have HF : Hid (combR (fun x y => x || y) h l h' l' = resA (fun n => bitS ((fun x y => x || y) (inS (atS h l) n) (inS (atS h' l') n)))) := Lib.hid (by unfold combR; rw [HQ.out, HQ2.out]; rfl)
      have HR := Lib.hid fun w => HL.out w HQ.out HQ2.out
      obtain ⟨r, hr⟩ : ∃ r, resA (fun n => bitS ((fun x y => x || y) (inS (atS h l) n) (inS (atS h' l') n))) = r := ⟨_, rfl⟩
      rw [hr] at HF HR
      clear hr HL
      go_enter Tryd.func26, Tryd.ntmps26
      go_wp2_with fail
      generalize hW0 : World.alloc w _ = W0
      obtain ⟨hx, hsx, hwx⟩ := s2_new hW0
      clear hW0
      generalize hW : World.alloc W0 _ = W1
      obtain ⟨hz, hsz, hwz⟩ := s2_new hW
      rw [hsx] at hz
      clear hW
      generalize hW : World.alloc W1 _ = W2
      obtain ⟨hr, hsr, hwr⟩ := s2_new hW
      rw [hsz, hsx] at hr
      clear hW
      have X1 := s2_on hx (below_on hwz hwr)
      have Z1 := s2_on hz hwr
      have B1 := below_on hwx (below_on hwz hwr)
      have hne : w.heap.size ≤ w.heap.size + 1 + 1 := by omega
      clear hx hz hwx hwz hwr hsx hsz hsr
      refine (HV.out _).mono ?_
      rintro e w3 ⟨rfl, hb3⟩
      have X3 := s2_on X1 hb3
      have Z3 := s2_on Z1 hb3
      have R3 := s2_on hr hb3
      have B3 := below_on B1 hb3
      clear X1 Z1 hr B1 hb3
      obtain ⟨x0, x1, x2, x3⟩ := id X3
      obtain ⟨z0, z1, z2, z3⟩ := id Z3
      obtain ⟨a0, a1, a2, a3⟩ := id R3
      go_wp2_with fail
      refine (HV2.out _).mono ?_
      rintro e w4 ⟨rfl, hb4⟩
      have X4 := s2_on X3 hb4
      have Z4 := s2_on Z3 hb4
      have R4 := s2_on R3 hb4
      have B4 := below_on B3 hb4
      clear X3 Z3 R3 B3 hb4 x0 x1 x2 x3 z0 z1 z2 z3 a0 a1 a2 a3
      obtain ⟨x0, x1, x2, x3⟩ := id X4
      obtain ⟨z0, z1, z2, z3⟩ := id Z4
      obtain ⟨a0, a1, a2, a3⟩ := id R4
      go_wp2_with fail
      refine (HR.out _).mono ?_
      rintro e w5 ⟨rfl, hb5⟩
      have R5 := s2_on R4 hb5
      have B5 := below_on B4 hb5
      clear X4 Z4 R4 B4 hb5 x0 x1 x2 x3 z0 z1 z2 z3 a0 a1 a2 a3
      obtain ⟨a0, a1, a2, a3⟩ := id R5
      go_wp2
      generalize hW : World.setCell _ _ _ = W8
      obtain ⟨⟨_, r1, r2, _⟩, _, _, hb8⟩ := s2_put hW _ _ R5
      refine bodyPost_ret (v := .tuple #[.agg #[.string (bs r.1.1), .string (bs r.1.2)], .bool r.2]) (by simp [results, Tryd.results26, go_sem, r1, r2]) rfl ⟨by rw [HF.out], ?_⟩
      exact hb8 w B5 hne

theorem both_and : bothB true = fun x y => x && y := by
  funext x y
  cases x <;> cases y <;> rfl

set_option maxRecDepth 10000 in
set_option maxHeartbeats 2000000 in
theorem specMeetSets_any (h l h' l' : List UInt8) (w : World) (hh : h.length ≤ 1000000000) (hl : l.length ≤ 1000000000) (hh' : h'.length ≤ 1000000000) (hl' : l'.length ≤ 1000000000) :
    Calls Tryd.prog 28 #[.agg #[.string (bs h), .string (bs l)], .agg #[.string (bs h'), .string (bs l')]] w fun e w' => e = .returned (.tuple #[.agg #[.string (bs (combR (fun x y => x && y) h l h' l').1.1), .string (bs (combR (fun x y => x && y) h l h' l').1.2)], .bool (combR (fun x y => x && y) h l h' l').2]) ∧ Below w.heap.size w w' := by
  have HV := Lib.hid fun w => specSetValid_b h l w hh hl
  have HV2 := Lib.hid fun w => specSetValid_b h' l' w hh' hl'
  have HL := Lib.hid (l7Both_any h l h' l' true)
  rw [both_and] at HL
  obtain ⟨v, hv⟩ : ∃ v, svS h l = v := ⟨_, rfl⟩
  obtain ⟨v2, hv2⟩ : ∃ v, svS h' l' = v := ⟨_, rfl⟩
  have HQ : Hid (svS h l = v) := Lib.hid hv
  have HQ2 : Hid (svS h' l' = v2) := Lib.hid hv2
  rw [hv] at HV
  rw [hv2] at HV2
  clear hv hv2 hh hl hh' hl'
  cases v with
  | false =>
    have HF : Hid (combR (fun x y => x && y) h l h' l' = (([], []), false)) := Lib.hid (by unfold combR; rw [HQ.out]; rfl)
    go_enter Tryd.func28, Tryd.ntmps28
    go_wp2_with fail
    generalize hW0 : World.alloc w _ = W0
    obtain ⟨hx, hsx, hwx⟩ := s2_new hW0
    clear hW0
    generalize hW : World.alloc W0 _ = W1
    obtain ⟨hz, hsz, hwz⟩ := s2_new hW
    rw [hsx] at hz
    clear hW
    generalize hW : World.alloc W1 _ = W2
    obtain ⟨hr, hsr, hwr⟩ := s2_new hW
    rw [hsz, hsx] at hr
    clear hW
    have X1 := s2_on hx (below_on hwz hwr)
    have Z1 := s2_on hz hwr
    have B1 := below_on hwx (below_on hwz hwr)
    have hne : w.heap.size ≤ w.heap.size + 1 + 1 := by omega
    clear hx hz hwx hwz hwr hsx hsz hsr
    refine (HV.out _).mono ?_
    rintro e w3 ⟨rfl, hb3⟩
    have X3 := s2_on X1 hb3
    have Z3 := s2_on Z1 hb3
    have R3 := s2_on hr hb3
    have B3 := below_on B1 hb3
    clear X1 Z1 hr B1 hb3
    obtain ⟨x0, x1, x2, x3⟩ := id X3
    obtain ⟨z0, z1, z2, z3⟩ := id Z3
    obtain ⟨a0, a1, a2, a3⟩ := id R3
    go_wp2
    generalize hW : World.setCell _ _ _ = W8
    obtain ⟨⟨_, r1, r2, _⟩, _, _, hb8⟩ := s2_put hW _ _ R3
    refine bodyPost_ret (v := .tuple #[.agg #[.string ⟨#[]⟩, .string ⟨#[]⟩], .bool false]) (by simp [results, Tryd.results28, go_sem, r1, r2]) rfl ⟨by rw [HF.out]; rfl, ?_⟩
    exact hb8 w B3 hne
  | true =>
    cases v2 with
    | false =>
      have HF : Hid (combR (fun x y => x && y) h l h' l' = (([], []), false)) := Lib.hid (by unfold combR; rw [HQ.out, HQ2.out]; rfl)
      go_enter Tryd.func28, Tryd.ntmps28
      go_wp2_with fail
      generalize hW0 : World.alloc w _ = W0
      obtain ⟨hx, hsx, hwx⟩ := s2_new hW0
      clear hW0
      generalize hW : World.alloc W0 _ = W1
      obtain ⟨hz, hsz, hwz⟩ := s2_new hW
      rw [hsx] at hz
      clear hW
      generalize hW : World.alloc W1 _ = W2
      obtain ⟨hr, hsr, hwr⟩ := s2_new hW
      rw [hsz, hsx] at hr
      clear hW
      have X1 := s2_on hx (below_on hwz hwr)
      have Z1 := s2_on hz hwr
      have B1 := below_on hwx (below_on hwz hwr)
      have hne : w.heap.size ≤ w.heap.size + 1 + 1 := by omega
      clear hx hz hwx hwz hwr hsx hsz hsr
      refine (HV.out _).mono ?_
      rintro e w3 ⟨rfl, hb3⟩
      have X3 := s2_on X1 hb3
      have Z3 := s2_on Z1 hb3
      have R3 := s2_on hr hb3
      have B3 := below_on B1 hb3
      clear X1 Z1 hr B1 hb3
      obtain ⟨x0, x1, x2, x3⟩ := id X3
      obtain ⟨z0, z1, z2, z3⟩ := id Z3
      obtain ⟨a0, a1, a2, a3⟩ := id R3
      go_wp2_with fail
      refine (HV2.out _).mono ?_
      rintro e w4 ⟨rfl, hb4⟩
      have X4 := s2_on X3 hb4
      have Z4 := s2_on Z3 hb4
      have R4 := s2_on R3 hb4
      have B4 := below_on B3 hb4
      clear X3 Z3 R3 B3 hb4 x0 x1 x2 x3 z0 z1 z2 z3 a0 a1 a2 a3
      obtain ⟨x0, x1, x2, x3⟩ := id X4
      obtain ⟨z0, z1, z2, z3⟩ := id Z4
      obtain ⟨a0, a1, a2, a3⟩ := id R4
      go_wp2
      generalize hW : World.setCell _ _ _ = W8
      obtain ⟨⟨_, r1, r2, _⟩, _, _, hb8⟩ := s2_put hW _ _ R4
      refine bodyPost_ret (v := .tuple #[.agg #[.string ⟨#[]⟩, .string ⟨#[]⟩], .bool false]) (by simp [results, Tryd.results28, go_sem, r1, r2]) rfl ⟨by rw [HF.out]; rfl, ?_⟩
      exact hb8 w B4 hne
    | true =>
      have HF : Hid (combR (fun x y => x && y) h l h' l' = resA (fun n => bitS ((fun x y => x && y) (inS (atS h l) n) (inS (atS h' l') n)))) := Lib.hid (by unfold combR; rw [HQ.out, HQ2.out]; rfl)
      have HR := Lib.hid fun w => HL.out w HQ.out HQ2.out
      obtain ⟨r, hr⟩ : ∃ r, resA (fun n => bitS ((fun x y => x && y) (inS (atS h l) n) (inS (atS h' l') n))) = r := ⟨_, rfl⟩
      rw [hr] at HF HR
      clear hr HL
      go_enter Tryd.func28, Tryd.ntmps28
      go_wp2_with fail
      generalize hW0 : World.alloc w _ = W0
      obtain ⟨hx, hsx, hwx⟩ := s2_new hW0
      clear hW0
      generalize hW : World.alloc W0 _ = W1
      obtain ⟨hz, hsz, hwz⟩ := s2_new hW
      rw [hsx] at hz
      clear hW
      generalize hW : World.alloc W1 _ = W2
      obtain ⟨hr, hsr, hwr⟩ := s2_new hW
      rw [hsz, hsx] at hr
      clear hW
      have X1 := s2_on hx (below_on hwz hwr)
      have Z1 := s2_on hz hwr
      have B1 := below_on hwx (below_on hwz hwr)
      have hne : w.heap.size ≤ w.heap.size + 1 + 1 := by omega
      clear hx hz hwx hwz hwr hsx hsz hsr
      refine (HV.out _).mono ?_
      rintro e w3 ⟨rfl, hb3⟩
      have X3 := s2_on X1 hb3
      have Z3 := s2_on Z1 hb3
      have R3 := s2_on hr hb3
      have B3 := below_on B1 hb3
      clear X1 Z1 hr B1 hb3
      obtain ⟨x0, x1, x2, x3⟩ := id X3
      obtain ⟨z0, z1, z2, z3⟩ := id Z3
      obtain ⟨a0, a1, a2, a3⟩ := id R3
      go_wp2_with fail
      refine (HV2.out _).mono ?_
      rintro e w4 ⟨rfl, hb4⟩
      have X4 := s2_on X3 hb4
      have Z4 := s2_on Z3 hb4
      have R4 := s2_on R3 hb4
      have B4 := below_on B3 hb4
      clear X3 Z3 R3 B3 hb4 x0 x1 x2 x3 z0 z1 z2 z3 a0 a1 a2 a3
      obtain ⟨x0, x1, x2, x3⟩ := id X4
      obtain ⟨z0, z1, z2, z3⟩ := id Z4
      obtain ⟨a0, a1, a2, a3⟩ := id R4
      go_wp2_with fail
      refine (HR.out _).mono ?_
      rintro e w5 ⟨rfl, hb5⟩
      have R5 := s2_on R4 hb5
      have B5 := below_on B4 hb5
      clear X4 Z4 R4 B4 hb5 x0 x1 x2 x3 z0 z1 z2 z3 a0 a1 a2 a3
      obtain ⟨a0, a1, a2, a3⟩ := id R5
      go_wp2
      generalize hW : World.setCell _ _ _ = W8
      obtain ⟨⟨_, r1, r2, _⟩, _, _, hb8⟩ := s2_put hW _ _ R5
      refine bodyPost_ret (v := .tuple #[.agg #[.string (bs r.1.1), .string (bs r.1.2)], .bool r.2]) (by simp [results, Tryd.results28, go_sem, r1, r2]) rfl ⟨by rw [HF.out], ?_⟩
      exact hb8 w B5 hne

/-- A string again and again. -/
def repL (x : List UInt8) (n : Nat) : List UInt8 := (List.replicate n x).flatten
theorem rep_len (x : List UInt8) (n : Nat) : (repL x n).length = n * x.length := by
  unfold repL
  simp [List.length_flatten]
theorem rep_two (x : List UInt8) (n : Nat) : repL (x ++ x) n = repL x (n + n) := by
  induction n with
  | zero => rfl
  | succ n ih =>
    have e1 : repL (x ++ x) (n + 1) = (x ++ x) ++ repL (x ++ x) n := by unfold repL; rw [List.replicate_succ, List.flatten_cons]
    have e2 : repL x (n + 1 + (n + 1)) = x ++ (x ++ repL x (n + n)) := by
      rw [show n + 1 + (n + 1) = (n + n) + 1 + 1 by omega]
      unfold repL
      rw [List.replicate_succ, List.replicate_succ, List.flatten_cons, List.flatten_cons]
    rw [e1, ih, e2, List.append_assoc]
theorem rep_odd (x : List UInt8) (n : Nat) : x ++ repL (x ++ x) n = repL x (n + n + 1) := by
  rw [rep_two]
  unfold repL
  rw [List.replicate_succ, List.flatten_cons]
theorem rep_zero (n : Nat) : repL [48] n = List.replicate n 48 := by
  unfold repL
  induction n with
  | zero => rfl
  | succ n ih => rw [List.replicate_succ, List.flatten_cons, ih, List.replicate_succ]; rfl

set_option maxHeartbeats 2000000 in
theorem l17Many_any (x0 : List UInt8) (n0 : Nat) (w : World) (hx0 : x0.length ≤ 1000) (hn0 : n0 ≤ 100000) :
    Calls Tryd.prog 56 #[.string (bs x0), .int .i64 n0] w fun e w' => e = .returned (.string (bs (repL x0 n0))) ∧ w = w' := by
  have happ := bs_app
  have hb0 : ({ data := #[] } : ByteArray) = bs [] := rfl
  obtain ⟨T, hT⟩ : ∃ T, repL x0 n0 = T := ⟨_, rfl⟩
  have HTL : Hid (T.length ≤ 100000000) := Lib.hid (by rw [← hT, rep_len]; exact Nat.le_trans (Nat.mul_le_mul hn0 hx0) (by omega))
  have hst : Hid ([] ++ repL x0 n0 = T) := Lib.hid (by rw [← hT]; rfl)
  rw [hT]
  clear hT
  go_enter Tryd.func56, Tryd.ntmps56
  go_wp2
  go_loopw [0, 1, 5] (fun s i o wr => ∃ (X O : List UInt8) (n : Nat), s = .string (bs X) ∧ i = .int .i64 n ∧ o = .string (bs O) ∧ wr = w ∧ n ≤ 100000 ∧ X.length ≤ 1000000000 ∧ O ++ repL X n = T) (fun _ i _ _ => (intOf i).toNat)
  case atStart => exact ⟨x0, [], n0, rfl, rfl, rfl, rfl, hn0, by omega, hst.out⟩
  case round =>
    obtain ⟨X, O, n, rfl, rfl, rfl, rfl, hn, hX, ht⟩ := hrel
    have HT := Lib.hid ht
    have hz1 := bs_size X
    have hz2 := bs_size O
    have hO : O.length ≤ 100000000 := by have := HTL.out; rw [← ht, List.length_append] at this; omega
    obtain ⟨m, hm⟩ : ∃ m, n / 2 = m := ⟨_, rfl⟩
    have hd : (n : Int).tdiv 2 = (m : Int) := by rw [Int.tdiv_eq_ediv_of_nonneg (by omega)]; omega
    have hwm : IntKind.i64.wrap (m : Int) = (m : Int) := by rw [IntKind.wrap_i64]; omega
    have hmn : m ≤ n ∧ (0 < n → m < n) := by omega
    by_cases h0 : 0 < n
    · have g0 : decide ((0 : Int) < (n : Int)) = true := decide_eq_true (by omega)
      have g1 : decide (0 < n) = true := decide_eq_true h0
      have hXT : X.length * n ≤ 100000000 := by
        have := HTL.out
        rw [← ht, List.length_append, rep_len] at this
        rw [Nat.mul_comm]
        omega
      have hXb : X.length ≤ 100000000 := Nat.le_trans (Nat.le_mul_of_pos_right _ h0) hXT
      have hX2 : (X ++ X).length ≤ 1000000000 := by rw [List.length_append]; omega
      obtain ⟨r, hr⟩ : ∃ r, n % 2 = r := ⟨_, rfl⟩
      have ht2 : (n : Int).tmod 2 = (r : Int) := by rw [Int.tmod_eq_emod_of_nonneg (by omega)]; omega
      have HX2 := Lib.hid hX2
      obtain ⟨a, ha⟩ : ∃ a, X.length = a := ⟨_, rfl⟩
      obtain ⟨b, hb⟩ : ∃ a, O.length = a := ⟨_, rfl⟩
      rw [ha] at hz1 hXb
      rw [hb] at hz2 hO
      by_cases hodd : r = 1
      · have e1 : ((r : Int) == 1) = true := by rw [hodd]; rfl
        have HN : Hid ((O ++ X) ++ repL (X ++ X) m = T) := Lib.hid (by rw [List.append_assoc, rep_odd, ← HT.out]; congr 2; omega)
        clear ht hXT hX2 hodd hr hm ha hb
        go_wp2
        go_roundw
        case rel => exact ⟨X ++ X, O ++ X, m, rfl, rfl, rfl, trivial, by omega, HX2.out, HN.out⟩
        case measure => simp [intOf]; omega
      · have e1 : ((r : Int) == 1) = false := by rw [beq_eq_false_iff_ne]; omega
        have HN : Hid (O ++ repL (X ++ X) m = T) := Lib.hid (by rw [rep_two, ← HT.out]; congr 2; omega)
        clear ht hXT hX2 hodd hr hm ha hb
        go_wp2
        go_roundw
        case rel => exact ⟨X ++ X, O, m, rfl, rfl, rfl, trivial, by omega, HX2.out, HN.out⟩
        case measure => simp [intOf]; omega
    · have g0 : decide ((0 : Int) < (n : Int)) = false := decide_eq_false (by omega)
      have g1 : decide (0 < n) = false := decide_eq_false h0
      have hF : Hid (O = T) := Lib.hid (by rw [← ht, show n = 0 by omega]; simp [repL])
      clear ht hd hwm hm
      go_wp2
      go_ret
      exact ⟨by rw [hF.out]; rfl, rfl⟩

end Go.Proofs.YtmhpjaaffpomnaaDoor
