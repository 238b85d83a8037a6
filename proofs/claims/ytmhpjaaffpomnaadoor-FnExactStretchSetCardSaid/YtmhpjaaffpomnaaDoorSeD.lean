/- ProgressionSet, ShiftSet, StretchSet of the model. -/
import Derived.Test.YtmhpjaaffpomnaaDoorSeC
namespace Go.Proofs.YtmhpjaaffpomnaaDoor
open Go.RowKit

theorem bits_rep (n : Nat) : ∀ x ∈ List.replicate n (48 : UInt8), x = 48 ∨ x = 49 := fun _ hx => .inl (List.eq_of_mem_replicate hx)
theorem bits_cat {a b : List UInt8} (h1 : ∀ x ∈ a, x = 48 ∨ x = 49) (h2 : ∀ x ∈ b, x = 48 ∨ x = 49) : ∀ x ∈ a ++ b, x = 48 ∨ x = 49 := fun x hx => by
  rcases List.mem_append.1 hx with h | h
  · exact h1 x h
  · exact h2 x h
theorem bits_str {l : List UInt8} {k : Nat} (h : ∀ x ∈ l, x = 48 ∨ x = 49) : ∀ x ∈ strL l k, x = 48 ∨ x = 49 := fun x hx => by
  unfold strL at hx
  obtain ⟨y, hy, hx⟩ := List.mem_flatMap.1 hx
  rcases List.mem_cons.1 hx with rfl | hx
  · exact h x hy
  · exact .inl (List.eq_of_mem_replicate hx)

set_option maxRecDepth 10000 in
set_option maxHeartbeats 4000000 in
theorem specProgressionSet_any (f s : Int) (w : World) (f0 : -9223372036854775808 ≤ f) (f1 : f ≤ 9223372036854775807) (s0 : -9223372036854775808 ≤ s) (s1 : s ≤ 9223372036854775807) :
    Calls Tryd.prog 32 #[.int .i64 f, .int .i64 s] w fun e w' => e = .returned (.tuple #[.agg #[.string (bs (prR f s).1.1), .string (bs (prR f s).1.2)], .bool (prR f s).2]) ∧ Below w.heap.size w w' := by
  have H1 := Lib.hid fun w => l1In_any f 0 400 w
  have H2 := Lib.hid fun w => l1In_any s 0 240 w
  by_cases hf : 0 ≤ f ∧ f ≤ 400
  case neg =>
    have HF : Hid (prR f s = (([], []), false)) := Lib.hid (by unfold prR; rw [decide_eq_false hf]; rfl)
    have e1 : inB f 0 400 = false := by unfold inB; exact decide_eq_false hf
    rw [e1] at H1
    clear hf e1
    go_enter Tryd.func32, Tryd.ntmps32
    go_wp2_with fail
    generalize hW0 : World.alloc w _ = W0
    obtain ⟨hr, hsr, hwr⟩ := s2_new hW0
    clear hW0
    have R3 := hr
    have B3 := hwr
    have hne : w.heap.size ≤ w.heap.size := Nat.le_refl _
    obtain ⟨a0, a1, a2, a3⟩ := id R3
    refine (H1.out _).mono ?_
    rintro e w' ⟨rfl, rfl⟩
    go_wp2
    generalize hW : World.setCell _ _ _ = W8
    obtain ⟨⟨_, r1, r2, _⟩, _, _, hb8⟩ := s2_put hW _ _ R3
    refine bodyPost_ret (v := .tuple #[.agg #[.string ⟨#[]⟩, .string ⟨#[]⟩], .bool false]) (by simp [results, Tryd.results32, go_sem, r1, r2]) rfl ⟨by rw [HF.out]; rfl, ?_⟩
    exact hb8 w B3 hne
  by_cases hs : 0 ≤ s ∧ s ≤ 240
  case neg =>
    have HF : Hid (prR f s = (([], []), false)) := Lib.hid (by unfold prR; rw [decide_eq_false hs, Bool.and_false]; rfl)
    have e1 : inB f 0 400 = true := by unfold inB; exact decide_eq_true hf
    have e2 : inB s 0 240 = false := by unfold inB; exact decide_eq_false hs
    rw [e1] at H1
    rw [e2] at H2
    clear hf hs e1 e2
    go_enter Tryd.func32, Tryd.ntmps32
    go_wp2_with fail
    generalize hW0 : World.alloc w _ = W0
    obtain ⟨hr, hsr, hwr⟩ := s2_new hW0
    clear hW0
    have R3 := hr
    have B3 := hwr
    have hne : w.heap.size ≤ w.heap.size := Nat.le_refl _
    obtain ⟨a0, a1, a2, a3⟩ := id R3
    refine (H1.out _).mono ?_
    rintro e w' ⟨rfl, rfl⟩
    go_wp2_with fail
    refine (H2.out _).mono ?_
    rintro e w' ⟨rfl, rfl⟩
    go_wp2
    generalize hW : World.setCell _ _ _ = W8
    obtain ⟨⟨_, r1, r2, _⟩, _, _, hb8⟩ := s2_put hW _ _ R3
    refine bodyPost_ret (v := .tuple #[.agg #[.string ⟨#[]⟩, .string ⟨#[]⟩], .bool false]) (by simp [results, Tryd.results32, go_sem, r1, r2]) rfl ⟨by rw [HF.out]; rfl, ?_⟩
    exact hb8 w B3 hne
  have HF0 : Hid (prR f s = resA (prA f.toNat s.toNat)) := Lib.hid (by unfold prR; rw [decide_eq_true hf, decide_eq_true hs]; rfl)
  have e1 : inB f 0 400 = true := by unfold inB; exact decide_eq_true hf
  have e2 : inB s 0 240 = true := by unfold inB; exact decide_eq_true hs
  rw [e1] at H1
  rw [e2] at H2
  obtain ⟨F, rfl⟩ : ∃ F : Nat, f = F := ⟨f.toNat, by omega⟩
  obtain ⟨S, rfl⟩ : ∃ S : Nat, s = S := ⟨s.toNat, by omega⟩
  have hF : F ≤ 400 := by omega
  have hS : S ≤ 240 := by omega
  have happ := bs_app
  have hb49 : ({ data := #[49] } : ByteArray) = bs [49] := rfl
  have HM := Lib.hid fun w => l17Many_any [48] F w (by simp) (by omega)
  rw [rep_zero] at HM
  clear hf hs e1 e2 f0 f1 s0 s1
  by_cases hS0 : S = 0
  · subst hS0
    have HR := Lib.hid fun w => l7Result_any (List.replicate F 48 ++ [49]) [48] w (by simp) (bits_cat (bits_rep F) (by simp)) (by simp) (by simp; omega) (by simp)
    have e : atS (List.replicate F 48 ++ [49]) [48] = prA F 0 := funext fun n => pr_at0 F n
    rw [e] at HR
    obtain ⟨r, hr0⟩ : ∃ r, resA (prA F 0) = r := ⟨_, rfl⟩
    have HF : Hid (prR F (0 : Nat) = r) := Lib.hid (by rw [HF0.out, ← hr0]; rfl)
    rw [hr0] at HR
    obtain ⟨Z, hZ⟩ : ∃ Z, List.replicate F (48 : UInt8) = Z := ⟨_, rfl⟩
    have hz1 := bs_size Z
    have hzl : Z.length = F := by rw [← hZ]; simp
    rw [hzl] at hz1
    have hz2 : (bs ([49] : List UInt8)).size = 1 := bs_size [49]
    rw [hZ] at HM HR
    have ge : (((0 : Nat) : Int) == 0) = true := rfl
    clear e hr0 hZ hzl HF0
    go_enter Tryd.func32, Tryd.ntmps32
    go_wp2_with fail
    generalize hW0 : World.alloc w _ = W0
    obtain ⟨hr, hsr, hwr⟩ := s2_new hW0
    clear hW0
    have R3 := hr
    have B3 := hwr
    have hne : w.heap.size ≤ w.heap.size := Nat.le_refl _
    obtain ⟨a0, a1, a2, a3⟩ := id R3
    refine (H1.out _).mono ?_
    rintro e w' ⟨rfl, rfl⟩
    go_wp2_with fail
    refine (H2.out _).mono ?_
    rintro e w' ⟨rfl, rfl⟩
    go_wp2_with fail
    refine (HM.out _).mono ?_
    rintro e w' ⟨rfl, rfl⟩
    go_wp2_with fail
    refine (HR.out _).mono ?_
    rintro e w5 ⟨rfl, hb5⟩
    have R5 := s2_on R3 hb5
    have B5 := below_on B3 hb5
    clear a0 a1 a2 a3
    obtain ⟨a0, a1, a2, a3⟩ := id R5
    go_wp2
    generalize hW : World.setCell _ _ _ = W8
    obtain ⟨⟨_, r1, r2, _⟩, _, _, hb8⟩ := s2_put hW _ _ R5
    refine bodyPost_ret (v := .tuple #[.agg #[.string (bs r.1.1), .string (bs r.1.2)], .bool r.2]) (by simp [results, Tryd.results32, go_sem, r1, r2]) rfl ⟨by rw [HF.out], ?_⟩
    exact hb8 w B5 hne
  · have HR := Lib.hid fun w => l7Result_any (List.replicate F 48) (49 :: List.replicate (S - 1) 48) w (by simp) (bits_rep F) (bits_cat (a := [49]) (by simp) (bits_rep (S - 1))) (by simp; omega) (by simp; omega)
    have e : atS (List.replicate F 48) (49 :: List.replicate (S - 1) 48) = prA F S := funext fun n => pr_at1 F S n (by omega)
    rw [e] at HR
    obtain ⟨r, hr0⟩ : ∃ r, resA (prA F S) = r := ⟨_, rfl⟩
    have HF : Hid (prR F S = r) := Lib.hid (by rw [HF0.out, ← hr0]; rfl)
    rw [hr0] at HR
    have HM2 := Lib.hid fun w => l17Many_any [48] (S - 1) w (by simp) (by omega)
    rw [rep_zero] at HM2
    obtain ⟨S1, hS1⟩ : ∃ k, S - 1 = k := ⟨_, rfl⟩
    rw [hS1] at HM2 HR
    have hws : IntKind.i64.wrap ((S : Int) - 1) = (S1 : Int) := by rw [IntKind.wrap_i64]; omega
    obtain ⟨Z, hZ⟩ : ∃ Z, List.replicate F (48 : UInt8) = Z := ⟨_, rfl⟩
    obtain ⟨Y, hY⟩ : ∃ Z, List.replicate S1 (48 : UInt8) = Z := ⟨_, rfl⟩
    have hz1 := bs_size Y
    have hzl : Y.length = S1 := by rw [← hY]; simp
    rw [hzl] at hz1
    have hz2 : (bs ([49] : List UInt8)).size = 1 := bs_size [49]
    have hcat : bs [49] ++ bs Y = bs (49 :: Y) := happ [49] Y
    rw [hZ] at HM HR
    rw [hY] at HM2 HR
    have hS1b : S1 ≤ 1000 := by omega
    have ge : ((S : Int) == 0) = false := by rw [beq_eq_false_iff_ne]; omega
    clear e hr0 hZ hY hzl HF0 hS1 hS0 happ
    go_enter Tryd.func32, Tryd.ntmps32
    go_wp2_with fail
    generalize hW0 : World.alloc w _ = W0
    obtain ⟨hr, hsr, hwr⟩ := s2_new hW0
    clear hW0
    have R3 := hr
    have B3 := hwr
    have hne : w.heap.size ≤ w.heap.size := Nat.le_refl _
    obtain ⟨a0, a1, a2, a3⟩ := id R3
    refine (H1.out _).mono ?_
    rintro e w' ⟨rfl, rfl⟩
    go_wp2_with fail
    refine (H2.out _).mono ?_
    rintro e w' ⟨rfl, rfl⟩
    go_wp2_with fail
    refine (HM.out _).mono ?_
    rintro e w' ⟨rfl, rfl⟩
    go_wp2_with fail
    refine (HM2.out _).mono ?_
    rintro e w' ⟨rfl, rfl⟩
    go_wp2_with fail
    refine (HR.out _).mono ?_
    rintro e w5 ⟨rfl, hb5⟩
    have R5 := s2_on R3 hb5
    have B5 := below_on B3 hb5
    clear a0 a1 a2 a3
    obtain ⟨a0, a1, a2, a3⟩ := id R5
    go_wp2
    generalize hW : World.setCell _ _ _ = W8
    obtain ⟨⟨_, r1, r2, _⟩, _, _, hb8⟩ := s2_put hW _ _ R5
    refine bodyPost_ret (v := .tuple #[.agg #[.string (bs r.1.1), .string (bs r.1.2)], .bool r.2]) (by simp [results, Tryd.results32, go_sem, r1, r2]) rfl ⟨by rw [HF.out], ?_⟩
    exact hb8 w B5 hne

set_option maxRecDepth 10000 in
set_option maxHeartbeats 4000000 in
theorem specShiftSet_any (h l : List UInt8) (k : Int) (w : World) (hh : h.length ≤ 1000000000) (hl : l.length ≤ 1000000000) (k0 : -9223372036854775808 ≤ k) (k1 : k ≤ 9223372036854775807) :
    Calls Tryd.prog 34 #[.agg #[.string (bs h), .string (bs l)], .int .i64 k] w fun e w' => e = .returned (.tuple #[.agg #[.string (bs (shR h l k).1.1), .string (bs (shR h l k).1.2)], .bool (shR h l k).2]) ∧ Below w.heap.size w w' := by
  have HV := Lib.hid fun w => specSetValid_b h l w hh hl
  have HS := Lib.hid (svS_parts (h := h) (l := l))
  have H2 := Lib.hid fun w => l1In_any k 0 400 w
  obtain ⟨v, hv⟩ : ∃ v, svS h l = v := ⟨_, rfl⟩
  have HQ : Hid (svS h l = v) := Lib.hid hv
  rw [hv] at HV
  clear hv
  cases v with
  | false =>
    have HF : Hid (shR h l k = (([], []), false)) := Lib.hid (by unfold shR; rw [HQ.out]; rfl)
    go_enter Tryd.func34, Tryd.ntmps34
    go_wp2_with fail
    generalize hW0 : World.alloc w _ = W0
    obtain ⟨hx, hsx, hwx⟩ := s2_new hW0
    clear hW0
    generalize hW : World.alloc W0 _ = W2
    obtain ⟨hr, hsr, hwr⟩ := s2_new hW
    rw [hsx] at hr
    clear hW
    have X1 := s2_on hx hwr
    have B1 := below_on hwx hwr
    have hne : w.heap.size ≤ w.heap.size + 1 := by omega
    clear hx hwx hwr hsx hsr
    refine (HV.out _).mono ?_
    rintro e w3 ⟨rfl, hb3⟩
    have X3 := s2_on X1 hb3
    have R3 := s2_on hr hb3
    have B3 := below_on B1 hb3
    clear X1 hr B1 hb3
    obtain ⟨x0, x1, x2, x3⟩ := id X3
    obtain ⟨a0, a1, a2, a3⟩ := id R3
    go_wp2
    generalize hW : World.setCell _ _ _ = W8
    obtain ⟨⟨_, r1, r2, _⟩, _, _, hb8⟩ := s2_put hW _ _ R3
    refine bodyPost_ret (v := .tuple #[.agg #[.string ⟨#[]⟩, .string ⟨#[]⟩], .bool false]) (by simp [results, Tryd.results34, go_sem, r1, r2]) rfl ⟨by rw [HF.out]; rfl, ?_⟩
    exact hb8 w B3 hne
  | true =>
    by_cases hc : 0 ≤ k ∧ k ≤ 400
    case neg =>
      have HF : Hid (shR h l k = (([], []), false)) := Lib.hid (by unfold shR; rw [HQ.out, decide_eq_false hc]; rfl)
      have e2 : inB k 0 400 = false := by unfold inB; exact decide_eq_false hc
      rw [e2] at H2
      clear hc e2
      go_enter Tryd.func34, Tryd.ntmps34
      go_wp2_with fail
      generalize hW0 : World.alloc w _ = W0
      obtain ⟨hx, hsx, hwx⟩ := s2_new hW0
      clear hW0
      generalize hW : World.alloc W0 _ = W2
      obtain ⟨hr, hsr, hwr⟩ := s2_new hW
      rw [hsx] at hr
      clear hW
      have X1 := s2_on hx hwr
      have B1 := below_on hwx hwr
      have hne : w.heap.size ≤ w.heap.size + 1 := by omega
      clear hx hwx hwr hsx hsr
      refine (HV.out _).mono ?_
      rintro e w3 ⟨rfl, hb3⟩
      have X3 := s2_on X1 hb3
      have R3 := s2_on hr hb3
      have B3 := below_on B1 hb3
      clear X1 hr B1 hb3
      obtain ⟨x0, x1, x2, x3⟩ := id X3
      obtain ⟨a0, a1, a2, a3⟩ := id R3
      go_wp2_with fail
      refine (H2.out _).mono ?_
      rintro e w' ⟨rfl, rfl⟩
      go_wp2
      generalize hW : World.setCell _ _ _ = W8
      obtain ⟨⟨_, r1, r2, _⟩, _, _, hb8⟩ := s2_put hW _ _ R3
      refine bodyPost_ret (v := .tuple #[.agg #[.string ⟨#[]⟩, .string ⟨#[]⟩], .bool false]) (by simp [results, Tryd.results34, go_sem, r1, r2]) rfl ⟨by rw [HF.out]; rfl, ?_⟩
      exact hb8 w B3 hne
    have e2 : inB k 0 400 = true := by unfold inB; exact decide_eq_true hc
    rw [e2] at H2
    obtain ⟨K, rfl⟩ : ∃ K : Nat, k = K := ⟨k.toNat, by omega⟩
    have hK : K ≤ 400 := by omega
    obtain ⟨q1, q2, q3, q4, q5, q6⟩ := HS.out HQ.out
    have e : atS (List.replicate K 48 ++ h) l = shA (atS h l) K := funext fun n => sh_at h l K n
    have HR := Lib.hid fun w => l7Result_any (List.replicate K 48 ++ h) l w q6 (bits_cat (bits_rep K) q1) q2 (by simp; omega) (by omega)
    rw [e] at HR
    obtain ⟨r, hr0⟩ : ∃ r, resA (shA (atS h l) K) = r := ⟨_, rfl⟩
    have HF : Hid (shR h l K = r) := Lib.hid (by unfold shR; rw [HQ.out, decide_eq_true hc, ← hr0]; rfl)
    rw [hr0] at HR
    have HM := Lib.hid fun w => l17Many_any [48] K w (by simp) (by omega)
    rw [rep_zero] at HM
    have happ := bs_app
    obtain ⟨Z, hZ⟩ : ∃ Z, List.replicate K (48 : UInt8) = Z := ⟨_, rfl⟩
    have hz1 := bs_size Z
    have hzl : Z.length = K := by rw [← hZ]; simp
    rw [hzl] at hz1
    have hz2 := bs_size h
    obtain ⟨H, hH⟩ : ∃ H, h.length = H := ⟨_, rfl⟩
    rw [hH] at hz2
    rw [hZ] at HM HR
    have hbg : ¬ 9223372036854775807 < K + H := by omega
    clear e hr0 hZ hzl hc e2 k0 k1 q1 q2 q3 q4 q5 q6 hH hh hl
    go_enter Tryd.func34, Tryd.ntmps34
    go_wp2_with fail
    generalize hW0 : World.alloc w _ = W0
    obtain ⟨hx, hsx, hwx⟩ := s2_new hW0
    clear hW0
    generalize hW : World.alloc W0 _ = W2
    obtain ⟨hr, hsr, hwr⟩ := s2_new hW
    rw [hsx] at hr
    clear hW
    have X1 := s2_on hx hwr
    have B1 := below_on hwx hwr
    have hne : w.heap.size ≤ w.heap.size + 1 := by omega
    clear hx hwx hwr hsx hsr
    refine (HV.out _).mono ?_
    rintro e w3 ⟨rfl, hb3⟩
    have X3 := s2_on X1 hb3
    have R3 := s2_on hr hb3
    have B3 := below_on B1 hb3
    clear X1 hr B1 hb3
    obtain ⟨x0, x1, x2, x3⟩ := id X3
    obtain ⟨a0, a1, a2, a3⟩ := id R3
    go_wp2_with fail
    refine (H2.out _).mono ?_
    rintro e w' ⟨rfl, rfl⟩
    have X := Lib.hid X3
    have R := Lib.hid R3
    have B := Lib.hid B3
    clear X3 R3 B3
    go_upto_region 3 with fail
    clear x0 x1 x2 x3 a0 a1 a2 a3
    refine wp_region_held_drew (S := (fun w' => w'.cell? ⟨w.heap.size, 0, none⟩ = some (.string (bs h)) ∧ w'.cell? ⟨w.heap.size, 1, none⟩ = some (.string (bs l)))) (by kernel_rfl) ?_ (fun hHeld => ?_)
    · try dsimp only
      first | (refine s2_keep X.out ?_; go_grown; done) | exact ⟨(s2_set (s2_set (s2_on X.out hbW7) (by omega)) (by omega)).2.1, (s2_set (s2_set (s2_on X.out hbW7) (by omega)) (by omega)).2.2.1⟩
    refine wpAnyH_take (i := 0) (oi := { dst := some 15, op := Go.Op.move (Go.Operand.tmp 1), type := 3, pos := "l7_sets.go:203", after := #[], guard := none }) (v := ?_) rfl (by kernel_rfl) (by kernel_rfl) (by kernel_rfl) (fun _ _ _ h => h) (Or.inl ⟨by rfl, ?_⟩) (by assumption) ?_
    rotate_left
    · (intro w hSw; (try dsimp only at hSw); first | (go_simp; done) | (go_simp; with_reducible rfl))
    try simp only [Act.put, List.setIfInBounds_toArray, List.set_cons_zero, List.set_cons_succ]
    refine wpAnyH_take (i := 2) (oi := { dst := some 17, op := Go.Op.fieldAddr 26 (Go.Operand.tmp 2) 0, type := 0, pos := "l7_sets.go:203", after := #[], guard := none }) (v := ?_) rfl (by kernel_rfl) (by kernel_rfl) (by kernel_rfl) (fun _ _ _ h => h) (Or.inl ⟨by rfl, ?_⟩) (by assumption) ?_
    rotate_left
    · (intro w hSw; (try dsimp only at hSw); first | (go_simp; done) | (go_simp; with_reducible rfl))
    try simp only [Act.put, List.setIfInBounds_toArray, List.set_cons_zero, List.set_cons_succ]
    refine wpAnyH_take (i := 3) (oi := { dst := some 18, op := Go.Op.load 9 (Go.Operand.tmp 17), type := 9, pos := "l7_sets.go:203", after := #[{ on := 2, ground := Go.Ground.data }], guard := none }) (v := ?_) rfl (by kernel_rfl) (by kernel_rfl) (by kernel_rfl) (fun _ _ _ h => h) (Or.inl ⟨by rfl, ?_⟩) (by assumption) ?_
    rotate_left
    · (intro w hSw; (try dsimp only at hSw); first | (go_simp; done) | (go_simp; with_reducible rfl))
    try simp only [Act.put, List.setIfInBounds_toArray, List.set_cons_zero, List.set_cons_succ]
    refine wpAnyH_take (i := 5) (oi := { dst := some 20, op := Go.Op.fieldAddr 26 (Go.Operand.tmp 2) 1, type := 0, pos := "l7_sets.go:203", after := #[], guard := none }) (v := ?_) rfl (by kernel_rfl) (by kernel_rfl) (by kernel_rfl) (fun _ _ _ h => h) (Or.inl ⟨by rfl, ?_⟩) (by assumption) ?_
    rotate_left
    · (intro w hSw; (try dsimp only at hSw); first | (go_simp; done) | (go_simp; with_reducible rfl))
    try simp only [Act.put, List.setIfInBounds_toArray, List.set_cons_zero, List.set_cons_succ]
    refine wpAnyH_take (i := 6) (oi := { dst := some 21, op := Go.Op.load 9 (Go.Operand.tmp 20), type := 9, pos := "l7_sets.go:203", after := #[{ on := 5, ground := Go.Ground.data }], guard := none }) (v := ?_) rfl (by kernel_rfl) (by kernel_rfl) (by kernel_rfl) (fun _ _ _ h => h) (Or.inl ⟨by rfl, ?_⟩) (by assumption) ?_
    rotate_left
    · (intro w hSw; (try dsimp only at hSw); first | (go_simp; done) | (go_simp; with_reducible rfl))
    try simp only [Act.put, List.setIfInBounds_toArray, List.set_cons_zero, List.set_cons_succ]
    refine wpAnyH_ready (rs := [1]) (by kernel_rfl) (by simp) ?_
    refine AllReadyH.cons (o := { dst := some 16, op := Go.Op.call { callee := Go.Callee.value (Go.Operand.func 56), args := #[Go.Operand.const (Go.Value.string { data := #[48] }), Go.Operand.tmp 15], argTypes := #[9, 3] }, type := 9, pos := "l7_sets.go:203", after := #[{ on := 0, ground := Go.Ground.data }], guard := none }) rfl (fun K hK => ?_) AllReadyH.nil
    go_simp
    (go_at_call 56; refine (HM.out _).mono ?_; rintro e w5 ⟨rfl, rfl⟩)
    (try go_wp2_with fail)
    refine hK.out _ _ ?_ (fun hHeld => ?_)
    · try dsimp only
      first | (refine s2_keep X.out ?_; go_grown; done) | exact ⟨(s2_set (s2_set (s2_on X.out hbW7) (by omega)) (by omega)).2.1, (s2_set (s2_set (s2_on X.out hbW7) (by omega)) (by omega)).2.2.1⟩
    clear hK K
    try simp only [Act.put, List.setIfInBounds_toArray, List.set_cons_zero, List.set_cons_succ]
    refine wpAnyH_take (i := 4) (oi := { dst := some 19, op := Go.Op.binOp Go.BinOp.add 9 (Go.Operand.tmp 16) (Go.Operand.tmp 18) 9, type := 9, pos := "l7_sets.go:203", after := #[{ on := 1, ground := Go.Ground.data }, { on := 3, ground := Go.Ground.data }], guard := none }) (v := ?_) rfl (by kernel_rfl) (by kernel_rfl) (by kernel_rfl) (fun _ _ _ h => h) (Or.inl ⟨by rfl, ?_⟩) (by assumption) ?_
    rotate_left
    · (intro w hSw; (try dsimp only at hSw); first | (go_simp; done) | (go_simp; with_reducible rfl))
    try simp only [Act.put, List.setIfInBounds_toArray, List.set_cons_zero, List.set_cons_succ]
    refine wpAnyH_ready (rs := [7]) (by kernel_rfl) (by simp) ?_
    refine AllReadyH.cons (o := { dst := some 22, op := Go.Op.call { callee := Go.Callee.value (Go.Operand.func 44), args := #[Go.Operand.tmp 19, Go.Operand.tmp 21], argTypes := #[9, 9] }, type := 29, pos := "l7_sets.go:203", after := #[{ on := 4, ground := Go.Ground.data }, { on := 6, ground := Go.Ground.data }, { on := 1, ground := Go.Ground.chain }], guard := none }) rfl (fun K hK => ?_) AllReadyH.nil
    go_simp
    (go_at_call 44; refine (HR.out _).mono ?_; rintro e w7 ⟨rfl, hb7⟩; have hbW7 := below_on (w := w3) (by go_grown) hb7; have R7 := s2_on R.out hbW7; obtain ⟨a0, a1, a2, a3⟩ := id R7)
    (try go_wp2_with fail)
    refine hK.out _ _ ?_ (fun hHeld => ?_)
    · try dsimp only
      first | (refine s2_keep X.out ?_; go_grown; done) | exact ⟨(s2_set (s2_set (s2_on X.out hbW7) (by omega)) (by omega)).2.1, (s2_set (s2_set (s2_on X.out hbW7) (by omega)) (by omega)).2.2.1⟩
    clear hK K
    try simp only [Act.put, List.setIfInBounds_toArray, List.set_cons_zero, List.set_cons_succ]
    refine wpAnyH_take (i := 8) (oi := { dst := some 23, op := Go.Op.extract (Go.Operand.tmp 22) 0, type := 26, pos := "l7_sets.go:203", after := #[{ on := 7, ground := Go.Ground.data }], guard := none }) (v := ?_) rfl (by kernel_rfl) (by kernel_rfl) (by kernel_rfl) (fun _ _ _ h => h) (Or.inl ⟨by rfl, ?_⟩) (by assumption) ?_
    rotate_left
    · (intro w hSw; (try dsimp only at hSw); first | (go_simp; done) | (go_simp; with_reducible rfl))
    try simp only [Act.put, List.setIfInBounds_toArray, List.set_cons_zero, List.set_cons_succ]
    refine wpAnyH_take (i := 9) (oi := { dst := some 24, op := Go.Op.extract (Go.Operand.tmp 22) 1, type := 4, pos := "l7_sets.go:203", after := #[{ on := 7, ground := Go.Ground.data }], guard := none }) (v := ?_) rfl (by kernel_rfl) (by kernel_rfl) (by kernel_rfl) (fun _ _ _ h => h) (Or.inl ⟨by rfl, ?_⟩) (by assumption) ?_
    rotate_left
    · (intro w hSw; (try dsimp only at hSw); first | (go_simp; done) | (go_simp; with_reducible rfl))
    try simp only [Act.put, List.setIfInBounds_toArray, List.set_cons_zero, List.set_cons_succ]
    refine wpAnyH_ready (rs := [10]) (by kernel_rfl) (by simp) ?_
    refine AllReadyH.cons (o := { dst := none, op := Go.Op.store 26 (Go.Operand.tmp 4) (Go.Operand.tmp 23), type := 0, pos := "l7_sets.go:203", after := #[{ on := 8, ground := Go.Ground.data }, { on := 7, ground := Go.Ground.chain }, { on := 0, ground := Go.Ground.phase }, { on := 1, ground := Go.Ground.phase }, { on := 2, ground := Go.Ground.phase }, { on := 3, ground := Go.Ground.phase }, { on := 4, ground := Go.Ground.phase }, { on := 5, ground := Go.Ground.phase }, { on := 6, ground := Go.Ground.phase }, { on := 7, ground := Go.Ground.phase }, { on := 8, ground := Go.Ground.phase }, { on := 9, ground := Go.Ground.phase }], guard := none }) rfl (fun K hK => ?_) AllReadyH.nil
    go_simp
    refine hK.out _ _ ?_ (fun hHeld => ?_)
    · try dsimp only
      first | (refine s2_keep X.out ?_; go_grown; done) | exact ⟨(s2_set (s2_set (s2_on X.out hbW7) (by omega)) (by omega)).2.1, (s2_set (s2_set (s2_on X.out hbW7) (by omega)) (by omega)).2.2.1⟩
    clear hK K
    try simp only [Act.put, List.setIfInBounds_toArray, List.set_cons_zero, List.set_cons_succ]
    refine wpAnyH_take (i := 11) (oi := { dst := some 5, op := Go.Op.assign (Go.Operand.tmp 24), type := 4, pos := "l7_sets.go:203", after := #[{ on := 9, ground := Go.Ground.data }, { on := 10, ground := Go.Ground.chain }, { on := 0, ground := Go.Ground.phase }, { on := 1, ground := Go.Ground.phase }, { on := 2, ground := Go.Ground.phase }, { on := 3, ground := Go.Ground.phase }, { on := 4, ground := Go.Ground.phase }, { on := 5, ground := Go.Ground.phase }, { on := 6, ground := Go.Ground.phase }, { on := 7, ground := Go.Ground.phase }, { on := 8, ground := Go.Ground.phase }, { on := 9, ground := Go.Ground.phase }, { on := 10, ground := Go.Ground.phase }], guard := none }) (v := ?_) rfl (by kernel_rfl) (by kernel_rfl) (by kernel_rfl) (fun _ _ _ h => h) (Or.inl ⟨by rfl, ?_⟩) (by assumption) ?_
    rotate_left
    · (intro w hSw; (try dsimp only at hSw); first | (go_simp; done) | (go_simp; with_reducible rfl))
    try simp only [Act.put, List.setIfInBounds_toArray, List.set_cons_zero, List.set_cons_succ]
    refine wpAnyH_done (by kernel_rfl) ?_ _
    go_wp2
    generalize hW8 : World.setCell _ _ _ = W8
    obtain ⟨⟨_, r1, r2, _⟩, _, _, hb8⟩ := s2_put hW8 _ _ R7
    refine bodyPost_ret (v := .tuple #[.agg #[.string (bs r.1.1), .string (bs r.1.2)], .bool r.2]) (by simp [results, Tryd.results34, go_sem, r1, r2]) rfl ⟨by rw [HF.out], ?_⟩
    exact below_on (hb8 w (below_on B.out hbW7) hne) (by go_grown)

set_option maxRecDepth 10000 in
set_option maxHeartbeats 4000000 in
theorem specStretchSet_any (h l : List UInt8) (k : Int) (w : World) (hh : h.length ≤ 1000000000) (hl : l.length ≤ 1000000000) (k0 : -9223372036854775808 ≤ k) (k1 : k ≤ 9223372036854775807) :
    Calls Tryd.prog 36 #[.agg #[.string (bs h), .string (bs l)], .int .i64 k] w fun e w' => e = .returned (.tuple #[.agg #[.string (bs (stR h l k).1.1), .string (bs (stR h l k).1.2)], .bool (stR h l k).2]) ∧ Below w.heap.size w w' := by
  have HV := Lib.hid fun w => specSetValid_b h l w hh hl
  have HS := Lib.hid (svS_parts (h := h) (l := l))
  have H2 := Lib.hid fun w => l1In_any k 1 240 w
  obtain ⟨v, hv⟩ : ∃ v, svS h l = v := ⟨_, rfl⟩
  have HQ : Hid (svS h l = v) := Lib.hid hv
  rw [hv] at HV
  clear hv
  cases v with
  | false =>
    have HF : Hid (stR h l k = (([], []), false)) := Lib.hid (by unfold stR; rw [HQ.out]; rfl)
    go_enter Tryd.func36, Tryd.ntmps36
    go_wp2_with fail
    generalize hW0 : World.alloc w _ = W0
    obtain ⟨hx, hsx, hwx⟩ := s2_new hW0
    clear hW0
    generalize hW : World.alloc W0 _ = W2
    obtain ⟨hr, hsr, hwr⟩ := s2_new hW
    rw [hsx] at hr
    clear hW
    have X1 := s2_on hx hwr
    have B1 := below_on hwx hwr
    have hne : w.heap.size ≤ w.heap.size + 1 := by omega
    clear hx hwx hwr hsx hsr
    refine (HV.out _).mono ?_
    rintro e w3 ⟨rfl, hb3⟩
    have X3 := s2_on X1 hb3
    have R3 := s2_on hr hb3
    have B3 := below_on B1 hb3
    clear X1 hr B1 hb3
    obtain ⟨x0, x1, x2, x3⟩ := id X3
    obtain ⟨a0, a1, a2, a3⟩ := id R3
    go_wp2
    generalize hW : World.setCell _ _ _ = W8
    obtain ⟨⟨_, r1, r2, _⟩, _, _, hb8⟩ := s2_put hW _ _ R3
    refine bodyPost_ret (v := .tuple #[.agg #[.string ⟨#[]⟩, .string ⟨#[]⟩], .bool false]) (by simp [results, Tryd.results36, go_sem, r1, r2]) rfl ⟨by rw [HF.out]; rfl, ?_⟩
    exact hb8 w B3 hne
  | true =>
    by_cases hc : 1 ≤ k ∧ k ≤ 240
    case neg =>
      have HF : Hid (stR h l k = (([], []), false)) := Lib.hid (by unfold stR; rw [HQ.out, decide_eq_false hc]; rfl)
      have e2 : inB k 1 240 = false := by unfold inB; exact decide_eq_false hc
      rw [e2] at H2
      clear hc e2
      go_enter Tryd.func36, Tryd.ntmps36
      go_wp2_with fail
      generalize hW0 : World.alloc w _ = W0
      obtain ⟨hx, hsx, hwx⟩ := s2_new hW0
      clear hW0
      generalize hW : World.alloc W0 _ = W2
      obtain ⟨hr, hsr, hwr⟩ := s2_new hW
      rw [hsx] at hr
      clear hW
      have X1 := s2_on hx hwr
      have B1 := below_on hwx hwr
      have hne : w.heap.size ≤ w.heap.size + 1 := by omega
      clear hx hwx hwr hsx hsr
      refine (HV.out _).mono ?_
      rintro e w3 ⟨rfl, hb3⟩
      have X3 := s2_on X1 hb3
      have R3 := s2_on hr hb3
      have B3 := below_on B1 hb3
      clear X1 hr B1 hb3
      obtain ⟨x0, x1, x2, x3⟩ := id X3
      obtain ⟨a0, a1, a2, a3⟩ := id R3
      go_wp2_with fail
      refine (H2.out _).mono ?_
      rintro e w' ⟨rfl, rfl⟩
      go_wp2
      generalize hW : World.setCell _ _ _ = W8
      obtain ⟨⟨_, r1, r2, _⟩, _, _, hb8⟩ := s2_put hW _ _ R3
      refine bodyPost_ret (v := .tuple #[.agg #[.string ⟨#[]⟩, .string ⟨#[]⟩], .bool false]) (by simp [results, Tryd.results36, go_sem, r1, r2]) rfl ⟨by rw [HF.out]; rfl, ?_⟩
      exact hb8 w B3 hne
    have e2 : inB k 1 240 = true := by unfold inB; exact decide_eq_true hc
    rw [e2] at H2
    obtain ⟨K, rfl⟩ : ∃ K : Nat, k = K := ⟨k.toNat, by omega⟩
    have hK : K ≤ 400 := by omega
    obtain ⟨q1, q2, q3, q4, q5, q6⟩ := HS.out HQ.out
    have hK1 : 1 ≤ K := by omega
    have e : atS (strL h K) (strL l K) = stA (atS h l) K := funext fun n => st_at h l hK1 q6 n
    have hsl : strL l K ≠ [] := fun e0 => by have := str_len l hK1; rw [e0] at this; have := Nat.mul_pos (show 0 < l.length by omega) (show 0 < K by omega); simp at *; omega
    have hb1 : (strL h K).length ≤ 1000000 := by rw [str_len h hK1]; exact Nat.le_trans (Nat.mul_le_mul q3 hK) (by omega)
    have hb2 : (strL l K).length ≤ 1000000 := by rw [str_len l hK1]; exact Nat.le_trans (Nat.mul_le_mul q5 hK) (by omega)
    have HR := Lib.hid fun w => l7Result_any (strL h K) (strL l K) w hsl (bits_str q1) (bits_str q2) (by omega) (by omega)
    rw [e] at HR
    obtain ⟨r, hr0⟩ : ∃ r, resA (stA (atS h l) K) = r := ⟨_, rfl⟩
    have HF : Hid (stR h l K = r) := Lib.hid (by unfold stR; rw [HQ.out, decide_eq_true hc, ← hr0]; rfl)
    rw [hr0] at HR
    have HM := Lib.hid fun w => l7Stretch_any h K w (by omega) hK1 (by omega)
    have HM2 := Lib.hid fun w => l7Stretch_any l K w (by omega) hK1 (by omega)
    obtain ⟨A, hA⟩ : ∃ Z, strL h K = Z := ⟨_, rfl⟩
    obtain ⟨Bb, hB⟩ : ∃ Z, strL l K = Z := ⟨_, rfl⟩
    rw [hA] at HM HR
    rw [hB] at HM2 HR
    clear e hr0 hA hB hsl hb1 hb2 hc e2 k0 k1 q1 q2 q3 q4 q5 q6 hh hl
    go_enter Tryd.func36, Tryd.ntmps36
    go_wp2_with fail
    generalize hW0 : World.alloc w _ = W0
    obtain ⟨hx, hsx, hwx⟩ := s2_new hW0
    clear hW0
    generalize hW : World.alloc W0 _ = W2
    obtain ⟨hr, hsr, hwr⟩ := s2_new hW
    rw [hsx] at hr
    clear hW
    have X1 := s2_on hx hwr
    have B1 := below_on hwx hwr
    have hne : w.heap.size ≤ w.heap.size + 1 := by omega
    clear hx hwx hwr hsx hsr
    refine (HV.out _).mono ?_
    rintro e w3 ⟨rfl, hb3⟩
    have X3 := s2_on X1 hb3
    have R3 := s2_on hr hb3
    have B3 := below_on B1 hb3
    clear X1 hr B1 hb3
    obtain ⟨x0, x1, x2, x3⟩ := id X3
    obtain ⟨a0, a1, a2, a3⟩ := id R3
    go_wp2_with fail
    refine (H2.out _).mono ?_
    rintro e w' ⟨rfl, rfl⟩
    have X := Lib.hid X3
    have R := Lib.hid R3
    have B := Lib.hid B3
    clear X3 R3 B3
    go_upto_region 3 with fail
    clear x0 x1 x2 x3 a0 a1 a2 a3
    refine wp_region_held_drew (S := (fun w' => w'.cell? ⟨w.heap.size, 0, none⟩ = some (.string (bs h)) ∧ w'.cell? ⟨w.heap.size, 1, none⟩ = some (.string (bs l)))) (by kernel_rfl) ?_ (fun hHeld => ?_)
    · try dsimp only
      first | (refine s2_keep X.out ?_; go_grown; done) | exact ⟨(s2_set (s2_set (s2_on X.out hbW7) (by omega)) (by omega)).2.1, (s2_set (s2_set (s2_on X.out hbW7) (by omega)) (by omega)).2.2.1⟩
    refine wpAnyH_take (i := 0) (oi := { dst := some 15, op := Go.Op.fieldAddr 26 (Go.Operand.tmp 2) 0, type := 0, pos := "l7_sets.go:220", after := #[], guard := none }) (v := ?_) rfl (by kernel_rfl) (by kernel_rfl) (by kernel_rfl) (fun _ _ _ h => h) (Or.inl ⟨by rfl, ?_⟩) (by assumption) ?_
    rotate_left
    · (intro w hSw; (try dsimp only at hSw); first | (go_simp; done) | (go_simp; with_reducible rfl))
    try simp only [Act.put, List.setIfInBounds_toArray, List.set_cons_zero, List.set_cons_succ]
    refine wpAnyH_take (i := 1) (oi := { dst := some 16, op := Go.Op.load 9 (Go.Operand.tmp 15), type := 9, pos := "l7_sets.go:220", after := #[{ on := 0, ground := Go.Ground.data }], guard := none }) (v := ?_) rfl (by kernel_rfl) (by kernel_rfl) (by kernel_rfl) (fun _ _ _ h => h) (Or.inl ⟨by rfl, ?_⟩) (by assumption) ?_
    rotate_left
    · (intro w hSw; (try dsimp only at hSw); first | (go_simp; done) | (go_simp; with_reducible rfl))
    try simp only [Act.put, List.setIfInBounds_toArray, List.set_cons_zero, List.set_cons_succ]
    refine wpAnyH_take (i := 2) (oi := { dst := some 17, op := Go.Op.move (Go.Operand.tmp 1), type := 3, pos := "l7_sets.go:220", after := #[], guard := none }) (v := ?_) rfl (by kernel_rfl) (by kernel_rfl) (by kernel_rfl) (fun _ _ _ h => h) (Or.inl ⟨by rfl, ?_⟩) (by assumption) ?_
    rotate_left
    · (intro w hSw; (try dsimp only at hSw); first | (go_simp; done) | (go_simp; with_reducible rfl))
    try simp only [Act.put, List.setIfInBounds_toArray, List.set_cons_zero, List.set_cons_succ]
    refine wpAnyH_take (i := 4) (oi := { dst := some 19, op := Go.Op.fieldAddr 26 (Go.Operand.tmp 2) 1, type := 0, pos := "l7_sets.go:220", after := #[], guard := none }) (v := ?_) rfl (by kernel_rfl) (by kernel_rfl) (by kernel_rfl) (fun _ _ _ h => h) (Or.inl ⟨by rfl, ?_⟩) (by assumption) ?_
    rotate_left
    · (intro w hSw; (try dsimp only at hSw); first | (go_simp; done) | (go_simp; with_reducible rfl))
    try simp only [Act.put, List.setIfInBounds_toArray, List.set_cons_zero, List.set_cons_succ]
    refine wpAnyH_take (i := 5) (oi := { dst := some 20, op := Go.Op.load 9 (Go.Operand.tmp 19), type := 9, pos := "l7_sets.go:220", after := #[{ on := 4, ground := Go.Ground.data }], guard := none }) (v := ?_) rfl (by kernel_rfl) (by kernel_rfl) (by kernel_rfl) (fun _ _ _ h => h) (Or.inl ⟨by rfl, ?_⟩) (by assumption) ?_
    rotate_left
    · (intro w hSw; (try dsimp only at hSw); first | (go_simp; done) | (go_simp; with_reducible rfl))
    try simp only [Act.put, List.setIfInBounds_toArray, List.set_cons_zero, List.set_cons_succ]
    refine wpAnyH_take (i := 6) (oi := { dst := some 21, op := Go.Op.move (Go.Operand.tmp 1), type := 3, pos := "l7_sets.go:220", after := #[], guard := none }) (v := ?_) rfl (by kernel_rfl) (by kernel_rfl) (by kernel_rfl) (fun _ _ _ h => h) (Or.inl ⟨by rfl, ?_⟩) (by assumption) ?_
    rotate_left
    · (intro w hSw; (try dsimp only at hSw); first | (go_simp; done) | (go_simp; with_reducible rfl))
    try simp only [Act.put, List.setIfInBounds_toArray, List.set_cons_zero, List.set_cons_succ]
    refine wpAnyH_ready (rs := [3]) (by kernel_rfl) (by simp) ?_
    refine AllReadyH.cons (o := { dst := some 18, op := Go.Op.call { callee := Go.Callee.value (Go.Operand.func 61), args := #[Go.Operand.tmp 16, Go.Operand.tmp 17], argTypes := #[9, 3] }, type := 9, pos := "l7_sets.go:220", after := #[{ on := 1, ground := Go.Ground.data }, { on := 2, ground := Go.Ground.data }], guard := none }) rfl (fun K hK => ?_) AllReadyH.nil
    go_simp
    (go_at_call 61; refine (HM.out _).mono ?_; rintro e w5 ⟨rfl, hb5⟩; have hbW5 := below_on (w := w3) (by go_grown) hb5)
    (try go_wp2_with fail)
    refine hK.out _ _ ?_ (fun hHeld => ?_)
    · try dsimp only
      first | (refine s2_keep X.out ?_; go_grown; done) | exact ⟨(s2_set (s2_set (s2_on X.out hbW7) (by omega)) (by omega)).2.1, (s2_set (s2_set (s2_on X.out hbW7) (by omega)) (by omega)).2.2.1⟩
    clear hK K
    try simp only [Act.put, List.setIfInBounds_toArray, List.set_cons_zero, List.set_cons_succ]
    refine wpAnyH_ready (rs := [7]) (by kernel_rfl) (by simp) ?_
    refine AllReadyH.cons (o := { dst := some 22, op := Go.Op.call { callee := Go.Callee.value (Go.Operand.func 61), args := #[Go.Operand.tmp 20, Go.Operand.tmp 21], argTypes := #[9, 3] }, type := 9, pos := "l7_sets.go:220", after := #[{ on := 5, ground := Go.Ground.data }, { on := 6, ground := Go.Ground.data }, { on := 3, ground := Go.Ground.chain }], guard := none }) rfl (fun K hK => ?_) AllReadyH.nil
    go_simp
    (go_at_call 61; refine (HM2.out _).mono ?_; rintro e w6 ⟨rfl, hb6⟩; have hbW6 := below_on (w := w3) (by go_grown) hb6)
    (try go_wp2_with fail)
    refine hK.out _ _ ?_ (fun hHeld => ?_)
    · try dsimp only
      first | (refine s2_keep X.out ?_; go_grown; done) | exact ⟨(s2_set (s2_set (s2_on X.out hbW7) (by omega)) (by omega)).2.1, (s2_set (s2_set (s2_on X.out hbW7) (by omega)) (by omega)).2.2.1⟩
    clear hK K
    try simp only [Act.put, List.setIfInBounds_toArray, List.set_cons_zero, List.set_cons_succ]
    refine wpAnyH_ready (rs := [8]) (by kernel_rfl) (by simp) ?_
    refine AllReadyH.cons (o := { dst := some 23, op := Go.Op.call { callee := Go.Callee.value (Go.Operand.func 44), args := #[Go.Operand.tmp 18, Go.Operand.tmp 22], argTypes := #[9, 9] }, type := 29, pos := "l7_sets.go:220", after := #[{ on := 3, ground := Go.Ground.data }, { on := 7, ground := Go.Ground.data }, { on := 7, ground := Go.Ground.chain }], guard := none }) rfl (fun K hK => ?_) AllReadyH.nil
    go_simp
    (go_at_call 44; refine (HR.out _).mono ?_; rintro e w7 ⟨rfl, hb7⟩; have hbW7 := below_on (w := w3) (by go_grown) hb7; have R7 := s2_on R.out hbW7; obtain ⟨a0, a1, a2, a3⟩ := id R7)
    (try go_wp2_with fail)
    refine hK.out _ _ ?_ (fun hHeld => ?_)
    · try dsimp only
      first | (refine s2_keep X.out ?_; go_grown; done) | exact ⟨(s2_set (s2_set (s2_on X.out hbW7) (by omega)) (by omega)).2.1, (s2_set (s2_set (s2_on X.out hbW7) (by omega)) (by omega)).2.2.1⟩
    clear hK K
    try simp only [Act.put, List.setIfInBounds_toArray, List.set_cons_zero, List.set_cons_succ]
    refine wpAnyH_take (i := 9) (oi := { dst := some 24, op := Go.Op.extract (Go.Operand.tmp 23) 0, type := 26, pos := "l7_sets.go:220", after := #[{ on := 8, ground := Go.Ground.data }], guard := none }) (v := ?_) rfl (by kernel_rfl) (by kernel_rfl) (by kernel_rfl) (fun _ _ _ h => h) (Or.inl ⟨by rfl, ?_⟩) (by assumption) ?_
    rotate_left
    · (intro w hSw; (try dsimp only at hSw); first | (go_simp; done) | (go_simp; with_reducible rfl))
    try simp only [Act.put, List.setIfInBounds_toArray, List.set_cons_zero, List.set_cons_succ]
    refine wpAnyH_take (i := 10) (oi := { dst := some 25, op := Go.Op.extract (Go.Operand.tmp 23) 1, type := 4, pos := "l7_sets.go:220", after := #[{ on := 8, ground := Go.Ground.data }], guard := none }) (v := ?_) rfl (by kernel_rfl) (by kernel_rfl) (by kernel_rfl) (fun _ _ _ h => h) (Or.inl ⟨by rfl, ?_⟩) (by assumption) ?_
    rotate_left
    · (intro w hSw; (try dsimp only at hSw); first | (go_simp; done) | (go_simp; with_reducible rfl))
    try simp only [Act.put, List.setIfInBounds_toArray, List.set_cons_zero, List.set_cons_succ]
    refine wpAnyH_ready (rs := [11]) (by kernel_rfl) (by simp) ?_
    refine AllReadyH.cons (o := { dst := none, op := Go.Op.store 26 (Go.Operand.tmp 4) (Go.Operand.tmp 24), type := 0, pos := "l7_sets.go:220", after := #[{ on := 9, ground := Go.Ground.data }, { on := 8, ground := Go.Ground.chain }, { on := 0, ground := Go.Ground.phase }, { on := 1, ground := Go.Ground.phase }, { on := 2, ground := Go.Ground.phase }, { on := 3, ground := Go.Ground.phase }, { on := 4, ground := Go.Ground.phase }, { on := 5, ground := Go.Ground.phase }, { on := 6, ground := Go.Ground.phase }, { on := 7, ground := Go.Ground.phase }, { on := 8, ground := Go.Ground.phase }, { on := 9, ground := Go.Ground.phase }, { on := 10, ground := Go.Ground.phase }], guard := none }) rfl (fun K hK => ?_) AllReadyH.nil
    go_simp
    refine hK.out _ _ ?_ (fun hHeld => ?_)
    · try dsimp only
      first | (refine s2_keep X.out ?_; go_grown; done) | exact ⟨(s2_set (s2_set (s2_on X.out hbW7) (by omega)) (by omega)).2.1, (s2_set (s2_set (s2_on X.out hbW7) (by omega)) (by omega)).2.2.1⟩
    clear hK K
    try simp only [Act.put, List.setIfInBounds_toArray, List.set_cons_zero, List.set_cons_succ]
    refine wpAnyH_take (i := 12) (oi := { dst := some 5, op := Go.Op.assign (Go.Operand.tmp 25), type := 4, pos := "l7_sets.go:220", after := #[{ on := 10, ground := Go.Ground.data }, { on := 11, ground := Go.Ground.chain }, { on := 0, ground := Go.Ground.phase }, { on := 1, ground := Go.Ground.phase }, { on := 2, ground := Go.Ground.phase }, { on := 3, ground := Go.Ground.phase }, { on := 4, ground := Go.Ground.phase }, { on := 5, ground := Go.Ground.phase }, { on := 6, ground := Go.Ground.phase }, { on := 7, ground := Go.Ground.phase }, { on := 8, ground := Go.Ground.phase }, { on := 9, ground := Go.Ground.phase }, { on := 10, ground := Go.Ground.phase }, { on := 11, ground := Go.Ground.phase }], guard := none }) (v := ?_) rfl (by kernel_rfl) (by kernel_rfl) (by kernel_rfl) (fun _ _ _ h => h) (Or.inl ⟨by rfl, ?_⟩) (by assumption) ?_
    rotate_left
    · (intro w hSw; (try dsimp only at hSw); first | (go_simp; done) | (go_simp; with_reducible rfl))
    try simp only [Act.put, List.setIfInBounds_toArray, List.set_cons_zero, List.set_cons_succ]
    refine wpAnyH_done (by kernel_rfl) ?_ _
    go_wp2
    generalize hW8 : World.setCell _ _ _ = W8
    obtain ⟨⟨_, r1, r2, _⟩, _, _, hb8⟩ := s2_put hW8 _ _ R7
    refine bodyPost_ret (v := .tuple #[.agg #[.string (bs r.1.1), .string (bs r.1.2)], .bool r.2]) (by simp [results, Tryd.results36, go_sem, r1, r2]) rfl ⟨by rw [HF.out], ?_⟩
    exact below_on (hb8 w (below_on B.out hbW7) hne) (by go_grown)

end Go.Proofs.YtmhpjaaffpomnaaDoor
