/- ProgressionSet, ShiftSet, StretchSet of the model. -/
import Derived.Test.YtkhnninnmpffmaaDoorSeC
namespace Go.Proofs.YtkhnninnmpffmaaDoor
open Go.RowKit

theorem bits_rep (n : Nat) : ∀ x ∈ List.replicate n (48 : UInt8), x = 48 ∨ x = 49 := fun _ hx => .inl (List.eq_of_mem_replicate hx)
theorem bits_cat {a b : List UInt8} (h1 : ∀ x ∈ a, x = 48 ∨ x = 49) (h2 : ∀ x ∈ b, x = 48 ∨ x = 49) : ∀ x ∈ a ++ b, x = 48 ∨ x = 49 := fun x hx => by
  rcases List.mem_append.1 hx with h | h
  · exact h1 x h
  · exact h2 x h
theorem bits_str {l : List UInt8} {k : Nat} (h : ∀ x ∈ l, x = 48 ∨ x = 49) : ∀ x ∈ strL l k, x = 48 ∨ x = 49 := fun x hx => by
  unfold strL at hx
  obtain ⟨y, hy, hx⟩ := List.mem_flatMap.1 hx
  rcases List.mem_cons.1 hx with rfl | hx
  · exact h x hy
  · exact .inl (List.eq_of_mem_replicate hx)

set_option maxRecDepth 10000 in
set_option maxHeartbeats 4000000 in
theorem specProgressionSet_any (f s : Int) (w : World) (f0 : -9223372036854775808 ≤ f) (f1 : f ≤ 9223372036854775807) (s0 : -9223372036854775808 ≤ s) (s1 : s ≤ 9223372036854775807) :
    Calls Tryd.prog 6 #[.int .i64 f, .int .i64 s] w fun e w' => e = .returned (.tuple #[.agg #[.string (bs (prR f s).1.1), .string (bs (prR f s).1.2)], .bool (prR f s).2]) ∧ Below w.heap.size w w' := by
  have H1 := Lib.hid fun w => l1In_any f 0 400 w
  have H2 := Lib.hid fun w => l1In_any s 0 240 w
  by_cases hf : 0 ≤ f ∧ f ≤ 400
  case neg =>
    have HF : Hid (prR f s = (([], []), false)) := Lib.hid (by unfold prR; rw [decide_eq_false hf]; rfl)
    have e1 : inB f 0 400 = false := by unfold inB; exact decide_eq_false hf
    rw [e1] at H1
    clear hf e1
    go_enter Tryd.func6, Tryd.ntmps6
    go_wp2_with fail
    generalize hW0 : World.alloc w _ = W0
    obtain ⟨hr, hsr, hwr⟩ := s2_new hW0
    clear hW0
    have R3 := hr
    have B3 := hwr
    have hne : w.heap.size ≤ w.heap.size := Nat.le_refl _
    obtain ⟨a0, a1, a2, a3⟩ := id R3
    refine (H1.out _).mono ?_
    rintro e w' ⟨rfl, rfl⟩
    go_wp2
    generalize hW : World.setCell _ _ _ = W8
    obtain ⟨⟨_, r1, r2, _⟩, _, _, hb8⟩ := s2_put hW _ _ R3
    refine bodyPost_ret (v := .tuple #[.agg #[.string ⟨#[]⟩, .string ⟨#[]⟩], .bool false]) (by simp [results, Tryd.results6, go_sem, r1, r2]) rfl ⟨by rw [HF.out]; rfl, ?_⟩
    exact hb8 w B3 hne
  by_cases hs : 0 ≤ s ∧ s ≤ 240
  case neg =>
    have HF : Hid (prR f s = (([], []), false)) := Lib.hid (by unfold prR; rw [decide_eq_false hs, Bool.and_false]; rfl)
    have e1 : inB f 0 400 = true := by unfold inB; exact decide_eq_true hf
    have e2 : inB s 0 240 = false := by unfold inB; exact decide_eq_false hs
    rw [e1] at H1
    rw [e2] at H2
    clear hf hs e1 e2
    go_enter Tryd.func6, Tryd.ntmps6
    go_wp2_with fail
    generalize hW0 : World.alloc w _ = W0
    obtain ⟨hr, hsr, hwr⟩ := s2_new hW0
    clear hW0
    have R3 := hr
    have B3 := hwr
    have hne : w.heap.size ≤ w.heap.size := Nat.le_refl _
    obtain ⟨a0, a1, a2, a3⟩ := id R3
    refine (H1.out _).mono ?_
    rintro e w' ⟨rfl, rfl⟩
    go_wp2_with fail
    refine (H2.out _).mono ?_
    rintro e w' ⟨rfl, rfl⟩
    go_wp2
    generalize hW : World.setCell _ _ _ = W8
    obtain ⟨⟨_, r1, r2, _⟩, _, _, hb8⟩ := s2_put hW _ _ R3
    refine bodyPost_ret (v := .tuple #[.agg #[.string ⟨#[]⟩, .string ⟨#[]⟩], .bool false]) (by simp [results, Tryd.results6, go_sem, r1, r2]) rfl ⟨by rw [HF.out]; rfl, ?_⟩
    exact hb8 w B3 hne
  have HF0 : Hid (prR f s = resA (prA f.toNat s.toNat)) := Lib.hid (by unfold prR; rw [decide_eq_true hf, decide_eq_true hs]; rfl)
  have e1 : inB f 0 400 = true := by unfold inB; exact decide_eq_true hf
  have e2 : inB s 0 240 = true := by unfold inB; exact decide_eq_true hs
  rw [e1] at H1
  rw [e2] at H2
  obtain ⟨F, rfl⟩ : ∃ F : Nat, f = F := ⟨f.toNat, by omega⟩
  obtain ⟨S, rfl⟩ : ∃ S : Nat, s = S := ⟨s.toNat, by omega⟩
  have hF : F ≤ 400 := by omega
  have hS : S ≤ 240 := by omega
  have happ := bs_app
  have hb49 : ({ data := #[49] } : ByteArray) = bs [49] := rfl
  have HM := Lib.hid fun w => l17Many_any [48] F w (by simp) (by omega)
  rw [rep_zero] at HM
  clear hf hs e1 e2 f0 f1 s0 s1
  by_cases hS0 : S = 0
  · subst hS0
    have HR := Lib.hid fun w => l7Result_any (List.replicate F 48 ++ [49]) [48] w (by simp) (bits_cat (bits_rep F) (by simp)) (by simp) (by simp; omega) (by simp)
    have e : atS (List.replicate F 48 ++ [49]) [48] = prA F 0 := funext fun n => pr_at0 F n
    rw [e] at HR
    obtain ⟨r, hr0⟩ : ∃ r, resA (prA F 0) = r := ⟨_, rfl⟩
    have HF : Hid (prR F (0 : Nat) = r) := Lib.hid (by rw [HF0.out, ← hr0]; rfl)
    rw [hr0] at HR
    obtain ⟨Z, hZ⟩ : ∃ Z, List.replicate F (48 : UInt8) = Z := ⟨_, rfl⟩
    have hz1 := bs_size Z
    have hzl : Z.length = F := by rw [← hZ]; simp
    rw [hzl] at hz1
    have hz2 : (bs ([49] : List UInt8)).size = 1 := bs_size [49]
    rw [hZ] at HM HR
    have ge : (((0 : Nat) : Int) == 0) = true := rfl
    clear e hr0 hZ hzl HF0
    go_enter Tryd.func6, Tryd.ntmps6
    go_wp2_with fail
    generalize hW0 : World.alloc w _ = W0
    obtain ⟨hr, hsr, hwr⟩ := s2_new hW0
    clear hW0
    have R3 := hr
    have B3 := hwr
    have hne : w.heap.size ≤ w.heap.size := Nat.le_refl _
    obtain ⟨a0, a1, a2, a3⟩ := id R3
    refine (H1.out _).mono ?_
    rintro e w' ⟨rfl, rfl⟩
    go_wp2_with fail
    refine (H2.out _).mono ?_
    rintro e w' ⟨rfl, rfl⟩
    go_wp2_with fail
    refine (HM.out _).mono ?_
    rintro e w' ⟨rfl, rfl⟩
    go_wp2_with fail
    refine (HR.out _).mono ?_
    rintro e w5 ⟨rfl, hb5⟩
    have R5 := s2_on R3 hb5
    have B5 := below_on B3 hb5
    clear a0 a1 a2 a3
    obtain ⟨a0, a1, a2, a3⟩ := id R5
    go_wp2
    generalize hW : World.setCell _ _ _ = W8
    obtain ⟨⟨_, r1, r2, _⟩, _, _, hb8⟩ := s2_put hW _ _ R5
    refine bodyPost_ret (v := .tuple #[.agg #[.string (bs r.1.1), .string (bs r.1.2)], .bool r.2]) (by simp [results, Tryd.results6, go_sem, r1, r2]) rfl ⟨by rw [HF.out], ?_⟩
    exact hb8 w B5 hne
  · have HR := Lib.hid fun w => l7Result_any (List.replicate F 48) (49 :: List.replicate (S - 1) 48) w (by simp) (bits_rep F) (bits_cat (a := [49]) (by simp) (bits_rep (S - 1))) (by simp; omega) (by simp; omega)
    have e : atS (List.replicate F 48) (49 :: List.replicate (S - 1) 48) = prA F S := funext fun n => pr_at1 F S n (by omega)
    rw [e] at HR
    obtain ⟨r, hr0⟩ : ∃ r, resA (prA F S) = r := ⟨_, rfl⟩
    have HF : Hid (prR F S = r) := Lib.hid (by rw [HF0.out, ← hr0]; rfl)
    rw [hr0] at HR
    have HM2 := Lib.hid fun w => l17Many_any [48] (S - 1) w (by simp) (by omega)
    rw [rep_zero] at HM2
    obtain ⟨S1, hS1⟩ : ∃ k, S - 1 = k := ⟨_, rfl⟩
    rw [hS1] at HM2 HR
    have hws : IntKind.i64.wrap ((S : Int) - 1) = (S1 : Int) := by rw [IntKind.wrap_i64]; omega
    obtain ⟨Z, hZ⟩ : ∃ Z, List.replicate F (48 : UInt8) = Z := ⟨_, rfl⟩
    obtain ⟨Y, hY⟩ : ∃ Z, List.replicate S1 (48 : UInt8) = Z := ⟨_, rfl⟩
    have hz1 := bs_size Y
    have hzl : Y.length = S1 := by rw [← hY]; simp
    rw [hzl] at hz1
    have hz2 : (bs ([49] : List UInt8)).size = 1 := bs_size [49]
    have hcat : bs [49] ++ bs Y = bs (49 :: Y) := happ [49] Y
    rw [hZ] at HM HR
    rw [hY] at HM2 HR
    have hS1b : S1 ≤ 1000 := by omega
    have ge : ((S : Int) == 0) = false := by rw [beq_eq_false_iff_ne]; omega
    clear e hr0 hZ hY hzl HF0 hS1 hS0 happ
    go_enter Tryd.func6, Tryd.ntmps6
    go_wp2_with fail
    generalize hW0 : World.alloc w _ = W0
    obtain ⟨hr, hsr, hwr⟩ := s2_new hW0
    clear hW0
    have R3 := hr
    have B3 := hwr
    have hne : w.heap.size ≤ w.heap.size := Nat.le_refl _
    obtain ⟨a0, a1, a2, a3⟩ := id R3
    refine (H1.out _).mono ?_
    rintro e w' ⟨rfl, rfl⟩
    go_wp2_with fail
    refine (H2.out _).mono ?_
    rintro e w' ⟨rfl, rfl⟩
    go_wp2_with fail
    refine (HM.out _).mono ?_
    rintro e w' ⟨rfl, rfl⟩
    go_wp2_with fail
    refine (HM2.out _).mono ?_
    rintro e w' ⟨rfl, rfl⟩
    go_wp2_with fail
    refine (HR.out _).mono ?_
    rintro e w5 ⟨rfl, hb5⟩
    have R5 := s2_on R3 hb5
    have B5 := below_on B3 hb5
    clear a0 a1 a2 a3
    obtain ⟨a0, a1, a2, a3⟩ := id R5
    go_wp2
    generalize hW : World.setCell _ _ _ = W8
    obtain ⟨⟨_, r1, r2, _⟩, _, _, hb8⟩ := s2_put hW _ _ R5
    refine bodyPost_ret (v := .tuple #[.agg #[.string (bs r.1.1), .string (bs r.1.2)], .bool r.2]) (by simp [results, Tryd.results6, go_sem, r1, r2]) rfl ⟨by rw [HF.out], ?_⟩
    exact hb8 w B5 hne

end Go.Proofs.YtkhnninnmpffmaaDoor
