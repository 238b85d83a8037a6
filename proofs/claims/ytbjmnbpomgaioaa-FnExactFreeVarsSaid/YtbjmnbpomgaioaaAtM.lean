/- Contracts of the model's l2Most, SplitZero, l2All, l2Negate, NegateAtom. -/
import Derived.Test.YtbjmnbpomgaioaaAtS
import Derived.Test.YtbjmnbpomgaioaaSpecD
import Derived.Deep.RegionHeld3
namespace Go.Proofs.Ytbjmnbpomgaioaa
open Go.RowKit

/-- The atom that a sum is at most 0. -/
def mostD (a b c d n : Int) : AtD := ⟨0, 0, a, b, c, d, n⟩

set_option maxHeartbeats 1000000 in
theorem l2Most_g (k a b c d n e A B C D M : Int) (w : World) (hA : k * a = A) (hB : k * b = B) (hC : k * c = C) (hD : k * d = D) (hM : k * n = M)
    (bA : -100 ≤ A ∧ A ≤ 100) (bB : -100 ≤ B ∧ B ≤ 100) (bC : -100 ≤ C ∧ C ≤ 100) (bD : -100 ≤ D ∧ D ≤ 100) (bM : -10000 ≤ M ∧ M ≤ 10000) (he : 0 ≤ e ∧ e ≤ 1) :
    Calls Try.prog 77 #[.int .i64 k, .agg #[.int .i64 a, .int .i64 b, .int .i64 c, .int .i64 d, .int .i64 n], .int .i64 e] w fun r w' => r = .returned (.agg #[.int .i64 0, .int .i64 0, .int .i64 A, .int .i64 B, .int .i64 C, .int .i64 D, .int .i64 (M + e)]) ∧ Below w.heap.size w w' := by
  have hp := fun W => l1Plus_any 0 0 0 0 0 k a b c d n W (by rw [hA]; omega) (by rw [hB]; omega) (by rw [hC]; omega) (by rw [hD]; omega) (by rw [hM]; omega) (by omega) (by omega) (by omega) (by omega) (by omega)
  simp only [Int.zero_add] at hp
  rw [hA, hB, hC, hD, hM] at hp
  have HP := Lib.hid hp
  obtain ⟨e0, e1⟩ := he
  obtain ⟨m0, m1⟩ := bM
  clear hp hA hB hC hD hM bA bB bC bD
  go_enter Try.func77, Try.ntmps77
  go_wp2_with fail
  generalize hW : World.alloc _ _ = W
  have hz : C7 W (w.heap.size + 1) 0 0 0 0 0 0 0 := by subst hW; exact (by refine ⟨?_, ?_, ?_, ?_, ?_, ?_, ?_, ?_⟩ <;> first | (simp [go_sem]; done) | (simp; omega))
  have fz : Hid (∀ o, W.frozen? ⟨w.heap.size + 1, o, none⟩ = false) := by intro o; subst hW; simp [go_sem]
  have hw0 : Below w.heap.size w W := by subst hW; go_grown
  clear hW
  refine (HP.out _).mono ?_
  rintro r w1 ⟨rfl, hb1⟩
  obtain ⟨z0, z1, z2, z3, z4, z5, z6, z7⟩ := c7_on hz hb1
  have fz1 : Hid _ := fz7_on hz.1 fz hb1
  have hw1 := below_on hw0 hb1
  have hs1 : w.heap.size + 1 < w1.heap.size := z0
  have hz1 := c7_on hz hb1
  clear z0 z1 z2 z3 z4 z5 z6 z7
  go_upto_region 3 with fail
  generalize hW2 : w1.alloc _ = W2
  have hb2 : Below w1.heap.size w1 W2 := by subst hW2; go_grown
  obtain ⟨k0, k1, k2, k3, k4, k5⟩ : C5 W2 w1.heap.size A B C D (M + e) := by subst hW2; exact (by refine ⟨?_, ?_, ?_, ?_, ?_, ?_⟩ <;> first | (simp [go_sem]; done) | (simp; omega))
  obtain ⟨z0, z1, z2, z3, z4, z5, z6, z7⟩ := c7_on hz1 hb2
  have fz2 := fz7_on hz1.1 fz1 hb2
  have hw2 := below_on hw1 hb2
  clear hW2 hz hz1 fz fz1
  go_wp2
  refine bodyPost_ret (v := .agg #[.int .i64 0, .int .i64 0, .int .i64 A, .int .i64 B, .int .i64 C, .int .i64 D, .int .i64 (M + e)]) (by simp [results, Try.results77, go_sem, z1, z2, z3, z4, z5, z6, z7]) rfl ⟨rfl, ?_⟩
  go_grown

theorem l2Most_pos (a b c d n e : Int) (w : World) (h : tvB a b c d n = true) (he : 0 ≤ e ∧ e ≤ 1) :
    Calls Try.prog 77 #[.int .i64 1, .agg #[.int .i64 a, .int .i64 b, .int .i64 c, .int .i64 d, .int .i64 n], .int .i64 e] w fun r w' => r = .returned (.agg #[.int .i64 0, .int .i64 0, .int .i64 a, .int .i64 b, .int .i64 c, .int .i64 d, .int .i64 (n + e)]) ∧ Below w.heap.size w w' := by
  obtain ⟨b1, b2, b3, b4, b5⟩ := tv_bd h
  exact l2Most_g 1 a b c d n e a b c d n w (Int.one_mul _) (Int.one_mul _) (Int.one_mul _) (Int.one_mul _) (Int.one_mul _) b1 b2 b3 b4 b5 he
theorem l2Most_neg (a b c d n e : Int) (w : World) (h : tvB a b c d n = true) (he : 0 ≤ e ∧ e ≤ 1) :
    Calls Try.prog 77 #[.int .i64 (-1), .agg #[.int .i64 a, .int .i64 b, .int .i64 c, .int .i64 d, .int .i64 n], .int .i64 e] w fun r w' => r = .returned (.agg #[.int .i64 0, .int .i64 0, .int .i64 (-a), .int .i64 (-b), .int .i64 (-c), .int .i64 (-d), .int .i64 (-n + e)]) ∧ Below w.heap.size w w' := by
  obtain ⟨b1, b2, b3, b4, b5⟩ := tv_bd h
  exact l2Most_g (-1) a b c d n e (-a) (-b) (-c) (-d) (-n) w (by omega) (by omega) (by omega) (by omega) (by omega) (by omega) (by omega) (by omega) (by omega) (by omega) he

theorem keep7 {W w' : World} {x : Nat} {k m a b c d n : Int} (hx : C7 W x k m a b c d n) (hB : Below W.heap.size W w') :
    Below W.heap.size W w' ∧ w'.cell? ⟨x, 0, none⟩ = some (.int .i64 k) ∧ w'.cell? ⟨x, 1, none⟩ = some (.int .i64 m) ∧ w'.cell? ⟨x, 2, none⟩ = some (.int .i64 a) ∧ w'.cell? ⟨x, 3, none⟩ = some (.int .i64 b) ∧ w'.cell? ⟨x, 4, none⟩ = some (.int .i64 c) ∧ w'.cell? ⟨x, 5, none⟩ = some (.int .i64 d) ∧ w'.cell? ⟨x, 6, none⟩ = some (.int .i64 n) :=
  ⟨hB, (c7_on hx hB).2⟩

/-- A new list of atoms, and whether there is one. -/
def AtsT (L : List AtD) (ok : Bool) (w : World) (e : Ending) (w' : World) : Prop := ∃ v, e = .returned (.tuple #[v, .bool ok]) ∧ OwnA w' w.heap.size v L ∧ Below w.heap.size w w'

theorem ownA_lit {w : World} {B : Nat} (cs : Array Value) (L : List AtD) (hB : B ≤ w.heap.size) (hl : L.length ≤ 1000) (hcs : cs.toList = AL L) : OwnA (w.alloc (.cells cs 41)) B (.slice (some ⟨w.heap.size, 0, none⟩) L.length L.length) L := by
  have h := World.ownsRow_lit (base := B) (e := 41) (size := 7) w cs L.length hB (by unfold maxLen; omega) (by have := al_len L; rw [← hcs] at this; simpa using this)
  rw [hcs] at h
  exact h

def szL (a b c d n : Int) : List AtD := [mostD a b c d n, mostD (-a) (-b) (-c) (-d) (-n)]

set_option maxRecDepth 10000 in
set_option maxHeartbeats 2000000 in
theorem specSplitZero_t (k m a b c d n : Int) (w : World) :
    Calls Try.prog 25 #[.agg #[.int .i64 k, .int .i64 m, .int .i64 a, .int .i64 b, .int .i64 c, .int .i64 d, .int .i64 n]] w (AtsT (if avB k m a b c d n = true ∧ k = 1 then szL a b c d n else []) (decide (avB k m a b c d n = true ∧ k = 1)) w) := by
  cases hav : avB k m a b c d n with
  | false =>
    have HA := Lib.hid hav
    rw [if_neg (by simp), decide_eq_false (by simp)]
    clear hav
    go_enter Try.func25, Try.ntmps25
    go_wp2_with fail
    generalize hW : World.alloc _ _ = W
    have hw : Below w.heap.size w W := by subst hW; go_grown
    clear hW
    refine (specAtomValid_is _ _ _ _ _ _ _ false _ HA.out).mono ?_
    rintro e w1 ⟨rfl, hb1⟩
    have hw1 := below_on hw hb1
    have hO := ownA_lit (w := w1) (B := w.heap.size) #[] [] hw1.size (by simp) rfl
    have HO := Lib.hid hO
    have hs1 := hw1.size
    clear hO
    go_wp2
    go_ret2
    exact ⟨_, rfl, HO.out, by go_grown⟩
  | true =>
    have HA := Lib.hid hav
    by_cases hk : k = 1
    · subst hk
      rw [if_pos ⟨rfl, rfl⟩, decide_eq_true ⟨rfl, rfl⟩]
      have htv := (avB_cases hav).2
      have HP := Lib.hid fun W => l2Most_pos a b c d n 0 W htv (by omega)
      have HM := Lib.hid fun W => l2Most_neg a b c d n 0 W htv (by omega)
      simp only [Int.add_zero] at HP HM
      clear hav htv
      go_enter Try.func25, Try.ntmps25
      go_wp2_with fail
      generalize hW : World.alloc _ _ = W
      have hx : C7 W w.heap.size 1 m a b c d n := by subst hW; exact (by refine ⟨?_, ?_, ?_, ?_, ?_, ?_, ?_, ?_⟩ <;> first | (simp [go_sem]; done) | (simp; omega))
      have hw : Below w.heap.size w W := by subst hW; go_grown
      clear hW
      refine (specAtomValid_is _ _ _ _ _ _ _ true _ HA.out).mono ?_
      rintro e W1 ⟨rfl, hb1⟩
      have hx1 := c7_on hx hb1
      have hw1 := below_on hw hb1
      obtain ⟨x0, x1, x2, x3, x4, x5, x6, x7⟩ := id hx1
      clear hx hb1 hw
      obtain ⟨W, hWW⟩ : ∃ W, W1 = W := ⟨_, rfl⟩
      subst hWW
      go_wp2_with fail
      refine wp_region_held_drew (S := (fun w' => Below W1.heap.size W1 w' ∧ w'.cell? ⟨w.heap.size, 0, none⟩ = some (.int .i64 1) ∧ w'.cell? ⟨w.heap.size, 1, none⟩ = some (.int .i64 m) ∧ w'.cell? ⟨w.heap.size, 2, none⟩ = some (.int .i64 a) ∧ w'.cell? ⟨w.heap.size, 3, none⟩ = some (.int .i64 b) ∧ w'.cell? ⟨w.heap.size, 4, none⟩ = some (.int .i64 c) ∧ w'.cell? ⟨w.heap.size, 5, none⟩ = some (.int .i64 d) ∧ w'.cell? ⟨w.heap.size, 6, none⟩ = some (.int .i64 n))) (by kernel_rfl) ?_ (fun hHeld => ?_)
      · try dsimp only
        exact keep7 hx1 (by go_grown)
      refine wpAnyH_take (i := 0) (oi := { dst := some 13, op := Go.Op.fieldAddr 41 (Go.Operand.tmp 1) 2, type := 0, pos := "l2_atoms.go:130", after := #[], guard := none }) (v := ?_) rfl (by kernel_rfl) (by kernel_rfl) (by kernel_rfl) (fun _ _ _ h => h) (Or.inl ⟨by rfl, ?_⟩) (by assumption) ?_
      rotate_left
      · (intro w hSw; (try dsimp only at hSw); first | (go_simp; done) | (go_simp; with_reducible rfl))
      try simp only [Act.put, List.setIfInBounds_toArray, List.set_cons_zero, List.set_cons_succ]
      refine wpAnyH_take (i := 1) (oi := { dst := some 14, op := Go.Op.load 39 (Go.Operand.tmp 13), type := 39, pos := "l2_atoms.go:130", after := #[{ on := 0, ground := Go.Ground.data }], guard := none }) (v := ?_) rfl (by kernel_rfl) (by kernel_rfl) (by kernel_rfl) (fun _ _ _ h => h) (Or.inl ⟨by rfl, ?_⟩) (by assumption) ?_
      rotate_left
      · (intro w hSw; (try dsimp only at hSw); first | (go_simp; done) | (go_simp; with_reducible rfl))
      try simp only [Act.put, List.setIfInBounds_toArray, List.set_cons_zero, List.set_cons_succ]
      refine wpAnyH_take (i := 3) (oi := { dst := some 16, op := Go.Op.fieldAddr 41 (Go.Operand.tmp 1) 2, type := 0, pos := "l2_atoms.go:130", after := #[], guard := none }) (v := ?_) rfl (by kernel_rfl) (by kernel_rfl) (by kernel_rfl) (fun _ _ _ h => h) (Or.inl ⟨by rfl, ?_⟩) (by assumption) ?_
      rotate_left
      · (intro w hSw; (try dsimp only at hSw); first | (go_simp; done) | (go_simp; with_reducible rfl))
      try simp only [Act.put, List.setIfInBounds_toArray, List.set_cons_zero, List.set_cons_succ]
      refine wpAnyH_take (i := 4) (oi := { dst := some 17, op := Go.Op.load 39 (Go.Operand.tmp 16), type := 39, pos := "l2_atoms.go:130", after := #[{ on := 3, ground := Go.Ground.data }], guard := none }) (v := ?_) rfl (by kernel_rfl) (by kernel_rfl) (by kernel_rfl) (fun _ _ _ h => h) (Or.inl ⟨by rfl, ?_⟩) (by assumption) ?_
      rotate_left
      · (intro w hSw; (try dsimp only at hSw); first | (go_simp; done) | (go_simp; with_reducible rfl))
      try simp only [Act.put, List.setIfInBounds_toArray, List.set_cons_zero, List.set_cons_succ]
      refine wpAnyH_ready (rs := [2]) (by kernel_rfl) (by simp) ?_
      refine AllReadyH.cons (o := { dst := some 15, op := Go.Op.call { callee := Go.Callee.value (Go.Operand.func 77), args := #[Go.Operand.const (Go.Value.int Go.IntKind.i64 1), Go.Operand.tmp 14, Go.Operand.const (Go.Value.int Go.IntKind.i64 0)], argTypes := #[3, 39, 3] }, type := 41, pos := "l2_atoms.go:130", after := #[{ on := 1, ground := Go.Ground.data }], guard := none }) rfl (fun K hK => ?_) AllReadyH.nil
      go_simp
      (first | (go_at_call 77; (with_reducible refine (HP.out _).mono ?_); rintro e w4 ⟨rfl, hb4⟩; have hbb4 := below_on (w := W1) (by go_grown) hb4; have hsb4 : W1.heap.size ≤ w4.heap.size := hbb4.size) | (go_at_call 77; (with_reducible refine (HM.out _).mono ?_); rintro e w5 ⟨rfl, hb5⟩; have hbb5 := below_on hbb4 hb5; have hsb5 : W1.heap.size ≤ w5.heap.size := hbb5.size))
      (try go_wp2_with fail)
      refine hK.out _ _ ?_ (fun hHeld => ?_)
      · try dsimp only
        exact keep7 hx1 (by go_grown)
      clear hK K
      try simp only [Act.put, List.setIfInBounds_toArray, List.set_cons_zero, List.set_cons_succ]
      refine wpAnyH_ready (rs := [5]) (by kernel_rfl) (by simp) ?_
      refine AllReadyH.cons (o := { dst := some 18, op := Go.Op.call { callee := Go.Callee.value (Go.Operand.func 77), args := #[Go.Operand.const (Go.Value.int Go.IntKind.i64 (-1)), Go.Operand.tmp 17, Go.Operand.const (Go.Value.int Go.IntKind.i64 0)], argTypes := #[3, 39, 3] }, type := 41, pos := "l2_atoms.go:130", after := #[{ on := 4, ground := Go.Ground.data }, { on := 2, ground := Go.Ground.chain }], guard := none }) rfl (fun K hK => ?_) AllReadyH.nil
      go_simp
      (first | (go_at_call 77; (with_reducible refine (HP.out _).mono ?_); rintro e w4 ⟨rfl, hb4⟩; have hbb4 := below_on (w := W1) (by go_grown) hb4; have hsb4 : W1.heap.size ≤ w4.heap.size := hbb4.size) | (go_at_call 77; (with_reducible refine (HM.out _).mono ?_); rintro e w5 ⟨rfl, hb5⟩; have hbb5 := below_on hbb4 hb5; have hsb5 : W1.heap.size ≤ w5.heap.size := hbb5.size))
      (try go_wp2_with fail)
      refine hK.out _ _ ?_ (fun hHeld => ?_)
      · try dsimp only
        exact keep7 hx1 (by go_grown)
      clear hK K
      try simp only [Act.put, List.setIfInBounds_toArray, List.set_cons_zero, List.set_cons_succ]
      refine wpAnyH_ready (rs := [6]) (by kernel_rfl) (by simp) ?_
      refine AllReadyH.cons (o := { dst := some 19, op := Go.Op.buildSlice 36 2 #[(0, Go.Operand.tmp 15), (1, Go.Operand.tmp 18)], type := 36, pos := "l2_atoms.go:130", after := #[{ on := 2, ground := Go.Ground.data }, { on := 5, ground := Go.Ground.data }], guard := none }) rfl (fun K hK => ?_) AllReadyH.nil
      go_simp
      refine hK.out _ _ ?_ (fun hHeld => ?_)
      · try dsimp only
        exact keep7 hx1 (by go_grown)
      clear hK K
      try simp only [Act.put, List.setIfInBounds_toArray, List.set_cons_zero, List.set_cons_succ]
      refine wpAnyH_take (i := 7) (oi := { dst := some 2, op := Go.Op.assign (Go.Operand.tmp 19), type := 36, pos := "l2_atoms.go:130", after := #[{ on := 6, ground := Go.Ground.data }, { on := 5, ground := Go.Ground.chain }, { on := 0, ground := Go.Ground.phase }, { on := 1, ground := Go.Ground.phase }, { on := 2, ground := Go.Ground.phase }, { on := 3, ground := Go.Ground.phase }, { on := 4, ground := Go.Ground.phase }, { on := 5, ground := Go.Ground.phase }, { on := 6, ground := Go.Ground.phase }], guard := none }) (v := ?_) rfl (by kernel_rfl) (by kernel_rfl) (by kernel_rfl) (fun _ _ _ h => h) (Or.inl ⟨by rfl, ?_⟩) (by assumption) ?_
      rotate_left
      · (intro w hSw; (try dsimp only at hSw); first | (go_simp; done) | (go_simp; with_reducible rfl))
      try simp only [Act.put, List.setIfInBounds_toArray, List.set_cons_zero, List.set_cons_succ]
      refine wpAnyH_take (i := 8) (oi := { dst := some 3, op := Go.Op.assign (Go.Operand.const (Go.Value.bool true)), type := 4, pos := "l2_atoms.go:130", after := #[{ on := 7, ground := Go.Ground.chain }, { on := 0, ground := Go.Ground.phase }, { on := 1, ground := Go.Ground.phase }, { on := 2, ground := Go.Ground.phase }, { on := 3, ground := Go.Ground.phase }, { on := 4, ground := Go.Ground.phase }, { on := 5, ground := Go.Ground.phase }, { on := 6, ground := Go.Ground.phase }, { on := 7, ground := Go.Ground.phase }], guard := none }) (v := ?_) rfl (by kernel_rfl) (by kernel_rfl) (by kernel_rfl) (fun _ _ _ h => h) (Or.inl ⟨by rfl, ?_⟩) (by assumption) ?_
      rotate_left
      · (intro w hSw; (try dsimp only at hSw); first | (go_simp; done) | (go_simp; with_reducible rfl))
      try simp only [Act.put, List.setIfInBounds_toArray, List.set_cons_zero, List.set_cons_succ]
      refine wpAnyH_done (by kernel_rfl) ?_ _
      have hw5 := below_on hw1 hbb5
      have hs5 := hw5.size
      have HO := Lib.hid (ownA_lit (w := w5) (B := w.heap.size) #[.int .i64 0, .int .i64 0, .int .i64 a, .int .i64 b, .int .i64 c, .int .i64 d, .int .i64 n, .int .i64 0, .int .i64 0, .int .i64 (-a), .int .i64 (-b), .int .i64 (-c), .int .i64 (-d), .int .i64 (-n)] (szL a b c d n) hw5.size (by simp [szL]) rfl)
      go_wp2
      go_ret2
      exact ⟨_, rfl, HO.out, by go_grown⟩
    · have hk1 : (k == 1) = false := by simpa using hk
      have hk2 : (k != 1) = true := by simpa using hk
      rw [if_neg (fun h => hk h.2), decide_eq_false (fun h => hk h.2)]
      clear hav hk
      go_enter Try.func25, Try.ntmps25
      go_wp2_with fail
      generalize hW : World.alloc _ _ = W
      have hx : C7 W w.heap.size k m a b c d n := by subst hW; exact (by refine ⟨?_, ?_, ?_, ?_, ?_, ?_, ?_, ?_⟩ <;> first | (simp [go_sem]; done) | (simp; omega))
      have hw : Below w.heap.size w W := by subst hW; go_grown
      clear hW
      refine (specAtomValid_is _ _ _ _ _ _ _ true _ HA.out).mono ?_
      rintro e w1 ⟨rfl, hb1⟩
      obtain ⟨x0, x1, x2, x3, x4, x5, x6, x7⟩ := c7_on hx hb1
      have hw1 := below_on hw hb1
      have hO := ownA_lit (w := w1) (B := w.heap.size) #[] [] hw1.size (by simp) rfl
      have HO := Lib.hid hO
      have hs1 := hw1.size
      clear hO
      go_wp2
      go_ret2
      exact ⟨_, rfl, HO.out, by go_grown⟩

end Go.Proofs.Ytbjmnbpomgaioaa
