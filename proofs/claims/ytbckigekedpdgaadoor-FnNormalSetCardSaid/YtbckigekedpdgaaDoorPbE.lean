/- The laws' own function: do two sets have the same numbers up to a bound. -/
import Derived.Test.YtbckigekedpdgaaDoorLwK
import Derived.BigQuiet
import Derived.Deep.RegionHeld3
import Derived.BigGuardPart
namespace Go.Proofs.YtbckigekedpdgaaDoor
open Go.RowKit

set_option maxHeartbeats 2000000 in
theorem pbEqual_is (h l h' l' : List UInt8) (N : Nat) (b : Bool) (w : World) (hh : h.length ≤ 1000000000) (hl : l.length ≤ 1000000000) (hh' : h'.length ≤ 1000000000) (hl' : l'.length ≤ 1000000000) (hN : N ≤ 1000000000) (hb : b = true ↔ ∀ n : Nat, n ≤ N → hnB h l n = hnB h' l' n) :
    Calls Tryd.prog 15 #[.agg #[.string (bs h), .string (bs l)], .agg #[.string (bs h'), .string (bs l')], .int .i64 N] w fun e w' => e = .returned (.bool b) ∧ Below w.heap.size w w' := by
  have HB := Lib.hid hb
  clear hb
  go_enter Tryd.func15, Tryd.ntmps15
  go_wp2_with fail
  generalize hW : World.alloc w _ = W
  obtain ⟨hx, hsx, hwx⟩ := s2_new hW
  clear hW
  generalize hW : World.alloc W _ = W2
  obtain ⟨hy, _, hwy⟩ := s2_new hW
  rw [hsx] at hy
  have hx2 := s2_on hx hwy
  have hb2 := below_on hwx hwy
  clear hW hx hwx hwy hsx
  go_loopw [7] (fun i wr => ∃ k : Nat, i = .int .i64 k ∧ k ≤ N + 1 ∧ (∀ n : Nat, n < k → hnB h l n = hnB h' l' n) ∧ S2 wr w.heap.size (bs h) (bs l) ∧ S2 wr (w.heap.size + 1) (bs h') (bs l') ∧ Below w.heap.size w wr) (fun i _ => N + 1 - (intOf i).toNat)
  case atStart => exact ⟨0, rfl, Nat.zero_le _, fun n hn => absurd hn (by omega), hx2, hy, hb2⟩
  case round =>
    clear hx2 hy hb2
    obtain ⟨k, rfl, hk, hall, x1, y1, k1⟩ := hrel
    have HA := Lib.hid hall
    clear hall
    by_cases hlt : k ≤ N
    · have hk' : (k : Int) ≤ (N : Int) := by omega
      have hwk : IntKind.i64.wrap ((k : Int) + 1) = ((k + 1 : Nat) : Int) := by rw [IntKind.wrap_i64]; omega
      obtain ⟨p, hp⟩ : ∃ p, hnB h l k = p := ⟨_, rfl⟩
      obtain ⟨q, hq⟩ : ∃ q, hnB h' l' k = q := ⟨_, rfl⟩
      have P1 := Lib.hid fun w => pbIn_is h l k p w hh hl (by omega) (by omega) hp
      have P2 := Lib.hid fun w => pbIn_is h' l' k q w hh' hl' (by omega) (by omega) hq
      go_upto_region 4 with fail
      refine wp_region_held_drew (S := (fun w' => Below wr.heap.size wr w' ∧ (w'.cell? ⟨w.heap.size, 0, none⟩ = some (.string (bs h)) ∧ w'.cell? ⟨w.heap.size, 1, none⟩ = some (.string (bs l))) ∧ (w'.cell? ⟨w.heap.size + 1, 0, none⟩ = some (.string (bs h')) ∧ w'.cell? ⟨w.heap.size + 1, 1, none⟩ = some (.string (bs l'))))) (by kernel_rfl) ?_ (fun hHeld => ?_)
      · try dsimp only
        refine kp2 x1 y1 ?_; go_grown
      refine wpAnyH_take (i := 0) (oi := { dst := some 13, op := Go.Op.load 24 (Go.Operand.tmp 3), type := 24, pos := "laws.go:1584", after := #[], guard := none }) (v := ?_) rfl (by kernel_rfl) (by kernel_rfl) (by kernel_rfl) (fun _ _ _ h => h) (Or.inl ⟨by rfl, ?_⟩) (by assumption) ?_
      rotate_left
      · (intro w hSw; (try dsimp only at hSw); first | (go_simp; done) | (go_simp; with_reducible rfl))
      try simp only [Act.put, List.setIfInBounds_toArray, List.set_cons_zero, List.set_cons_succ]
      refine wpAnyH_take (i := 1) (oi := { dst := some 14, op := Go.Op.move (Go.Operand.tmp 7), type := 3, pos := "laws.go:1584", after := #[], guard := none }) (v := ?_) rfl (by kernel_rfl) (by kernel_rfl) (by kernel_rfl) (fun _ _ _ h => h) (Or.inl ⟨by rfl, ?_⟩) (by assumption) ?_
      rotate_left
      · (intro w hSw; (try dsimp only at hSw); first | (go_simp; done) | (go_simp; with_reducible rfl))
      try simp only [Act.put, List.setIfInBounds_toArray, List.set_cons_zero, List.set_cons_succ]
      refine wpAnyH_take (i := 3) (oi := { dst := some 16, op := Go.Op.load 24 (Go.Operand.tmp 4), type := 24, pos := "laws.go:1584", after := #[], guard := none }) (v := ?_) rfl (by kernel_rfl) (by kernel_rfl) (by kernel_rfl) (fun _ _ _ h => h) (Or.inl ⟨by rfl, ?_⟩) (by assumption) ?_
      rotate_left
      · (intro w hSw; (try dsimp only at hSw); first | (go_simp; done) | (go_simp; with_reducible rfl))
      try simp only [Act.put, List.setIfInBounds_toArray, List.set_cons_zero, List.set_cons_succ]
      refine wpAnyH_take (i := 4) (oi := { dst := some 17, op := Go.Op.move (Go.Operand.tmp 7), type := 3, pos := "laws.go:1584", after := #[], guard := none }) (v := ?_) rfl (by kernel_rfl) (by kernel_rfl) (by kernel_rfl) (fun _ _ _ h => h) (Or.inl ⟨by rfl, ?_⟩) (by assumption) ?_
      rotate_left
      · (intro w hSw; (try dsimp only at hSw); first | (go_simp; done) | (go_simp; with_reducible rfl))
      try simp only [Act.put, List.setIfInBounds_toArray, List.set_cons_zero, List.set_cons_succ]
      refine wpAnyH_ready (rs := [2]) (by kernel_rfl) (by simp) ?_
      refine AllReadyH.cons (o := { dst := some 15, op := Go.Op.call { callee := Go.Callee.value (Go.Operand.func 11), args := #[Go.Operand.tmp 13, Go.Operand.tmp 14], argTypes := #[24, 3] }, type := 4, pos := "laws.go:1584", after := #[{ on := 0, ground := Go.Ground.data }, { on := 1, ground := Go.Ground.data }], guard := none }) rfl (fun K hK => ?_) AllReadyH.nil
      go_simp
      (go_at_call 11; (first | (with_reducible refine (P1.out _).mono ?_) | (with_reducible refine (P2.out _).mono ?_)); rintro e w4 ⟨rfl, hb4⟩; have hbb4 := below_on (w := wr) (by go_grown) hb4)
      (try go_wp2_with fail)
      refine hK.out _ _ ?_ (fun hHeld => ?_)
      · try dsimp only
        refine kp2 x1 y1 ?_; go_grown
      clear hK K
      try simp only [Act.put, List.setIfInBounds_toArray, List.set_cons_zero, List.set_cons_succ]
      refine wpAnyH_ready (rs := [5]) (by kernel_rfl) (by simp) ?_
      refine AllReadyH.cons (o := { dst := some 18, op := Go.Op.call { callee := Go.Callee.value (Go.Operand.func 11), args := #[Go.Operand.tmp 16, Go.Operand.tmp 17], argTypes := #[24, 3] }, type := 4, pos := "laws.go:1584", after := #[{ on := 3, ground := Go.Ground.data }, { on := 4, ground := Go.Ground.data }, { on := 2, ground := Go.Ground.chain }], guard := none }) rfl (fun K hK => ?_) AllReadyH.nil
      go_simp
      (go_at_call 11; (first | (with_reducible refine (P1.out _).mono ?_) | (with_reducible refine (P2.out _).mono ?_)); rintro e w4 ⟨rfl, hb4⟩; have hbb4 := below_on (w := wr) (by go_grown) hb4)
      (try go_wp2_with fail)
      refine hK.out _ _ ?_ (fun hHeld => ?_)
      · try dsimp only
        refine kp2 x1 y1 ?_; go_grown
      clear hK K
      try simp only [Act.put, List.setIfInBounds_toArray, List.set_cons_zero, List.set_cons_succ]
      refine wpAnyH_take (i := 6) (oi := { dst := some 19, op := Go.Op.binOp Go.BinOp.neq 4 (Go.Operand.tmp 15) (Go.Operand.tmp 18) 4, type := 4, pos := "laws.go:1584", after := #[{ on := 2, ground := Go.Ground.data }, { on := 5, ground := Go.Ground.data }], guard := none }) (v := ?_) rfl (by kernel_rfl) (by kernel_rfl) (by kernel_rfl) (fun _ _ _ h => h) (Or.inl ⟨by rfl, ?_⟩) (by assumption) ?_
      rotate_left
      · (intro w hSw; (try dsimp only at hSw); first | (go_simp; done) | (go_simp; with_reducible rfl))
      try simp only [Act.put, List.setIfInBounds_toArray, List.set_cons_zero, List.set_cons_succ]
      refine wpAnyH_done (by kernel_rfl) ?_ _
      have hk1 := hHeld.1
      clear hHeld
      have k2 := below_on k1 hk1
      have x2 := s2_on x1 hk1
      have y2 := s2_on y1 hk1
      clear x1 y1 k1 hk1
      cases p <;> cases q
      · have HN : Hid (∀ n : Nat, n < k + 1 → hnB h l n = hnB h' l' n) := Lib.hid fun n hn => by
          by_cases e : n = k
          · subst e; rw [hp, hq]
          · exact HA.out n (by omega)
        clear hp hq
        go_wp2
        go_roundw
        case rel => exact ⟨k + 1, rfl, by omega, HN.out, x2, y2, k2⟩
        case measure => simp [intOf]; omega
      · have HF : Hid (b = false) := Lib.hid (by
          cases hbb : b with
          | false => rfl
          | true =>
            have := HB.out.1 hbb k hlt
            rw [hp, hq] at this
            exact absurd this (by decide))
        obtain rfl := HF.out
        clear hp hq
        go_wp2
        go_ret
        exact ⟨rfl, k2⟩
      · have HF : Hid (b = false) := Lib.hid (by
          cases hbb : b with
          | false => rfl
          | true =>
            have := HB.out.1 hbb k hlt
            rw [hp, hq] at this
            exact absurd this (by decide))
        obtain rfl := HF.out
        clear hp hq
        go_wp2
        go_ret
        exact ⟨rfl, k2⟩
      · have HN : Hid (∀ n : Nat, n < k + 1 → hnB h l n = hnB h' l' n) := Lib.hid fun n hn => by
          by_cases e : n = k
          · subst e; rw [hp, hq]
          · exact HA.out n (by omega)
        clear hp hq
        go_wp2
        go_roundw
        case rel => exact ⟨k + 1, rfl, by omega, HN.out, x2, y2, k2⟩
        case measure => simp [intOf]; omega
    · have hk' : ¬ (k : Int) ≤ (N : Int) := by omega
      have HT : Hid (b = true) := Lib.hid (HB.out.2 fun n hn => HA.out n (by omega))
      obtain rfl := HT.out
      go_wp2
      go_ret
      exact ⟨rfl, k1⟩
end Go.Proofs.YtbckigekedpdgaaDoor
