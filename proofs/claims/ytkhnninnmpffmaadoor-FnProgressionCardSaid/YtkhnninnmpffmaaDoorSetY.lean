/- The program's repeatsAfter. -/
import Derived.Test.YtkhnninnmpffmaaDoorSetX
import Derived.BigQuiet
import Derived.Deep.RegionHeld3
import Derived.BigGuardPart
namespace Go.Proofs.YtkhnninnmpffmaaDoor
open Go.RowKit

theorem s2_keep {W w' : World} {b : Nat} {x y : ByteArray} (h : S2 W b x y) (hb : Below W.heap.size W w') : w'.cell? ⟨b, 0, none⟩ = some (.string x) ∧ w'.cell? ⟨b, 1, none⟩ = some (.string y) :=
  have h1 := s2_on h hb
  ⟨h1.2.1, h1.2.2.1⟩
/-- What windows tell so far. -/
def RpW (a : Nat → UInt8) (N p d : Nat) : Prop := ∀ n, N ≤ n → n < p → inS a n = inS a (n + d)
theorem win_eq {a : Nat → UInt8} {s d : Nat} (h : (winL a s == winL a (s + d)) = true) {n : Nat} (h0 : s ≤ n) (h1 : n < s + 16) : inS a n = inS a (n + d) := by
  have e := eq_of_beq h
  have := congrArg (fun l => l[n - s]?) e
  unfold winL at this
  rw [List.getElem?_map, List.getElem?_map, List.getElem?_range (by omega)] at this
  simp only [Option.map_some, Option.some.injEq] at this
  rw [show s + (n - s) = n by omega, show s + d + (n - s) = n + d by omega] at this
  exact this
theorem win_ne {a : Nat → UInt8} {s d : Nat} (h : (winL a s == winL a (s + d)) = false) : ¬ ∀ n, s ≤ n → inS a n = inS a (n + d) := by
  intro hall
  have : winL a s = winL a (s + d) := by
    unfold winL
    apply List.map_congr_left
    intro i _
    rw [hall _ (by omega), show s + i + d = s + d + i by omega]
  rw [this] at h
  simp at h

set_option maxHeartbeats 2000000 in
theorem repeatsAfter_any (h l : List UInt8) (d : Nat) (w : World) (hl0 : l ≠ []) (h1 : ∀ x ∈ h, x = 48 ∨ x = 49) (h2 : ∀ x ∈ l, x = 48 ∨ x = 49) (hh : h.length ≤ 1000000000) (hl : l.length ≤ 1000000000) (hd : d ≤ 1000000000) :
    Calls Tryd.prog 33 #[.agg #[.string (bs h), .string (bs l)], .int .i64 d] w fun e w' => (∃ q : Bool, e = .returned (.bool q) ∧ (q = true ↔ PerS (atS h l) h.length d)) ∧ Below w.heap.size w w' := by
  have HW := Lib.hid fun (s : Nat) (hs : s ≤ 1000000000000) w => window_any h l s w hl0 hh hl hs
  have HB := Lib.hid (bits_at hl0 h1 h2)
  have HP : Hid ((∀ i, i < l.length → inS (atS h l) (h.length + i) = inS (atS h l) (h.length + i + d)) → PerS (atS h l) h.length d) := Lib.hid fun hw => per_of_win hl0 fun i hi => in_eq (bits_at hl0 h1 h2) (hw i hi)
  have HQ : Hid (PerS (atS h l) h.length d → ∀ n, h.length ≤ n → inS (atS h l) n = inS (atS h l) (n + d)) := Lib.hid fun hp n hn => by unfold inS; rw [hp n hn]
  have hs1 := bs_size h
  have hs2 := bs_size l
  obtain ⟨a, ha⟩ : ∃ a, atS h l = a := ⟨_, rfl⟩
  obtain ⟨H, hH⟩ : ∃ H, h.length = H := ⟨_, rfl⟩
  obtain ⟨L, hL⟩ : ∃ L, l.length = L := ⟨_, rfl⟩
  rw [ha] at HW HB HP HQ
  rw [hH] at hs1 hh HP HQ
  rw [hL] at hs2 hl HP
  rw [ha, hH]
  have hinfo : ∃ i, Tryd.prog.info? 4 = some i := Option.isSome_iff_exists.1 (by kernel_rfl)
  clear ha hH hL hl0 h1 h2
  have hw0 : IntKind.i64.wrap ((H : Int) + (L : Int)) = ((H + L : Nat) : Int) := by rw [IntKind.wrap_i64]; omega
  go_enter Tryd.func33, Tryd.ntmps33
  go_wp2_with fail
  generalize hW : World.alloc w _ = W
  obtain ⟨hx, hsW, hwW⟩ := s2_new hW
  clear hW
  have HX := Lib.hid hx
  have HWW := Lib.hid hwW
  obtain ⟨x0, x1, x2, x3⟩ := id hx
  clear hx hwW
  go_wp2
  go_loopw [6] (fun i wr => ∃ p : Nat, i = .int .i64 p ∧ H ≤ p ∧ p ≤ H + L + 16 ∧ RpW a H p d ∧ Below W.heap.size W wr) (fun i _ => H + L + 16 - (intOf i).toNat)
  case atStart => exact ⟨H, rfl, Nat.le_refl _, by omega, fun n h0 h1 => absurd h1 (by omega), Below.refl _ _⟩
  case round =>
    obtain ⟨p, rfl, hp0, hp1, hr, hb⟩ := hrel
    have HR := Lib.hid hr
    have HB2 := Lib.hid hb
    have hxr := s2_on HX.out hb
    have HXR := Lib.hid hxr
    obtain ⟨c0, c1, c2, c3⟩ := id hxr
    clear x0 x1 x2 x3 hr hb hxr
    by_cases hlt : p < H + L
    · have hlt' : (p : Int) < ((H + L : Nat) : Int) := by omega
      have hw1 : IntKind.i64.wrap ((p : Int) + (d : Int)) = ((p + d : Nat) : Int) := by rw [IntKind.wrap_i64]; omega
      have hw2 : IntKind.i64.wrap ((p : Int) + 16) = ((p + 16 : Nat) : Int) := by rw [IntKind.wrap_i64]; omega
      have P1 := Lib.hid (HW.out p (by omega))
      have P2 := Lib.hid (HW.out (p + d) (by omega))
      have hneq : ∀ W, (binOp .neq 62 (.agg ((winL a p).map Value.bool).toArray) (.agg ((winL a (p + d)).map Value.bool).toArray)).run Tryd.prog W = .ok (.bool (!(winL a p == winL a (p + d)))) W := fun W => by
        obtain ⟨i, hi⟩ := hinfo
        exact run_neq_b Tryd.underlying62 hi (by kernel_rfl) Tryd.underlying4 _ _ (winL_len _ _) (winL_len _ _) W
      obtain ⟨q, hq⟩ : ∃ q, (winL a p == winL a (p + d)) = q := ⟨_, rfl⟩
      have HQQ := Lib.hid hq
      obtain ⟨U, hU⟩ : ∃ U, ((winL a p).map Value.bool).toArray = U := ⟨_, rfl⟩
      obtain ⟨V, hV⟩ : ∃ V, ((winL a (p + d)).map Value.bool).toArray = V := ⟨_, rfl⟩
      rw [hq, hU, hV] at hneq
      rw [hU] at P1
      rw [hV] at P2
      clear hq hU hV hinfo
      go_wp2_with fail
      refine wp_region_held_drew (S := (fun w' => Below wr.heap.size wr w' ∧ w'.cell? ⟨w.heap.size, 0, none⟩ = some (.string (bs h)) ∧ w'.cell? ⟨w.heap.size, 1, none⟩ = some (.string (bs l)))) (by kernel_rfl) ?_ (fun hHeld => ?_)
      · try dsimp only
        exact ⟨by go_grown, s2_keep HXR.out (by go_grown)⟩
      refine wpAnyH_take (i := 0) (oi := { dst := some 20, op := Go.Op.load 26 (Go.Operand.tmp 2), type := 26, pos := "l7_sets.go:58", after := #[], guard := none }) (v := ?_) rfl (by kernel_rfl) (by kernel_rfl) (by kernel_rfl) (fun _ _ _ h => h) (Or.inl ⟨by rfl, ?_⟩) (by assumption) ?_
      rotate_left
      · (intro w hSw; (try dsimp only at hSw); first | (go_simp; done) | (go_simp; with_reducible rfl))
      try simp only [Act.put, List.setIfInBounds_toArray, List.set_cons_zero, List.set_cons_succ]
      refine wpAnyH_take (i := 1) (oi := { dst := some 21, op := Go.Op.move (Go.Operand.tmp 6), type := 3, pos := "l7_sets.go:58", after := #[], guard := none }) (v := ?_) rfl (by kernel_rfl) (by kernel_rfl) (by kernel_rfl) (fun _ _ _ h => h) (Or.inl ⟨by rfl, ?_⟩) (by assumption) ?_
      rotate_left
      · (intro w hSw; (try dsimp only at hSw); first | (go_simp; done) | (go_simp; with_reducible rfl))
      try simp only [Act.put, List.setIfInBounds_toArray, List.set_cons_zero, List.set_cons_succ]
      refine wpAnyH_take (i := 3) (oi := { dst := some 23, op := Go.Op.load 26 (Go.Operand.tmp 2), type := 26, pos := "l7_sets.go:58", after := #[], guard := none }) (v := ?_) rfl (by kernel_rfl) (by kernel_rfl) (by kernel_rfl) (fun _ _ _ h => h) (Or.inl ⟨by rfl, ?_⟩) (by assumption) ?_
      rotate_left
      · (intro w hSw; (try dsimp only at hSw); first | (go_simp; done) | (go_simp; with_reducible rfl))
      try simp only [Act.put, List.setIfInBounds_toArray, List.set_cons_zero, List.set_cons_succ]
      refine wpAnyH_take (i := 4) (oi := { dst := some 24, op := Go.Op.move (Go.Operand.tmp 6), type := 3, pos := "l7_sets.go:58", after := #[], guard := none }) (v := ?_) rfl (by kernel_rfl) (by kernel_rfl) (by kernel_rfl) (fun _ _ _ h => h) (Or.inl ⟨by rfl, ?_⟩) (by assumption) ?_
      rotate_left
      · (intro w hSw; (try dsimp only at hSw); first | (go_simp; done) | (go_simp; with_reducible rfl))
      try simp only [Act.put, List.setIfInBounds_toArray, List.set_cons_zero, List.set_cons_succ]
      refine wpAnyH_take (i := 5) (oi := { dst := some 25, op := Go.Op.move (Go.Operand.tmp 1), type := 3, pos := "l7_sets.go:58", after := #[], guard := none }) (v := ?_) rfl (by kernel_rfl) (by kernel_rfl) (by kernel_rfl) (fun _ _ _ h => h) (Or.inl ⟨by rfl, ?_⟩) (by assumption) ?_
      rotate_left
      · (intro w hSw; (try dsimp only at hSw); first | (go_simp; done) | (go_simp; with_reducible rfl))
      try simp only [Act.put, List.setIfInBounds_toArray, List.set_cons_zero, List.set_cons_succ]
      refine wpAnyH_take (i := 6) (oi := { dst := some 26, op := Go.Op.binOp Go.BinOp.add 3 (Go.Operand.tmp 24) (Go.Operand.tmp 25) 3, type := 3, pos := "l7_sets.go:58", after := #[{ on := 4, ground := Go.Ground.data }, { on := 5, ground := Go.Ground.data }], guard := none }) (v := ?_) rfl (by kernel_rfl) (by kernel_rfl) (by kernel_rfl) (fun _ _ _ h => h) (Or.inl ⟨by rfl, ?_⟩) (by assumption) ?_
      rotate_left
      · (intro w hSw; (try dsimp only at hSw); first | (go_simp; done) | (go_simp; with_reducible rfl))
      try simp only [Act.put, List.setIfInBounds_toArray, List.set_cons_zero, List.set_cons_succ]
      refine wpAnyH_ready (rs := [2]) (by kernel_rfl) (by simp) ?_
      refine AllReadyH.cons (o := { dst := some 22, op := Go.Op.call { callee := Go.Callee.value (Go.Operand.func 48), args := #[Go.Operand.tmp 20, Go.Operand.tmp 21], argTypes := #[26, 3] }, type := 62, pos := "l7_sets.go:58", after := #[{ on := 0, ground := Go.Ground.data }, { on := 1, ground := Go.Ground.data }], guard := none }) rfl (fun K hK => ?_) AllReadyH.nil
      go_simp
      (go_at_call 48; refine (P1.out _).mono ?_; rintro e w5 ⟨rfl, hb5⟩; have hbW5 := below_on (w := wr) (by go_grown) hb5)
      (try go_wp2_with fail)
      refine hK.out _ _ ?_ (fun hHeld => ?_)
      · try dsimp only
        exact ⟨by go_grown, s2_keep HXR.out (by go_grown)⟩
      clear hK K
      try simp only [Act.put, List.setIfInBounds_toArray, List.set_cons_zero, List.set_cons_succ]
      refine wpAnyH_ready (rs := [7]) (by kernel_rfl) (by simp) ?_
      refine AllReadyH.cons (o := { dst := some 27, op := Go.Op.call { callee := Go.Callee.value (Go.Operand.func 48), args := #[Go.Operand.tmp 23, Go.Operand.tmp 26], argTypes := #[26, 3] }, type := 62, pos := "l7_sets.go:58", after := #[{ on := 3, ground := Go.Ground.data }, { on := 6, ground := Go.Ground.data }, { on := 2, ground := Go.Ground.chain }], guard := none }) rfl (fun K hK => ?_) AllReadyH.nil
      go_simp
      (go_at_call 48; refine (P2.out _).mono ?_; rintro e w6 ⟨rfl, hb6⟩; have hbW6 := below_on (w := wr) (by go_grown) hb6)
      (try go_wp2_with fail)
      refine hK.out _ _ ?_ (fun hHeld => ?_)
      · try dsimp only
        exact ⟨by go_grown, s2_keep HXR.out (by go_grown)⟩
      clear hK K
      try simp only [Act.put, List.setIfInBounds_toArray, List.set_cons_zero, List.set_cons_succ]
      refine wpAnyH_take (i := 8) (oi := { dst := some 28, op := Go.Op.binOp Go.BinOp.neq 62 (Go.Operand.tmp 22) (Go.Operand.tmp 27) 62, type := 4, pos := "l7_sets.go:58", after := #[{ on := 2, ground := Go.Ground.data }, { on := 7, ground := Go.Ground.data }], guard := none }) (v := ?_) rfl (by kernel_rfl) (by kernel_rfl) (by kernel_rfl) (fun _ _ _ h => h) (Or.inl ⟨by rfl, ?_⟩) (by assumption) ?_
      rotate_left
      · (intro w hSw; (try dsimp only at hSw); first | (go_simp; done) | (go_simp; with_reducible rfl))
      try simp only [Act.put, List.setIfInBounds_toArray, List.set_cons_zero, List.set_cons_succ]
      refine wpAnyH_done (by kernel_rfl) ?_ _
      cases q with
      | true =>
        have HN : Hid (RpW a H (p + 16) d) := Lib.hid fun n h0 h1 => by
          by_cases hn : n < p
          · exact HR.out n h0 hn
          · exact win_eq HQQ.out (by omega) h1
        go_wp2
        go_roundw
        case rel => exact ⟨p + 16, rfl, by omega, by omega, HN.out, below_on HB2.out (by go_grown)⟩
        case measure => simp [intOf]; omega
      | false =>
        have HN : Hid (¬ PerS a H d) := Lib.hid fun hp => win_ne HQQ.out fun n hn => HQ.out hp n (by omega)
        go_wp2
        go_ret
        exact ⟨⟨false, rfl, by simp; exact HN.out⟩, below_on HWW.out (below_on HB2.out (by go_grown))⟩
    · have hlt' : ¬ (p : Int) < ((H + L : Nat) : Int) := by omega
      have HF : Hid (PerS a H d) := Lib.hid (HP.out fun i hi => HR.out _ (by omega) (by omega))
      go_wp2
      go_ret
      exact ⟨.inr ⟨rfl, HF.out⟩, below_on HWW.out HB2.out⟩
end Go.Proofs.YtkhnninnmpffmaaDoor
