/- The model's changed bits and OtherSet; its stretched strings. -/
import Derived.Test.YtmhpjaaffpomnaaDoorSeB
namespace Go.Proofs.YtmhpjaaffpomnaaDoor
open Go.RowKit

/-- Bytes in a block, none of them frozen. -/
def CB (W : World) (b : Nat) (l : List UInt8) : Prop := b < W.heap.size ∧ (∀ (i : Nat) x, l[i]? = some x → W.cell? ⟨b, i, none⟩ = some (.int .u8 (x.toNat : Int))) ∧ ∀ i, i < l.length → W.frozen? ⟨b, i, none⟩ = false
theorem cb_set {W : World} {b k : Nat} {l : List UInt8} {y : UInt8} {z : Int} (h : CB W b l) (hk : k < l.length) (hz : z = (y.toNat : Int)) : CB (W.setCell ⟨b, k, none⟩ (.int .u8 z)) b (l.set k y) := by
  obtain ⟨h1, h2, h3⟩ := h
  refine ⟨by simpa [World.setCell] using h1, fun i x hx => ?_, fun i hi => ?_⟩
  · by_cases e : i = k
    · subst e
      rw [List.getElem?_set_self hk] at hx
      rw [World.cell?_setCell_same' _ _ _ (by rw [h2 i l[i] (List.getElem?_eq_getElem hk)]; rfl), hz, ← Option.some.inj hx]
    · rw [List.getElem?_set_ne (fun e2 => e e2.symm)] at hx
      rw [World.cell?_setCell_other (h := by intro e2; exact e (by injection e2 with _ e3 _; exact e3.symm))]
      exact h2 i x hx
  · rw [World.frozen?_setCell]
    exact h3 i (by simpa using hi)
/-- The bits, k of them changed. -/
def flK (l : List UInt8) (k : Nat) : List UInt8 := (l.take k).map (fun x => 97 - x) ++ l.drop k
theorem flK_zero (l : List UInt8) : flK l 0 = l := by simp [flK]
theorem flK_all (l : List UInt8) : flK l l.length = l.map fun x => 97 - x := by simp [flK]
theorem flK_len (l : List UInt8) (k : Nat) : (flK l k).length = l.length := by simp [flK]; omega
theorem flK_at {l : List UInt8} {k : Nat} {x : UInt8} (hx : l[k]? = some x) : (flK l k)[k]? = some x := by
  have hk := (List.getElem?_eq_some_iff.1 hx).1
  unfold flK
  rw [List.getElem?_append_right (by simp; omega)]
  simp [Nat.min_eq_left (Nat.le_of_lt hk), hx]
theorem flK_next {l : List UInt8} {k : Nat} {x : UInt8} (hx : l[k]? = some x) : (flK l k).set k (97 - x) = flK l (k + 1) := by
  have hk := (List.getElem?_eq_some_iff.1 hx).1
  unfold flK
  rw [List.set_append_right _ _ (by simp; omega)]
  rw [List.take_add_one, hx, List.map_append, List.append_assoc]
  congr 1
  have e : l.drop k = x :: l.drop (k + 1) := by
    rw [List.drop_eq_getElem_cons hk, (List.getElem?_eq_some_iff.1 hx).2]
  rw [e]
  simp [Nat.min_eq_left (Nat.le_of_lt hk)]
theorem flip_bits {l : List UInt8} (h : ∀ x ∈ l, x = 48 ∨ x = 49) : ∀ x ∈ l.map (fun x => 97 - x), x = 48 ∨ x = 49 := by
  intro x hx
  obtain ⟨y, hy, rfl⟩ := List.mem_map.1 hx
  rcases h y hy with rfl | rfl
  · exact .inr rfl
  · exact .inl rfl

set_option maxHeartbeats 2000000 in
theorem l7Flip_any (l : List UInt8) (w : World) (hb : ∀ x ∈ l, x = 48 ∨ x = 49) (hl : l.length ≤ 1000000) :
    Calls Tryd.prog 53 #[.string (bs l)] w fun e w' => e = .returned (.string (bs (l.map fun x => 97 - x))) ∧ Below w.heap.size w w' := by
  have hcv := run_bytes_of_string (P := Tryd.prog) w 9 52 5 (bs l) Tryd.underlying9 Tryd.underlying52 Tryd.underlying5
  have hsz := bs_size l
  obtain ⟨c, hc⟩ : ∃ c, grownCap w (bs l).size 0 5 = c := ⟨_, rfl⟩
  rw [hc] at hcv
  generalize hW : w.drew.alloc _ = W1 at hcv
  have hdw : w.drew.heap.size = w.heap.size := rfl
  have hcb : CB W1 w.heap.size l := by
    subst hW
    refine ⟨by simp, fun i x hx => ?_, fun i hi => ?_⟩
    · have hil := (List.getElem?_eq_some_iff.1 hx).1
      rw [← hdw, World.cell?_alloc_mark, bytesRow_at _ _ _ (by simpa [bs] using hil)]
      have := (List.getElem?_eq_some_iff.1 hx).2
      simp [bs, this]
    · rw [← hdw, World.frozen?_alloc_mark]
      have hge : (bs l).data.size ≤ (bytesRow (bs l) c).size := by unfold bytesRow; rw [Array.size_append]; simp
      have : (bs l).data.size = l.length := by simp [bs]
      rw [decide_eq_false (by omega), Bool.false_and]
  have hbw : Below w.heap.size w W1 := by
    subst hW
    exact ((Below.refl w.heap.size w).drew).alloc (by rw [hdw]; exact Nat.le_refl _) _
  clear hW hc hdw
  obtain ⟨n, hn⟩ : ∃ n, l.length = n := ⟨_, rfl⟩
  have HN := Lib.hid hn
  rw [hsz, hn] at hcv
  have HCB := Lib.hid (show CB W1 w.heap.size (flK l 0) by rw [flK_zero]; exact hcb)
  have HBW := Lib.hid hbw
  have HBT := Lib.hid hb
  rw [hn] at hl hsz
  clear hcb hbw hb hn
  go_enter Tryd.func53, Tryd.ntmps53
  go_wp2
  go_loopw [4] (fun i wr => ∃ k : Nat, i = .int .i64 k ∧ k ≤ n ∧ CB wr w.heap.size (flK l k) ∧ Below w.heap.size w wr) (fun i _ => n - (intOf i).toNat)
  case atStart => exact ⟨0, rfl, Nat.zero_le _, HCB.out, HBW.out⟩
  case round =>
    obtain ⟨k, rfl, hk, hcb, hbw⟩ := hrel
    have HC2 := Lib.hid hcb
    have HB2 := Lib.hid hbw
    clear hbw hcv
    by_cases hlt : k < n
    · have hk' : (k : Int) < (n : Int) := by omega
      have hwk : IntKind.i64.wrap ((k : Int) + 1) = ((k + 1 : Nat) : Int) := by rw [IntKind.wrap_i64]; omega
      obtain ⟨x, hx⟩ : ∃ x, l[k]? = some x := ⟨_, List.getElem?_eq_getElem (by rw [HN.out]; exact hlt)⟩
      have hcl := hcb.2.1 k x (flK_at hx)
      have hfz := hcb.2.2 k (by rw [flK_len, HN.out]; exact hlt)
      have hxb := HBT.out x (List.mem_of_getElem? hx)
      have HNX := Lib.hid (flK_next hx)
      clear hcb hx
      rcases hxb with rfl | rfl
      · have h48 : ((48 : UInt8).toNat : Int) = 48 := rfl
        rw [h48] at hcl
        clear h48
        go_wp2
        go_roundw
        case rel => exact ⟨k + 1, rfl, by omega, by rw [← HNX.out]; exact cb_set HC2.out (by rw [flK_len, HN.out]; exact hlt) (by rfl), HB2.out.setCell (Nat.le_refl _) _⟩
        case measure => simp [intOf]; omega
      · have h48 : ((49 : UInt8).toNat : Int) = 49 := rfl
        rw [h48] at hcl
        clear h48
        go_wp2
        go_roundw
        case rel => exact ⟨k + 1, rfl, by omega, by rw [← HNX.out]; exact cb_set HC2.out (by rw [flK_len, HN.out]; exact hlt) (by rfl), HB2.out.setCell (Nat.le_refl _) _⟩
        case measure => simp [intOf]; omega
    · have hk' : ¬ (k : Int) < (n : Int) := by omega
      obtain rfl : k = n := by omega
      have hcv2 : (convert 52 9 (.slice (some ⟨w.heap.size, 0, none⟩) k c)).run Tryd.prog wr = .ok (.string (bs (l.map fun x => 97 - x))) wr := by
        have e := flK_all l
        rw [HN.out] at e
        rw [e] at hcb
        exact conv_upto (l := l.map fun x => 97 - x) ⟨hcb.1, hcb.2.1⟩ (by simp [HN.out]) (by rw [List.take_of_length_le (by simp [HN.out])])
      clear hcb
      obtain ⟨X, hX⟩ : ∃ X, (l.map fun x => 97 - x) = X := ⟨_, rfl⟩
      have HXX := Lib.hid hX
      rw [hX] at hcv2
      clear hX
      go_wp2
      go_ret
      exact ⟨by rw [HXX.out]; rfl, HB2.out⟩

set_option maxRecDepth 10000 in
set_option maxHeartbeats 2000000 in
theorem specOtherSet_any (h l : List UInt8) (w : World) (hh : h.length ≤ 1000000000) (hl : l.length ≤ 1000000000) :
    Calls Tryd.prog 30 #[.agg #[.string (bs h), .string (bs l)]] w fun e w' => e = .returned (.tuple #[.agg #[.string (bs (combR (fun x _ => !x) h l h l).1.1), .string (bs (combR (fun x _ => !x) h l h l).1.2)], .bool (combR (fun x _ => !x) h l h l).2]) ∧ Below w.heap.size w w' := by
  have HV := Lib.hid fun w => specSetValid_b h l w hh hl
  have HS := Lib.hid (svS_parts (h := h) (l := l))
  obtain ⟨v, hv⟩ : ∃ v, svS h l = v := ⟨_, rfl⟩
  have HQ : Hid (svS h l = v) := Lib.hid hv
  rw [hv] at HV
  clear hv
  cases v with
  | false =>
    have HF : Hid (combR (fun x _ => !x) h l h l = (([], []), false)) := Lib.hid (by unfold combR; rw [HQ.out]; rfl)
    go_enter Tryd.func30, Tryd.ntmps30
    go_wp2_with fail
    generalize hW0 : World.alloc w _ = W0
    obtain ⟨hx, hsx, hwx⟩ := s2_new hW0
    clear hW0
    generalize hW : World.alloc W0 _ = W2
    obtain ⟨hr, hsr, hwr⟩ := s2_new hW
    rw [hsx] at hr
    clear hW
    have X1 := s2_on hx hwr
    have B1 := below_on hwx hwr
    have hne : w.heap.size ≤ w.heap.size + 1 := by omega
    clear hx hwx hwr hsx hsr
    refine (HV.out _).mono ?_
    rintro e w3 ⟨rfl, hb3⟩
    have X3 := s2_on X1 hb3
    have R3 := s2_on hr hb3
    have B3 := below_on B1 hb3
    clear X1 hr B1 hb3
    obtain ⟨x0, x1, x2, x3⟩ := id X3
    obtain ⟨a0, a1, a2, a3⟩ := id R3
    go_wp2
    generalize hW : World.setCell _ _ _ = W8
    obtain ⟨⟨_, r1, r2, _⟩, _, _, hb8⟩ := s2_put hW _ _ R3
    refine bodyPost_ret (v := .tuple #[.agg #[.string ⟨#[]⟩, .string ⟨#[]⟩], .bool false]) (by simp [results, Tryd.results30, go_sem, r1, r2]) rfl ⟨by rw [HF.out]; rfl, ?_⟩
    exact hb8 w B3 hne
  | true =>
    obtain ⟨q1, q2, q3, q4, q5, q6⟩ := HS.out HQ.out
    have e : atS (h.map fun x => 97 - x) (l.map fun x => 97 - x) = fun n => bitS (!inS (atS h l) n) := funext fun n => not_at h l q6 q1 q2 n
    have HF : Hid (combR (fun x _ => !x) h l h l = resA (atS (h.map fun x => 97 - x) (l.map fun x => 97 - x))) := Lib.hid (by unfold combR; rw [HQ.out, e]; rfl)
    have H1 := Lib.hid fun w => l7Flip_any h w q1 (by omega)
    have H2 := Lib.hid fun w => l7Flip_any l w q2 (by omega)
    have HR := Lib.hid fun w => l7Result_any (h.map fun x => 97 - x) (l.map fun x => 97 - x) w (by simp; exact q6) (flip_bits q1) (flip_bits q2) (by simp; omega) (by simp; omega)
    obtain ⟨A, hA⟩ : ∃ X, (h.map fun x => 97 - x) = X := ⟨_, rfl⟩
    obtain ⟨B, hB⟩ : ∃ X, (l.map fun x => 97 - x) = X := ⟨_, rfl⟩
    rw [hA] at H1
    rw [hB] at H2
    rw [hA, hB] at HR HF
    obtain ⟨r, hr⟩ : ∃ r, resA (atS A B) = r := ⟨_, rfl⟩
    rw [hr] at HF HR
    clear q1 q2 q3 q4 q5 q6 e hA hB hr hh hl
    go_enter Tryd.func30, Tryd.ntmps30
    go_wp2_with fail
    generalize hW0 : World.alloc w _ = W0
    obtain ⟨hx, hsx, hwx⟩ := s2_new hW0
    clear hW0
    generalize hW : World.alloc W0 _ = W2
    obtain ⟨hr, hsr, hwr⟩ := s2_new hW
    rw [hsx] at hr
    clear hW
    have X1 := s2_on hx hwr
    have B1 := below_on hwx hwr
    have hne : w.heap.size ≤ w.heap.size + 1 := by omega
    clear hx hwx hwr hsx hsr
    refine (HV.out _).mono ?_
    rintro e w3 ⟨rfl, hb3⟩
    have X3 := s2_on X1 hb3
    have R3 := s2_on hr hb3
    have B3 := below_on B1 hb3
    clear X1 hr B1 hb3
    obtain ⟨x0, x1, x2, x3⟩ := id X3
    obtain ⟨a0, a1, a2, a3⟩ := id R3
    have X := Lib.hid X3
    have R := Lib.hid R3
    have B := Lib.hid B3
    clear X3 R3 B3
    go_upto_region 3 with fail
    clear x0 x1 x2 x3 a0 a1 a2 a3
    refine wp_region_held_drew (S := (fun w' => w'.cell? ⟨w.heap.size, 0, none⟩ = some (.string (bs h)) ∧ w'.cell? ⟨w.heap.size, 1, none⟩ = some (.string (bs l)))) (by kernel_rfl) ?_ (fun hHeld => ?_)
    · try dsimp only
      first | (refine s2_keep X.out ?_; go_grown; done) | exact ⟨(s2_set (s2_set (s2_on X.out hbW7) (by omega)) (by omega)).2.1, (s2_set (s2_set (s2_on X.out hbW7) (by omega)) (by omega)).2.2.1⟩
    refine wpAnyH_take (i := 0) (oi := { dst := some 8, op := Go.Op.fieldAddr 26 (Go.Operand.tmp 1) 0, type := 0, pos := "l7_sets.go:145", after := #[], guard := none }) (v := ?_) rfl (by kernel_rfl) (by kernel_rfl) (by kernel_rfl) (fun _ _ _ h => h) (Or.inl ⟨by rfl, ?_⟩) (by assumption) ?_
    rotate_left
    · (intro w hSw; (try dsimp only at hSw); first | (go_simp; done) | (go_simp; with_reducible rfl))
    try simp only [Act.put, List.setIfInBounds_toArray, List.set_cons_zero, List.set_cons_succ]
    refine wpAnyH_take (i := 1) (oi := { dst := some 9, op := Go.Op.load 9 (Go.Operand.tmp 8), type := 9, pos := "l7_sets.go:145", after := #[{ on := 0, ground := Go.Ground.data }], guard := none }) (v := ?_) rfl (by kernel_rfl) (by kernel_rfl) (by kernel_rfl) (fun _ _ _ h => h) (Or.inl ⟨by rfl, ?_⟩) (by assumption) ?_
    rotate_left
    · (intro w hSw; (try dsimp only at hSw); first | (go_simp; done) | (go_simp; with_reducible rfl))
    try simp only [Act.put, List.setIfInBounds_toArray, List.set_cons_zero, List.set_cons_succ]
    refine wpAnyH_take (i := 3) (oi := { dst := some 11, op := Go.Op.fieldAddr 26 (Go.Operand.tmp 1) 1, type := 0, pos := "l7_sets.go:145", after := #[], guard := none }) (v := ?_) rfl (by kernel_rfl) (by kernel_rfl) (by kernel_rfl) (fun _ _ _ h => h) (Or.inl ⟨by rfl, ?_⟩) (by assumption) ?_
    rotate_left
    · (intro w hSw; (try dsimp only at hSw); first | (go_simp; done) | (go_simp; with_reducible rfl))
    try simp only [Act.put, List.setIfInBounds_toArray, List.set_cons_zero, List.set_cons_succ]
    refine wpAnyH_take (i := 4) (oi := { dst := some 12, op := Go.Op.load 9 (Go.Operand.tmp 11), type := 9, pos := "l7_sets.go:145", after := #[{ on := 3, ground := Go.Ground.data }], guard := none }) (v := ?_) rfl (by kernel_rfl) (by kernel_rfl) (by kernel_rfl) (fun _ _ _ h => h) (Or.inl ⟨by rfl, ?_⟩) (by assumption) ?_
    rotate_left
    · (intro w hSw; (try dsimp only at hSw); first | (go_simp; done) | (go_simp; with_reducible rfl))
    try simp only [Act.put, List.setIfInBounds_toArray, List.set_cons_zero, List.set_cons_succ]
    refine wpAnyH_ready (rs := [2]) (by kernel_rfl) (by simp) ?_
    refine AllReadyH.cons (o := { dst := some 10, op := Go.Op.call { callee := Go.Callee.value (Go.Operand.func 53), args := #[Go.Operand.tmp 9], argTypes := #[9] }, type := 9, pos := "l7_sets.go:145", after := #[{ on := 1, ground := Go.Ground.data }], guard := none }) rfl (fun K hK => ?_) AllReadyH.nil
    go_simp
    (go_at_call 53; refine (H1.out _).mono ?_; rintro e w5 ⟨rfl, hb5⟩; have hbW5 := below_on (w := w3) (by go_grown) hb5)
    (try go_wp2_with fail)
    refine hK.out _ _ ?_ (fun hHeld => ?_)
    · try dsimp only
      first | (refine s2_keep X.out ?_; go_grown; done) | exact ⟨(s2_set (s2_set (s2_on X.out hbW7) (by omega)) (by omega)).2.1, (s2_set (s2_set (s2_on X.out hbW7) (by omega)) (by omega)).2.2.1⟩
    clear hK K
    try simp only [Act.put, List.setIfInBounds_toArray, List.set_cons_zero, List.set_cons_succ]
    refine wpAnyH_ready (rs := [5]) (by kernel_rfl) (by simp) ?_
    refine AllReadyH.cons (o := { dst := some 13, op := Go.Op.call { callee := Go.Callee.value (Go.Operand.func 53), args := #[Go.Operand.tmp 12], argTypes := #[9] }, type := 9, pos := "l7_sets.go:145", after := #[{ on := 4, ground := Go.Ground.data }, { on := 2, ground := Go.Ground.chain }], guard := none }) rfl (fun K hK => ?_) AllReadyH.nil
    go_simp
    (go_at_call 53; refine (H2.out _).mono ?_; rintro e w6 ⟨rfl, hb6⟩; have hbW6 := below_on (w := w3) (by go_grown) hb6)
    (try go_wp2_with fail)
    refine hK.out _ _ ?_ (fun hHeld => ?_)
    · try dsimp only
      first | (refine s2_keep X.out ?_; go_grown; done) | exact ⟨(s2_set (s2_set (s2_on X.out hbW7) (by omega)) (by omega)).2.1, (s2_set (s2_set (s2_on X.out hbW7) (by omega)) (by omega)).2.2.1⟩
    clear hK K
    try simp only [Act.put, List.setIfInBounds_toArray, List.set_cons_zero, List.set_cons_succ]
    refine wpAnyH_ready (rs := [6]) (by kernel_rfl) (by simp) ?_
    refine AllReadyH.cons (o := { dst := some 14, op := Go.Op.call { callee := Go.Callee.value (Go.Operand.func 44), args := #[Go.Operand.tmp 10, Go.Operand.tmp 13], argTypes := #[9, 9] }, type := 29, pos := "l7_sets.go:145", after := #[{ on := 2, ground := Go.Ground.data }, { on := 5, ground := Go.Ground.data }, { on := 5, ground := Go.Ground.chain }], guard := none }) rfl (fun K hK => ?_) AllReadyH.nil
    go_simp
    (go_at_call 44; refine (HR.out _).mono ?_; rintro e w7 ⟨rfl, hb7⟩; have hbW7 := below_on (w := w3) (by go_grown) hb7; have R7 := s2_on R.out hbW7; obtain ⟨a0, a1, a2, a3⟩ := id R7)
    (try go_wp2_with fail)
    refine hK.out _ _ ?_ (fun hHeld => ?_)
    · try dsimp only
      first | (refine s2_keep X.out ?_; go_grown; done) | exact ⟨(s2_set (s2_set (s2_on X.out hbW7) (by omega)) (by omega)).2.1, (s2_set (s2_set (s2_on X.out hbW7) (by omega)) (by omega)).2.2.1⟩
    clear hK K
    try simp only [Act.put, List.setIfInBounds_toArray, List.set_cons_zero, List.set_cons_succ]
    refine wpAnyH_take (i := 7) (oi := { dst := some 15, op := Go.Op.extract (Go.Operand.tmp 14) 0, type := 26, pos := "l7_sets.go:145", after := #[{ on := 6, ground := Go.Ground.data }], guard := none }) (v := ?_) rfl (by kernel_rfl) (by kernel_rfl) (by kernel_rfl) (fun _ _ _ h => h) (Or.inl ⟨by rfl, ?_⟩) (by assumption) ?_
    rotate_left
    · (intro w hSw; (try dsimp only at hSw); first | (go_simp; done) | (go_simp; with_reducible rfl))
    try simp only [Act.put, List.setIfInBounds_toArray, List.set_cons_zero, List.set_cons_succ]
    refine wpAnyH_take (i := 8) (oi := { dst := some 16, op := Go.Op.extract (Go.Operand.tmp 14) 1, type := 4, pos := "l7_sets.go:145", after := #[{ on := 6, ground := Go.Ground.data }], guard := none }) (v := ?_) rfl (by kernel_rfl) (by kernel_rfl) (by kernel_rfl) (fun _ _ _ h => h) (Or.inl ⟨by rfl, ?_⟩) (by assumption) ?_
    rotate_left
    · (intro w hSw; (try dsimp only at hSw); first | (go_simp; done) | (go_simp; with_reducible rfl))
    try simp only [Act.put, List.setIfInBounds_toArray, List.set_cons_zero, List.set_cons_succ]
    refine wpAnyH_ready (rs := [9]) (by kernel_rfl) (by simp) ?_
    refine AllReadyH.cons (o := { dst := none, op := Go.Op.store 26 (Go.Operand.tmp 2) (Go.Operand.tmp 15), type := 0, pos := "l7_sets.go:145", after := #[{ on := 7, ground := Go.Ground.data }, { on := 6, ground := Go.Ground.chain }, { on := 0, ground := Go.Ground.phase }, { on := 1, ground := Go.Ground.phase }, { on := 2, ground := Go.Ground.phase }, { on := 3, ground := Go.Ground.phase }, { on := 4, ground := Go.Ground.phase }, { on := 5, ground := Go.Ground.phase }, { on := 6, ground := Go.Ground.phase }, { on := 7, ground := Go.Ground.phase }, { on := 8, ground := Go.Ground.phase }], guard := none }) rfl (fun K hK => ?_) AllReadyH.nil
    go_simp
    refine hK.out _ _ ?_ (fun hHeld => ?_)
    · try dsimp only
      first | (refine s2_keep X.out ?_; go_grown; done) | exact ⟨(s2_set (s2_set (s2_on X.out hbW7) (by omega)) (by omega)).2.1, (s2_set (s2_set (s2_on X.out hbW7) (by omega)) (by omega)).2.2.1⟩
    clear hK K
    try simp only [Act.put, List.setIfInBounds_toArray, List.set_cons_zero, List.set_cons_succ]
    refine wpAnyH_take (i := 10) (oi := { dst := some 3, op := Go.Op.assign (Go.Operand.tmp 16), type := 4, pos := "l7_sets.go:145", after := #[{ on := 8, ground := Go.Ground.data }, { on := 9, ground := Go.Ground.chain }, { on := 0, ground := Go.Ground.phase }, { on := 1, ground := Go.Ground.phase }, { on := 2, ground := Go.Ground.phase }, { on := 3, ground := Go.Ground.phase }, { on := 4, ground := Go.Ground.phase }, { on := 5, ground := Go.Ground.phase }, { on := 6, ground := Go.Ground.phase }, { on := 7, ground := Go.Ground.phase }, { on := 8, ground := Go.Ground.phase }, { on := 9, ground := Go.Ground.phase }], guard := none }) (v := ?_) rfl (by kernel_rfl) (by kernel_rfl) (by kernel_rfl) (fun _ _ _ h => h) (Or.inl ⟨by rfl, ?_⟩) (by assumption) ?_
    rotate_left
    · (intro w hSw; (try dsimp only at hSw); first | (go_simp; done) | (go_simp; with_reducible rfl))
    try simp only [Act.put, List.setIfInBounds_toArray, List.set_cons_zero, List.set_cons_succ]
    refine wpAnyH_done (by kernel_rfl) ?_ _
    go_wp2
    generalize hW8 : World.setCell _ _ _ = W8
    obtain ⟨⟨_, r1, r2, _⟩, _, _, hb8⟩ := s2_put hW8 _ _ R7
    refine bodyPost_ret (v := .tuple #[.agg #[.string (bs r.1.1), .string (bs r.1.2)], .bool r.2]) (by simp [results, Tryd.results30, go_sem, r1, r2]) rfl ⟨by rw [HF.out], ?_⟩
    exact below_on (hb8 w (below_on B.out hbW7) hne) (by go_grown)

/-- Bits with zeros behind each, one more. -/
theorem str_next {l : List UInt8} {i k : Nat} {x : UInt8} (hx : l[i]? = some x) : strL (l.take (i + 1)) k = strL (l.take i) k ++ (x :: List.replicate (k - 1) 48) := by
  unfold strL
  rw [List.take_add_one, hx]
  simp

set_option maxHeartbeats 2000000 in
theorem l7Stretch_any (l : List UInt8) (k : Nat) (w : World) (hl : l.length ≤ 1000) (hk0 : 1 ≤ k) (hk : k ≤ 1000) :
    Calls Tryd.prog 61 #[.string (bs l), .int .i64 k] w fun e w' => e = .returned (.string (bs (strL l k))) ∧ Below w.heap.size w w' := by
  have hs := bs_size l
  have happ := bs_app
  have HM := Lib.hid fun w => l17Many_any [48] (k - 1) w (by simp) (by omega)
  rw [rep_zero] at HM
  obtain ⟨Z, hZ⟩ : ∃ Z, List.replicate (k - 1) (48 : UInt8) = Z := ⟨_, rfl⟩
  have hZl : Z.length = k - 1 := by rw [← hZ]; simp
  have hzs := bs_size Z
  obtain ⟨k1, hk1⟩ : ∃ k1, k - 1 = k1 := ⟨_, rfl⟩
  rw [hZ, hk1] at HM
  rw [hZl, hk1] at hzs
  have hwk : IntKind.i64.wrap ((k : Int) - 1) = (k1 : Int) := by rw [IntKind.wrap_i64]; omega
  obtain ⟨n, hn⟩ : ∃ n, l.length = n := ⟨_, rfl⟩
  have HN := Lib.hid hn
  have HSN : Hid (∀ i x, l[i]? = some x → strL (l.take (i + 1)) k = (strL (l.take i) k ++ [x]) ++ Z) := Lib.hid fun i x hx => by rw [str_next hx, hZ, List.append_assoc]; rfl
  have HSL : Hid (∀ i, i ≤ n → (strL (l.take i) k).length ≤ 1000000) := Lib.hid fun i hi => by
    rw [str_len _ hk0, List.length_take]
    exact Nat.le_trans (Nat.mul_le_mul (show min i l.length ≤ 1000 by omega) hk) (by omega)
  rw [hn] at hs hl
  have hk1b : k1 ≤ 1000 := by omega
  clear hn hZ hZl hk1
  go_enter Tryd.func61, Tryd.ntmps61
  go_wp2
  go_loopw [5, 6] (fun o i wr => ∃ (j : Nat) (O : List UInt8), o = .string (bs O) ∧ i = .int .i64 j ∧ j ≤ n ∧ O = strL (l.take j) k ∧ Below w.heap.size w wr) (fun _ i _ => n - (intOf i).toNat)
  case atStart => exact ⟨0, [], rfl, rfl, Nat.zero_le _, by simp [strL], Below.refl _ _⟩
  case round =>
    obtain ⟨j, O, rfl, rfl, hj, hO, hb⟩ := hrel
    have HO := Lib.hid hO
    have HB := Lib.hid hb
    have hOl : O.length ≤ 1000000 := by rw [hO]; exact HSL.out j hj
    have hos := bs_size O
    clear hO hb
    by_cases hlt : j < n
    · have hj' : (j : Int) < (n : Int) := by omega
      have hwj : IntKind.i64.wrap ((j : Int) + 1) = ((j + 1 : Nat) : Int) := by rw [IntKind.wrap_i64]; omega
      obtain ⟨j1, hj1⟩ : ∃ j1, j + 1 = j1 := ⟨_, rfl⟩
      rw [hj1] at hwj
      obtain ⟨x, hx⟩ : ∃ x, l[j]? = some x := ⟨_, List.getElem?_eq_getElem (by rw [HN.out]; exact hlt)⟩
      have hsl := run_part (P := Tryd.prog) Tryd.underlying9 (l := l) (x := [x]) (i := j) (j := j1) (by omega) (by rw [HN.out]; omega) (by
        have h1 := List.getElem?_eq_some_iff.1 hx
        rw [← hj1, Nat.add_sub_cancel_left, List.drop_eq_getElem_cons h1.1, h1.2]
        rfl) .i64 .i64
      have hx1 : (bs [x]).size = 1 := bs_size [x]
      have hox : (bs (O ++ [x])).size = O.length + 1 := by rw [bs_size]; simp
      have HNX : Hid ((O ++ [x]) ++ Z = strL (l.take j1) k) := Lib.hid (by rw [HO.out, ← hj1]; exact (HSN.out j x hx).symm)
      obtain ⟨q, hq⟩ : ∃ q, O.length = q := ⟨_, rfl⟩
      rw [hq] at hos hox hOl
      have hq1 : ¬ 9223372036854775807 < q + 1 := by omega
      have hq2 : ¬ 9223372036854775807 < q + 1 + k1 := by omega
      have hjn : Hid (j1 ≤ n) := Lib.hid (by omega)
      have hmeas : Hid (n - j1 < n - j) := Lib.hid (by omega)
      clear hx hq hj1
      go_wp2
      refine wp_region_held_drew (S := (fun _ => True)) (by kernel_rfl) ?_ (fun hHeld => ?_)
      · try dsimp only
        all_goals trivial
      refine wpAnyH_take (i := 0) (oi := { dst := some 13, op := Go.Op.move (Go.Operand.tmp 5), type := 9, pos := "l7_sets.go:210", after := #[], guard := none }) (v := ?_) rfl (by kernel_rfl) (by kernel_rfl) (by kernel_rfl) (fun _ _ _ h => h) (Or.inl ⟨by rfl, ?_⟩) (by assumption) ?_
      rotate_left
      · (intro w hSw; (try dsimp only at hSw); first | (go_simp; done) | (go_simp; with_reducible rfl))
      try simp only [Act.put, List.setIfInBounds_toArray, List.set_cons_zero, List.set_cons_succ]
      refine wpAnyH_take (i := 1) (oi := { dst := some 14, op := Go.Op.move (Go.Operand.tmp 0), type := 9, pos := "l7_sets.go:210", after := #[], guard := none }) (v := ?_) rfl (by kernel_rfl) (by kernel_rfl) (by kernel_rfl) (fun _ _ _ h => h) (Or.inl ⟨by rfl, ?_⟩) (by assumption) ?_
      rotate_left
      · (intro w hSw; (try dsimp only at hSw); first | (go_simp; done) | (go_simp; with_reducible rfl))
      try simp only [Act.put, List.setIfInBounds_toArray, List.set_cons_zero, List.set_cons_succ]
      refine wpAnyH_take (i := 2) (oi := { dst := some 15, op := Go.Op.move (Go.Operand.tmp 6), type := 3, pos := "l7_sets.go:210", after := #[], guard := none }) (v := ?_) rfl (by kernel_rfl) (by kernel_rfl) (by kernel_rfl) (fun _ _ _ h => h) (Or.inl ⟨by rfl, ?_⟩) (by assumption) ?_
      rotate_left
      · (intro w hSw; (try dsimp only at hSw); first | (go_simp; done) | (go_simp; with_reducible rfl))
      try simp only [Act.put, List.setIfInBounds_toArray, List.set_cons_zero, List.set_cons_succ]
      refine wpAnyH_take (i := 3) (oi := { dst := some 16, op := Go.Op.move (Go.Operand.tmp 6), type := 3, pos := "l7_sets.go:210", after := #[], guard := none }) (v := ?_) rfl (by kernel_rfl) (by kernel_rfl) (by kernel_rfl) (fun _ _ _ h => h) (Or.inl ⟨by rfl, ?_⟩) (by assumption) ?_
      rotate_left
      · (intro w hSw; (try dsimp only at hSw); first | (go_simp; done) | (go_simp; with_reducible rfl))
      try simp only [Act.put, List.setIfInBounds_toArray, List.set_cons_zero, List.set_cons_succ]
      refine wpAnyH_take (i := 4) (oi := { dst := some 17, op := Go.Op.binOp Go.BinOp.add 3 (Go.Operand.tmp 16) (Go.Operand.const (Go.Value.int Go.IntKind.i64 1)) 3, type := 3, pos := "l7_sets.go:210", after := #[{ on := 3, ground := Go.Ground.data }], guard := none }) (v := ?_) rfl (by kernel_rfl) (by kernel_rfl) (by kernel_rfl) (fun _ _ _ h => h) (Or.inl ⟨by rfl, ?_⟩) (by assumption) ?_
      rotate_left
      · (intro w hSw; (try dsimp only at hSw); first | (go_simp; done) | (go_simp; with_reducible rfl))
      try simp only [Act.put, List.setIfInBounds_toArray, List.set_cons_zero, List.set_cons_succ]
      refine wpAnyH_take (i := 5) (oi := { dst := some 18, op := Go.Op.slice 9 (Go.Operand.tmp 14) (some (Go.Operand.tmp 15)) (some (Go.Operand.tmp 17)) none, type := 9, pos := "l7_sets.go:210", after := #[{ on := 1, ground := Go.Ground.data }, { on := 2, ground := Go.Ground.data }, { on := 4, ground := Go.Ground.data }], guard := none }) (v := ?_) rfl (by kernel_rfl) (by kernel_rfl) (by kernel_rfl) (fun _ _ _ h => h) (Or.inl ⟨by rfl, ?_⟩) (by assumption) ?_
      rotate_left
      · (intro w hSw; (try dsimp only at hSw); first | (go_simp; done) | (go_simp; with_reducible rfl))
      try simp only [Act.put, List.setIfInBounds_toArray, List.set_cons_zero, List.set_cons_succ]
      refine wpAnyH_take (i := 6) (oi := { dst := some 19, op := Go.Op.binOp Go.BinOp.add 9 (Go.Operand.tmp 13) (Go.Operand.tmp 18) 9, type := 9, pos := "l7_sets.go:210", after := #[{ on := 0, ground := Go.Ground.data }, { on := 5, ground := Go.Ground.data }], guard := none }) (v := ?_) rfl (by kernel_rfl) (by kernel_rfl) (by kernel_rfl) (fun _ _ _ h => h) (Or.inl ⟨by rfl, ?_⟩) (by assumption) ?_
      rotate_left
      · (intro w hSw; (try dsimp only at hSw); first | (go_simp; done) | (go_simp; with_reducible rfl))
      try simp only [Act.put, List.setIfInBounds_toArray, List.set_cons_zero, List.set_cons_succ]
      refine wpAnyH_take (i := 7) (oi := { dst := some 20, op := Go.Op.move (Go.Operand.tmp 1), type := 3, pos := "l7_sets.go:210", after := #[], guard := none }) (v := ?_) rfl (by kernel_rfl) (by kernel_rfl) (by kernel_rfl) (fun _ _ _ h => h) (Or.inl ⟨by rfl, ?_⟩) (by assumption) ?_
      rotate_left
      · (intro w hSw; (try dsimp only at hSw); first | (go_simp; done) | (go_simp; with_reducible rfl))
      try simp only [Act.put, List.setIfInBounds_toArray, List.set_cons_zero, List.set_cons_succ]
      refine wpAnyH_take (i := 8) (oi := { dst := some 21, op := Go.Op.binOp Go.BinOp.sub 3 (Go.Operand.tmp 20) (Go.Operand.const (Go.Value.int Go.IntKind.i64 1)) 3, type := 3, pos := "l7_sets.go:210", after := #[{ on := 7, ground := Go.Ground.data }], guard := none }) (v := ?_) rfl (by kernel_rfl) (by kernel_rfl) (by kernel_rfl) (fun _ _ _ h => h) (Or.inl ⟨by rfl, ?_⟩) (by assumption) ?_
      rotate_left
      · (intro w hSw; (try dsimp only at hSw); first | (go_simp; done) | (go_simp; with_reducible rfl))
      try simp only [Act.put, List.setIfInBounds_toArray, List.set_cons_zero, List.set_cons_succ]
      refine wpAnyH_ready (rs := [9]) (by kernel_rfl) (by simp) ?_
      refine AllReadyH.cons (o := { dst := some 22, op := Go.Op.call { callee := Go.Callee.value (Go.Operand.func 56), args := #[Go.Operand.const (Go.Value.string { data := #[48] }), Go.Operand.tmp 21], argTypes := #[9, 3] }, type := 9, pos := "l7_sets.go:210", after := #[{ on := 8, ground := Go.Ground.data }], guard := none }) rfl (fun K hK => ?_) AllReadyH.nil
      go_simp
      (go_at_call 56; refine (HM.out _).mono ?_; rintro e w5 ⟨rfl, rfl⟩)
      (try go_wp2_with fail)
      refine hK.out _ _ ?_ (fun hHeld => ?_)
      · try dsimp only
        all_goals trivial
      clear hK K
      try simp only [Act.put, List.setIfInBounds_toArray, List.set_cons_zero, List.set_cons_succ]
      refine wpAnyH_take (i := 10) (oi := { dst := some 23, op := Go.Op.binOp Go.BinOp.add 9 (Go.Operand.tmp 19) (Go.Operand.tmp 22) 9, type := 9, pos := "l7_sets.go:210", after := #[{ on := 6, ground := Go.Ground.data }, { on := 9, ground := Go.Ground.data }], guard := none }) (v := ?_) rfl (by kernel_rfl) (by kernel_rfl) (by kernel_rfl) (fun _ _ _ h => h) (Or.inl ⟨by rfl, ?_⟩) (by assumption) ?_
      rotate_left
      · (intro w hSw; (try dsimp only at hSw); first | (go_simp; done) | (go_simp; with_reducible rfl))
      try simp only [Act.put, List.setIfInBounds_toArray, List.set_cons_zero, List.set_cons_succ]
      refine wpAnyH_take (i := 11) (oi := { dst := some 5, op := Go.Op.assign (Go.Operand.tmp 23), type := 9, pos := "l7_sets.go:210", after := #[{ on := 10, ground := Go.Ground.data }, { on := 9, ground := Go.Ground.chain }, { on := 0, ground := Go.Ground.phase }, { on := 1, ground := Go.Ground.phase }, { on := 2, ground := Go.Ground.phase }, { on := 3, ground := Go.Ground.phase }, { on := 4, ground := Go.Ground.phase }, { on := 5, ground := Go.Ground.phase }, { on := 6, ground := Go.Ground.phase }, { on := 7, ground := Go.Ground.phase }, { on := 8, ground := Go.Ground.phase }, { on := 9, ground := Go.Ground.phase }, { on := 10, ground := Go.Ground.phase }], guard := none }) (v := ?_) rfl (by kernel_rfl) (by kernel_rfl) (by kernel_rfl) (fun _ _ _ h => h) (Or.inl ⟨by rfl, ?_⟩) (by assumption) ?_
      rotate_left
      · (intro w hSw; (try dsimp only at hSw); first | (go_simp; done) | (go_simp; with_reducible rfl))
      try simp only [Act.put, List.setIfInBounds_toArray, List.set_cons_zero, List.set_cons_succ]
      refine wpAnyH_done (by kernel_rfl) ?_ _
      go_wp2
      go_roundw
      case rel => exact ⟨j1, (O ++ [x]) ++ Z, by simp, rfl, hjn.out, HNX.out, below_on HB.out (by go_grown)⟩
      case measure => simp [intOf]; exact hmeas.out
    · have hj' : ¬ (j : Int) < (n : Int) := by omega
      obtain rfl : j = n := by omega
      have HF : Hid (O = strL l k) := Lib.hid (by rw [HO.out, List.take_of_length_le (by rw [HN.out]; exact Nat.le_refl _)])
      go_wp2
      go_ret
      exact ⟨by rw [← HF.out]; rfl, HB.out⟩

end Go.Proofs.YtmhpjaaffpomnaaDoor
