/- What the law on texts of atoms draws. -/
import Derived.Test.YtjbbknbnknhjhaaDoorDrA1
import Derived.Test.YtjbbknbnknhjhaaDoorDrA2
import Derived.Test.YtjbbknbnknhjhaaDoorTxE
namespace Go.Proofs.YtjbbknbnknhjhaaDoor
open Go.RowKit

def SomeAtom (w : World) (e : Ending) (w' : World) : Prop := ∃ k m a b c d n : Int, e = .returned (.agg #[.int .i64 k, .int .i64 m, .int .i64 a, .int .i64 b, .int .i64 c, .int .i64 d, .int .i64 n]) ∧ Below w.heap.size w w'
theorem ta_sz {k m a b c d n : Int} (h : avB k m a b c d n = true) : 1 ≤ (taL k m a b c d n).length ∧ (taL k m a b c d n).length ≤ 150 := by
  have h1 := tf_len a b c d n
  have h2 := (avB_cases h).1
  have h3 : (Lib.itoa m).length ≤ 21 := Lib.itoa_length_le m (by omega) (by omega)
  unfold taL
  rw [if_pos h]
  split
  · simp; omega
  · split
    · simp; omega
    · split
      · simp; omega
      · simp; omega

set_option maxHeartbeats 400000 in
theorem l2Open_t (r : Nat) (p : Int) (w : World) (h : Rd w r p) (hp : p ≤ 700000) :
    Calls Tryd.prog 36 #[.pointer (some ⟨r, 0, none⟩)] w (AtomT r p 15 w) := by
  have hr := rd_lt h
  have H := Lib.hid h
  clear h
  go_enter Tryd.func36, Tryd.ntmps36
  go_wp2_with fail
  generalize hW : w.alloc (.cells #[.int .i64 0, .int .i64 0, .int .i64 0, .int .i64 0, .int .i64 0, .int .i64 0, .int .i64 0] 33) = W
  have hz : C7 W w.heap.size 0 0 0 0 0 0 0 := by subst hW; exact (by refine ⟨?_, ?_, ?_, ?_, ?_, ?_, ?_, ?_⟩ <;> first | (simp [go_sem]; done) | (simp; omega))
  have fz : Hid (∀ o, W.frozen? ⟨w.heap.size, o, none⟩ = false) := by intro o; subst hW; simp [go_sem]
  have hb0 : Below w.heap.size w W := by subst hW; go_grown
  clear hW
  refine (l2Some_v r p W (rd_on H.out hb0) (by omega)).mono ?_
  rintro e w1 ⟨k, m, a, b, c, d, n, rfl, _, ht1⟩
  have HT := Lib.hid (below_turned hb0 ht1)
  have hz1 := c7_only hz ht1.1 (by omega)
  have fz1 := fz_only fz ht1.1 hz.1 (by omega)
  obtain ⟨_, q, q0, q1, hR1⟩ := ht1
  have HR := Lib.hid hR1
  clear hR1
  go_wp2_with fail
  refine (l2Bad_t r q k m a b c d n w1 HR.out (by omega)).mono ?_
  rintro e w2 ⟨k', m', a', b', c', d', n', rfl, ht2⟩
  have HT2 := Lib.hid (turned_two HT.out HR.out ht2 q0 q1)
  obtain ⟨z0, z1, z2, z3, z4, z5, z6, z7⟩ := c7_only hz1 ht2.1 (by omega)
  have fz2 := (fz_only fz1 ht2.1 hz1.1 (by omega)).out
  clear ht2
  go_wp2
  refine bodyPost_ret (v := .agg #[.int .i64 k', .int .i64 m', .int .i64 a', .int .i64 b', .int .i64 c', .int .i64 d', .int .i64 n']) (by simp [results, Tryd.results36, go_sem, z1, z2, z3, z4, z5, z6, z7]) rfl ⟨k', m', a', b', c', d', n', rfl, ?_⟩
  repeat (first | (with_reducible refine turned_put ?_ hr (by omega)) | exact turned_more HT2.out (by omega))

set_option maxHeartbeats 400000 in
theorem DrawFormatAtom_t (sp : Option Addr) (N cap : Nat) (w : World) (h : Code w sp N cap) :
    Calls Tryd.prog 12 #[.slice sp N cap] w (SomeAtom w) := by
  have H := Lib.hid h
  clear h
  go_enter Tryd.func12, Tryd.ntmps12
  go_wp2_with fail
  generalize hW : w.alloc (.cells #[.int .i64 0, .int .i64 0, .int .i64 0, .int .i64 0, .int .i64 0, .int .i64 0, .int .i64 0] 33) = W
  have hz : C7 W w.heap.size 0 0 0 0 0 0 0 := by subst hW; exact (by refine ⟨?_, ?_, ?_, ?_, ?_, ?_, ?_, ?_⟩ <;> first | (simp [go_sem]; done) | (simp; omega))
  have fz : Hid (∀ o, W.frozen? ⟨w.heap.size, o, none⟩ = false) := by intro o; subst hW; simp [go_sem]
  have hb0 : Below w.heap.size w W := by subst hW; go_grown
  clear hW
  refine (l17Open_t sp N cap W (code_on H.out hb0)).mono ?_
  rintro e w1 ⟨r, rfl, hr, hR, hb1⟩
  have HR := Lib.hid hR
  clear hR
  go_wp2_with fail
  refine (l2Open_t r 0 w1 HR.out (by omega)).mono ?_
  rintro e w2 ⟨k, m, a, b, c, d, n, rfl, ht⟩
  have hb2 : Below W.heap.size W w2 := hb1.trans (below_only ht.1 hb1.size hr)
  obtain ⟨z0, z1, z2, z3, z4, z5, z6, z7⟩ := c7_on hz hb2
  have fz2 := fz7_on hz.1 fz hb2
  clear ht
  go_wp2
  refine bodyPost_ret (v := .agg #[.int .i64 k, .int .i64 m, .int .i64 a, .int .i64 b, .int .i64 c, .int .i64 d, .int .i64 n]) (by simp [results, Tryd.results12, go_sem, z1, z2, z3, z4, z5, z6, z7]) rfl ⟨k, m, a, b, c, d, n, rfl, ?_⟩
  have hbb := below_on hb0 hb2
  go_grown

theorem run_from {P : Program} {t : TypeId} (ht : P.underlying t = some .string) {l x : List UInt8} {k : Nat} (hk : k ≤ l.length) (hx : l.drop k = x) (kk : IntKind) (w : World) :
    (Instr.slice t (.string (bs l)) (some (.int kk k)) none none).run P w = .ok (.string (bs x)) w := by
  have hs := bs_size l
  rw [run_slice_string_l w t (bs l) ht kk k (by omega) (by omega), bs_ext, ← hx, hs, Int.toNat_natCast, List.take_of_length_le (by simp)]
theorem run_upto {P : Program} {t : TypeId} (ht : P.underlying t = some .string) {l x : List UInt8} {k : Nat} (hk : k ≤ l.length) (hx : l.take k = x) (kk : IntKind) (w : World) :
    (Instr.slice t (.string (bs l)) none (some (.int kk k)) none).run P w = .ok (.string (bs x)) w := by
  have hs := bs_size l
  rw [run_slice_string_h w t (bs l) ht kk k (by omega) (by omega), bs_ext, ← hx, Int.toNat_natCast, List.drop_zero, Nat.sub_zero]

set_option maxRecDepth 10000 in
set_option maxHeartbeats 2000000 in
theorem DrawParseAtom_t (sp : Option Addr) (nn cap : Nat) (w : World) (h : Code w sp nn cap) :
    Calls Tryd.prog 17 #[.slice sp nn cap] w fun e w' => ∃ t : List UInt8, e = .returned (.string (bs t)) ∧ t.length ≤ 2000 ∧ Below w.heap.size w w' := by
  have happ := bs_app
  have hund := Tryd.underlying9
  have HC := Lib.hid h
  clear h
  go_enter Tryd.func17, Tryd.ntmps17
  go_wp2_with fail
  refine (l17Open_t sp nn cap w HC.out).mono ?_
  rintro e w1 ⟨r, rfl, hr, hR, hb1⟩
  have HR := Lib.hid hR
  clear hR
  go_wp2_with fail
  refine (l2Some_v r 0 w1 HR.out (by omega)).mono ?_
  rintro e w2 ⟨k, m, a, b, c, d, n, rfl, hv, ht2⟩
  have HB2 := Lib.hid (opened_below hb1 hr ht2)
  obtain ⟨_, q2, q20, q21, hR2⟩ := ht2
  have HF := Lib.hid fun w => specFormatAtom_any k m a b c d n w
  obtain ⟨T, hT⟩ : ∃ T, taL k m a b c d n = T := ⟨_, rfl⟩
  have hTl := ta_sz hv
  rw [hT] at hTl
  rw [hT] at HF
  have hsT := bs_size T
  obtain ⟨N, hN⟩ : ∃ N, T.length = N := ⟨_, rfl⟩
  have HN := Lib.hid hN
  rw [hN] at hsT hTl
  obtain ⟨hN1, hN2⟩ : 1 ≤ N ∧ N ≤ 700 := ⟨by omega, by omega⟩
  clear hT hv hN hb1 hTl
  go_wp2_with fail
  refine (HF.out _).mono ?_
  rintro e w3 ⟨rfl, hb3⟩
  have HB3 := Lib.hid (below_on HB2.out hb3)
  have HR3 := Lib.hid (rd_on hR2 hb3)
  clear hR2 hb3
  go_wp2_with fail
  refine (pick_t r q2 2 w3 HR3.out (by omega)).mono ?_
  rintro e w4 ⟨x, rfl, x0, x1, ht4⟩
  have HB4 := Lib.hid (opened_below HB3.out hr ht4)
  obtain ⟨_, q4, q40, q41, hR4⟩ := ht4
  have HR4 := Lib.hid hR4
  clear hR4 x0 x1
  by_cases hx0 : x = 0
  · subst hx0
    go_wp2
    go_ret
    exact ⟨T, rfl, by rw [HN.out]; omega, HB4.out⟩
  · have hxe : (x == 0) = false := by simpa using hx0
    go_wp2_with fail
    refine (pick_t r q4 N w4 HR4.out (by omega)).mono ?_
    rintro e w5 ⟨k, rfl, k0, k1, ht5⟩
    obtain ⟨k, rfl⟩ := Int.eq_ofNat_of_zero_le k0
    have HB5 := Lib.hid (opened_below HB4.out hr ht5)
    obtain ⟨_, q5, q50, q51, hR5⟩ := ht5
    have HR5 := Lib.hid hR5
    have hkN : k < N := by omega
    have hrw5 := rd_lt hR5
    clear hR5 k0 k1
    obtain ⟨P, hP⟩ : ∃ P, T.take k = P := ⟨_, rfl⟩
    have hPl : P.length ≤ 700 := by rw [← hP, List.length_take]; omega
    have hsP := bs_size P
    have hr1 := run_upto (P := Tryd.prog) Tryd.underlying9 (l := T) (k := k) (by rw [HN.out]; omega) hP .i64
    clear hP
    go_upto_region 6 with fail
    refine wp_region_held_drew (S := (fun _ => True)) (by kernel_rfl) ?_ (fun hHeld => ?_)
    · try dsimp only
      try trivial
    refine wpAnyH_take (i := 0) (oi := { dst := some 19, op := Go.Op.move (Go.Operand.tmp 4), type := 9, pos := "l2_atoms.go:329", after := #[], guard := none }) (v := ?_) rfl (by kernel_rfl) (by kernel_rfl) (by kernel_rfl) (fun _ _ _ h => h) (Or.inl ⟨by rfl, ?_⟩) (by assumption) ?_
    rotate_left
    · (intro w hSw; (try dsimp only at hSw); first | (go_simp; done) | (go_simp; with_reducible rfl))
    try simp only [Act.put, List.setIfInBounds_toArray, List.set_cons_zero, List.set_cons_succ]
    refine wpAnyH_take (i := 1) (oi := { dst := some 20, op := Go.Op.move (Go.Operand.tmp 5), type := 3, pos := "l2_atoms.go:329", after := #[], guard := none }) (v := ?_) rfl (by kernel_rfl) (by kernel_rfl) (by kernel_rfl) (fun _ _ _ h => h) (Or.inl ⟨by rfl, ?_⟩) (by assumption) ?_
    rotate_left
    · (intro w hSw; (try dsimp only at hSw); first | (go_simp; done) | (go_simp; with_reducible rfl))
    try simp only [Act.put, List.setIfInBounds_toArray, List.set_cons_zero, List.set_cons_succ]
    refine wpAnyH_take (i := 2) (oi := { dst := some 21, op := Go.Op.slice 9 (Go.Operand.tmp 19) none (some (Go.Operand.tmp 20)) none, type := 9, pos := "l2_atoms.go:329", after := #[{ on := 0, ground := Go.Ground.data }, { on := 1, ground := Go.Ground.data }], guard := none }) (v := ?_) rfl (by kernel_rfl) (by kernel_rfl) (by kernel_rfl) (fun _ _ _ h => h) (Or.inl ⟨by rfl, ?_⟩) (by assumption) ?_
    rotate_left
    · (intro w hSw; (try dsimp only at hSw); first | (go_simp; done) | (go_simp; with_reducible rfl))
    try simp only [Act.put, List.setIfInBounds_toArray, List.set_cons_zero, List.set_cons_succ]
    refine wpAnyH_take (i := 3) (oi := { dst := some 22, op := Go.Op.move (Go.Operand.tmp 3), type := 40, pos := "l2_atoms.go:329", after := #[], guard := none }) (v := ?_) rfl (by kernel_rfl) (by kernel_rfl) (by kernel_rfl) (fun _ _ _ h => h) (Or.inl ⟨by rfl, ?_⟩) (by assumption) ?_
    rotate_left
    · (intro w hSw; (try dsimp only at hSw); first | (go_simp; done) | (go_simp; with_reducible rfl))
    try simp only [Act.put, List.setIfInBounds_toArray, List.set_cons_zero, List.set_cons_succ]
    refine wpAnyH_take (i := 7) (oi := { dst := some 26, op := Go.Op.move (Go.Operand.tmp 4), type := 9, pos := "l2_atoms.go:329", after := #[], guard := none }) (v := ?_) rfl (by kernel_rfl) (by kernel_rfl) (by kernel_rfl) (fun _ _ _ h => h) (Or.inl ⟨by rfl, ?_⟩) (by assumption) ?_
    rotate_left
    · (intro w hSw; (try dsimp only at hSw); first | (go_simp; done) | (go_simp; with_reducible rfl))
    try simp only [Act.put, List.setIfInBounds_toArray, List.set_cons_zero, List.set_cons_succ]
    refine wpAnyH_take (i := 8) (oi := { dst := some 27, op := Go.Op.move (Go.Operand.tmp 5), type := 3, pos := "l2_atoms.go:329", after := #[], guard := none }) (v := ?_) rfl (by kernel_rfl) (by kernel_rfl) (by kernel_rfl) (fun _ _ _ h => h) (Or.inl ⟨by rfl, ?_⟩) (by assumption) ?_
    rotate_left
    · (intro w hSw; (try dsimp only at hSw); first | (go_simp; done) | (go_simp; with_reducible rfl))
    try simp only [Act.put, List.setIfInBounds_toArray, List.set_cons_zero, List.set_cons_succ]
    refine wpAnyH_take (i := 9) (oi := { dst := some 28, op := Go.Op.move (Go.Operand.tmp 3), type := 40, pos := "l2_atoms.go:329", after := #[], guard := none }) (v := ?_) rfl (by kernel_rfl) (by kernel_rfl) (by kernel_rfl) (fun _ _ _ h => h) (Or.inl ⟨by rfl, ?_⟩) (by assumption) ?_
    rotate_left
    · (intro w hSw; (try dsimp only at hSw); first | (go_simp; done) | (go_simp; with_reducible rfl))
    try simp only [Act.put, List.setIfInBounds_toArray, List.set_cons_zero, List.set_cons_succ]
    refine wpAnyH_ready (rs := [4]) (by kernel_rfl) (by simp) ?_
    refine AllReadyH.cons (o := { dst := some 23, op := Go.Op.buildSlice 55 8 #[(0, Go.Operand.const (Go.Value.string { data := #[] })), (1, Go.Operand.const (Go.Value.string { data := #[48] })), (2, Go.Operand.const (Go.Value.string { data := #[43] })), (3, Go.Operand.const (Go.Value.string { data := #[45] })), (4, Go.Operand.const (Go.Value.string { data := #[124] })), (5, Go.Operand.const (Go.Value.string { data := #[33] })), (6, Go.Operand.const (Go.Value.string { data := #[61] })), (7, Go.Operand.const (Go.Value.string { data := #[60] }))], type := 55, pos := "l2_atoms.go:329", after := #[], guard := none }) rfl (fun K hK => ?_) AllReadyH.nil
    go_simp
    refine hK.out _ _ ?_ (fun hHeld => ?_)
    · try dsimp only
      try trivial
    clear hK K
    try simp only [Act.put, List.setIfInBounds_toArray, List.set_cons_zero, List.set_cons_succ]
    refine wpAnyH_ready (rs := [5]) (by kernel_rfl) (by simp) ?_
    refine AllReadyH.cons (o := { dst := some 24, op := Go.Op.call { callee := Go.Callee.value (Go.Operand.func 32), args := #[Go.Operand.tmp 22, Go.Operand.tmp 23], argTypes := #[40, 55] }, type := 9, pos := "l2_atoms.go:329", after := #[{ on := 3, ground := Go.Ground.data }, { on := 4, ground := Go.Ground.data }], guard := none }) rfl (fun K hK => ?_) AllReadyH.nil
    go_simp
    (go_at_call 32; refine (of_t r w5.heap.size q5 [[], [48], [43], [45], [124], [33], [61], [60]] _ (rd_on HR5.out (by go_grown)) (by omega) (by simp) (by simp) (by simp) (by omega) (eight_at (by simp [go_sem]; rfl) (by simp [go_sem]; rfl) (by simp [go_sem]; rfl) (by simp [go_sem]; rfl) (by simp [go_sem]; rfl) (by simp [go_sem]; rfl) (by simp [go_sem]; rfl) (by simp [go_sem]; rfl))).mono ?_; rintro e w6 ⟨y, rfl, hy, ht6'⟩; have ht6 : Turned r q5 1 w5 w6 := below_turned (by go_grown) ht6'; have HB6 := Lib.hid (opened_below HB5.out hr ht6); have hyl : y.length ≤ 1 := (by simp at hy; rcases hy with rfl | rfl | rfl | rfl | rfl | rfl | rfl | rfl <;> simp); have hsy := bs_size y; have hcat : ¬ 9223372036854775807 < P.length + y.length := (by omega); have hsc := bs_size (P ++ y); have hcl : (P ++ y).length ≤ 701 := (by rw [List.length_append]; omega); obtain ⟨_, q6, q60, q61, hR6⟩ := ht6; have HR6 := Lib.hid hR6; clear hR6 ht6' hy)
    (try go_wp2_with fail)
    refine hK.out _ _ ?_ (fun hHeld => ?_)
    · try dsimp only
      try trivial
    clear hK K
    try simp only [Act.put, List.setIfInBounds_toArray, List.set_cons_zero, List.set_cons_succ]
    refine wpAnyH_take (i := 6) (oi := { dst := some 25, op := Go.Op.binOp Go.BinOp.add 9 (Go.Operand.tmp 21) (Go.Operand.tmp 24) 9, type := 9, pos := "l2_atoms.go:329", after := #[{ on := 2, ground := Go.Ground.data }, { on := 5, ground := Go.Ground.data }], guard := none }) (v := ?_) rfl (by kernel_rfl) (by kernel_rfl) (by kernel_rfl) (fun _ _ _ h => h) (Or.inl ⟨by rfl, ?_⟩) (by assumption) ?_
    rotate_left
    · (intro w hSw; (try dsimp only at hSw); first | (go_simp; done) | (go_simp; with_reducible rfl))
    try simp only [Act.put, List.setIfInBounds_toArray, List.set_cons_zero, List.set_cons_succ]
    refine wpAnyH_ready (rs := [10]) (by kernel_rfl) (by simp) ?_
    refine AllReadyH.cons (o := { dst := some 29, op := Go.Op.call { callee := Go.Callee.value (Go.Operand.func 31), args := #[Go.Operand.tmp 28, Go.Operand.const (Go.Value.int Go.IntKind.i64 2)], argTypes := #[40, 3] }, type := 3, pos := "l2_atoms.go:329", after := #[{ on := 9, ground := Go.Ground.data }, { on := 5, ground := Go.Ground.chain }], guard := none }) rfl (fun K hK => ?_) AllReadyH.nil
    go_simp
    (go_at_call 31; refine (pick_t r q6 2 _ (rd_on HR6.out (by go_grown)) (by omega)).mono ?_; rintro e w7 ⟨d, rfl, d0, d1, ht7'⟩; have ht7 : Turned r q6 1 w6 w7 := below_turned (by go_grown) ht7'; have HB7 := Lib.hid (opened_below HB6.out hr ht7); obtain ⟨d, rfl⟩ := Int.eq_ofNat_of_zero_le d0; obtain ⟨j, hj⟩ : ∃ j, k + d = j := ⟨_, rfl⟩; have hwj : IntKind.i64.wrap ((k : Int) + (d : Int)) = (j : Int) := (by rw [IntKind.wrap_i64]; omega); obtain ⟨Q, hQ⟩ : ∃ Q, T.drop j = Q := ⟨_, rfl⟩; have hQl : Q.length ≤ 700 := (by rw [← hQ, List.length_drop]; have := HN.out; omega); have hsQ := bs_size Q; have hr2 := run_from (P := Tryd.prog) hund (l := T) (k := j) (by rw [HN.out]; omega) hQ .i64; have hcat2 : ¬ 9223372036854775807 < (P ++ y).length + Q.length := (by omega); have hcat3 : ¬ 9223372036854775807 < P.length + y.length + Q.length := (by omega); clear hQ hj d0 d1 ht7')
    (try go_wp2_with fail)
    refine hK.out _ _ ?_ (fun hHeld => ?_)
    · try dsimp only
      try trivial
    clear hK K
    try simp only [Act.put, List.setIfInBounds_toArray, List.set_cons_zero, List.set_cons_succ]
    refine wpAnyH_take (i := 11) (oi := { dst := some 30, op := Go.Op.binOp Go.BinOp.add 3 (Go.Operand.tmp 27) (Go.Operand.tmp 29) 3, type := 3, pos := "l2_atoms.go:329", after := #[{ on := 8, ground := Go.Ground.data }, { on := 10, ground := Go.Ground.data }], guard := none }) (v := ?_) rfl (by kernel_rfl) (by kernel_rfl) (by kernel_rfl) (fun _ _ _ h => h) (Or.inl ⟨by rfl, ?_⟩) (by assumption) ?_
    rotate_left
    · (intro w hSw; (try dsimp only at hSw); first | (go_simp; done) | (go_simp; with_reducible rfl))
    try simp only [Act.put, List.setIfInBounds_toArray, List.set_cons_zero, List.set_cons_succ]
    refine wpAnyH_take (i := 12) (oi := { dst := some 31, op := Go.Op.slice 9 (Go.Operand.tmp 26) (some (Go.Operand.tmp 30)) none none, type := 9, pos := "l2_atoms.go:329", after := #[{ on := 7, ground := Go.Ground.data }, { on := 11, ground := Go.Ground.data }], guard := none }) (v := ?_) rfl (by kernel_rfl) (by kernel_rfl) (by kernel_rfl) (fun _ _ _ h => h) (Or.inl ⟨by rfl, ?_⟩) (by assumption) ?_
    rotate_left
    · (intro w hSw; (try dsimp only at hSw); first | (go_simp; done) | (go_simp; with_reducible rfl))
    try simp only [Act.put, List.setIfInBounds_toArray, List.set_cons_zero, List.set_cons_succ]
    refine wpAnyH_take (i := 13) (oi := { dst := some 32, op := Go.Op.binOp Go.BinOp.add 9 (Go.Operand.tmp 25) (Go.Operand.tmp 31) 9, type := 9, pos := "l2_atoms.go:329", after := #[{ on := 6, ground := Go.Ground.data }, { on := 12, ground := Go.Ground.data }], guard := none }) (v := ?_) rfl (by kernel_rfl) (by kernel_rfl) (by kernel_rfl) (fun _ _ _ h => h) (Or.inl ⟨by rfl, ?_⟩) (by assumption) ?_
    rotate_left
    · (intro w hSw; (try dsimp only at hSw); first | (go_simp; done) | (go_simp; with_reducible rfl))
    try simp only [Act.put, List.setIfInBounds_toArray, List.set_cons_zero, List.set_cons_succ]
    refine wpAnyH_take (i := 14) (oi := { dst := some 2, op := Go.Op.assign (Go.Operand.tmp 32), type := 9, pos := "l2_atoms.go:329", after := #[{ on := 13, ground := Go.Ground.data }, { on := 10, ground := Go.Ground.chain }, { on := 0, ground := Go.Ground.phase }, { on := 1, ground := Go.Ground.phase }, { on := 2, ground := Go.Ground.phase }, { on := 3, ground := Go.Ground.phase }, { on := 4, ground := Go.Ground.phase }, { on := 5, ground := Go.Ground.phase }, { on := 6, ground := Go.Ground.phase }, { on := 7, ground := Go.Ground.phase }, { on := 8, ground := Go.Ground.phase }, { on := 9, ground := Go.Ground.phase }, { on := 10, ground := Go.Ground.phase }, { on := 11, ground := Go.Ground.phase }, { on := 12, ground := Go.Ground.phase }, { on := 13, ground := Go.Ground.phase }], guard := none }) (v := ?_) rfl (by kernel_rfl) (by kernel_rfl) (by kernel_rfl) (fun _ _ _ h => h) (Or.inl ⟨by rfl, ?_⟩) (by assumption) ?_
    rotate_left
    · (intro w hSw; (try dsimp only at hSw); first | (go_simp; done) | (go_simp; with_reducible rfl))
    try simp only [Act.put, List.setIfInBounds_toArray, List.set_cons_zero, List.set_cons_succ]
    refine wpAnyH_done (by kernel_rfl) ?_ _
    go_wp2
    go_ret
    exact ⟨_, rfl, by simp only [List.length_append]; omega, HB7.out⟩
end Go.Proofs.YtjbbknbnknhjhaaDoor
