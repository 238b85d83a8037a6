/- The walk of the law that says that NegNormal answers as its model does. -/
import Derived.Test.YtahilpccnabbgaaNl
import Derived.Test.YtahilpccnabbgaaNm
import Derived.Test.YtahilpccnabbgaaFm
import Derived.Deep.RegionHeld3
namespace Go.Proofs.Ytahilpccnabbgaa
open Go.RowKit

theorem keep20NegNormal {W w' : World} {x y : Nat} {h : FH} {s s' : Value} (hx : C10 W x h s) (hy : C10 W y h s') (hB : Below W.heap.size W w') :
    Below W.heap.size W w' ∧ (w'.cell? ⟨x, 0, none⟩ = some (.int .i64 h.k) ∧ w'.cell? ⟨x, 1, none⟩ = some (.int .i64 h.ak) ∧ w'.cell? ⟨x, 2, none⟩ = some (.int .i64 h.am) ∧ w'.cell? ⟨x, 3, none⟩ = some (.int .i64 h.a) ∧ w'.cell? ⟨x, 4, none⟩ = some (.int .i64 h.b) ∧ w'.cell? ⟨x, 5, none⟩ = some (.int .i64 h.c) ∧ w'.cell? ⟨x, 6, none⟩ = some (.int .i64 h.d) ∧ w'.cell? ⟨x, 7, none⟩ = some (.int .i64 h.n) ∧ w'.cell? ⟨x, 8, none⟩ = some (.int .i64 h.v) ∧ w'.cell? ⟨x, 9, none⟩ = some (s)) ∧ (w'.cell? ⟨y, 0, none⟩ = some (.int .i64 h.k) ∧ w'.cell? ⟨y, 1, none⟩ = some (.int .i64 h.ak) ∧ w'.cell? ⟨y, 2, none⟩ = some (.int .i64 h.am) ∧ w'.cell? ⟨y, 3, none⟩ = some (.int .i64 h.a) ∧ w'.cell? ⟨y, 4, none⟩ = some (.int .i64 h.b) ∧ w'.cell? ⟨y, 5, none⟩ = some (.int .i64 h.c) ∧ w'.cell? ⟨y, 6, none⟩ = some (.int .i64 h.d) ∧ w'.cell? ⟨y, 7, none⟩ = some (.int .i64 h.n) ∧ w'.cell? ⟨y, 8, none⟩ = some (.int .i64 h.v) ∧ w'.cell? ⟨y, 9, none⟩ = some (s')) :=
  ⟨hB, (c10_on hx hB).2, (c10_on hy hB).2⟩

set_option maxRecDepth 100000 in
set_option maxHeartbeats 4000000 in
theorem exactNegNormal_walk (h : FH) (f : Fo) (w : World) (lo : Nat) (s : Value) (hs : FS w lo f s) :
    Calls Try.prog 5 #[.agg #[.int .i64 h.k, .int .i64 h.ak, .int .i64 h.am, .int .i64 h.a, .int .i64 h.b, .int .i64 h.c, .int .i64 h.d, .int .i64 h.n, .int .i64 h.v, s]] w fun e w' => e = .returned (.bool true) ∧ Below w.heap.size w w' := by
  have HS := Lib.hid hs
  obtain ⟨sa, sn, sc, rfl⟩ := hs.slice
  clear hs
  by_cases hsz : f.size ≤ 1048576
  · have HZ : Hid (szI f.size 1048576 = ((1048576 - f.size : Nat) : Int)) := szI_pos hsz
    obtain ⟨l, hl⟩ : ∃ l : Nat, 1048576 - f.size = l := ⟨_, rfl⟩
    rw [hl] at HZ
    have hl0 : ¬ (l : Int) < 0 := by omega
    have HSZ := Lib.hid hsz
    have hq6 := okQ_size (nnB h f) (ngF false h f).1 (ngF false h f).2 (fun e => by simp only [Bool.and_eq_true, nnB] at e; exact e.2)
    have HSP := Lib.hid (fun V lo s hs => specNegNormal_any h f V lo s hsz hs)
    have HIM := Lib.hid (fun V lo s hs => NegNormal_any h f V lo s hs)
    obtain ⟨q, hq⟩ : ∃ q, okQ (nnB h f) (ngF false h f).1 (ngF false h f).2 = q := ⟨_, rfl⟩
    obtain ⟨tt, htt⟩ : ∃ tt, nnB h f = tt := ⟨_, rfl⟩
    rw [hq] at hq6 HSP HIM
    rw [htt] at HSP HIM
    clear hl hq htt
    go_enter Try.func5, Try.ntmps5
    go_wp2_with fail
    generalize hW : World.alloc _ _ = w1
    have hb1 : Below w.heap.size w w1 := by subst hW; go_grown
    have xX1 : C10 w1 w.heap.size h (.slice sa sn sc) := by subst hW; exact (by refine ⟨?_, ?_, ?_, ?_, ?_, ?_, ?_, ?_, ?_, ?_, ?_⟩ <;> first | (simp [go_sem]; done) | (simp; omega))
    clear hW
    have HB1 := Lib.hid hb1
    have hs1 := hb1.size
    have hX := xX1.1
    clear hb1
    refine (szF_any h f w1 lo _ 1048576 (Nat.le_refl _) (FS.below HB1.out (Nat.le_refl _) HS.out)).mono ?_
    rintro e w2 ⟨rfl, hb2⟩
    rw [HZ.out]
    have hsw2 := (hb2).size
    have xXw2 := c10_on xX1 hb2
    have HBw2 := Lib.hid (below_on HB1.out hb2)
    clear xX1 HB1
    clear hb2
    obtain ⟨Xc0, Xc1, Xc2, Xc3, Xc4, Xc5, Xc6, Xc7, Xc8, Xc9, Xc10⟩ := id xXw2
    go_wp2_with fail
    refine (tF_any h f w2 lo _ HSZ.out (FS.below HBw2.out (Nat.le_refl _) HS.out)).mono ?_
    rintro e w3 ⟨s3, rfl, hs3, hb3⟩
    obtain ⟨a3, n3, c3, rfl⟩ := hs3.slice
    have hsw3 := (hb3).size
    have xXw3 := c10_on xXw2 hb3
    have HBw3 := Lib.hid (below_on HBw2.out hb3)
    clear Xc0 Xc1 Xc2 Xc3 Xc4 Xc5 Xc6 Xc7 Xc8 Xc9 Xc10 xXw2 HBw2
    clear hb3
    go_wp2_with fail
    refine (HSP.out w3 _ _ hs3).mono ?_
    rintro e w4 ⟨s4, rfl, hs4, hb4⟩
    obtain ⟨a4, n4, c4, rfl⟩ := hs4.slice
    have hsw4 := (hb4).size
    have xXw4 := c10_on xXw3 hb4
    have HBw4 := Lib.hid (below_on HBw3.out hb4)
    clear xXw3 HBw3
    have SQ4 := Lib.hid hs4
    clear hs4 hs3 hb4
    obtain ⟨Xc0, Xc1, Xc2, Xc3, Xc4, Xc5, Xc6, Xc7, Xc8, Xc9, Xc10⟩ := id xXw4
    go_wp2_with fail
    generalize hW : World.alloc _ _ = w5
    have hb5 : Below w4.heap.size w4 w5 := by subst hW; go_grown
    have xA5 : C10 w5 w4.heap.size q.1 (.slice a4 n4 c4) := by subst hW; exact (by refine ⟨?_, ?_, ?_, ?_, ?_, ?_, ?_, ?_, ?_, ?_, ?_⟩ <;> first | (simp [go_sem]; done) | (simp; omega))
    clear hW
    have hsw5 := (hb5).size
    have xXw5 := c10_on xXw4 hb5
    have SQw5 := Lib.hid (SF.below hb5 (by omega) SQ4.out)
    have HBw5 := Lib.hid (below_on HBw4.out hb5)
    clear Xc0 Xc1 Xc2 Xc3 Xc4 Xc5 Xc6 Xc7 Xc8 Xc9 Xc10 xXw4 SQ4 HBw4
    have hA := xA5.1
    clear hb5
    refine (tF_any2 h f w5 lo _ HSZ.out (FS.below HBw5.out (Nat.le_refl _) HS.out)).mono ?_
    rintro e w6 ⟨s6, rfl, hs6, hn6, hb6⟩
    obtain ⟨a6, n6, c6, rfl⟩ := hs6.slice
    have hsw6 := (hb6).size
    have xXw6 := c10_on xXw5 hb6
    have xAw6 := c10_on xA5 hb6
    have SQw6 := Lib.hid (SF.below hb6 (by omega) SQw5.out)
    have HBw6 := Lib.hid (below_on HBw5.out hb6)
    clear xXw5 xA5 SQw5 HBw5
    have FY6 := Lib.hid hs6
    have NY6 := Lib.hid hn6
    clear hs6 hn6 hb6
    go_wp2_with fail
    generalize hW : World.alloc _ _ = w7
    have hb7 : Below w6.heap.size w6 w7 := by subst hW; go_grown
    have xY7 : C10 w7 w6.heap.size h (.slice a6 n6 c6) := by subst hW; exact (by refine ⟨?_, ?_, ?_, ?_, ?_, ?_, ?_, ?_, ?_, ?_, ?_⟩ <;> first | (simp [go_sem]; done) | (simp; omega))
    clear hW
    have hsw7 := (hb7).size
    have xXw7 := c10_on xXw6 hb7
    have xAw7 := c10_on xAw6 hb7
    have SQw7 := Lib.hid (SF.below hb7 (by omega) SQw6.out)
    have NYw7 := Lib.hid (NS.same (fun x _ hx => (hb7).block x (by omega)) NY6.out)
    have FYw7 := Lib.hid (FS.below hb7 (Nat.le_refl _) FY6.out)
    have HBw7 := Lib.hid (below_on HBw6.out hb7)
    clear xXw6 xAw6 SQw6 NY6 FY6 HBw6
    have hY := xY7.1
    clear hb7
    refine (HIM.out w7 _ _ FYw7.out).mono ?_
    rintro e w8 ⟨s8, rfl, hs8, hb8⟩
    obtain ⟨a8, n8, c8, rfl⟩ := hs8.slice
    have hsw8 := (hb8).size
    have xXw8 := c10_on xXw7 hb8
    have xAw8 := c10_on xAw7 hb8
    have xYw8 := c10_on xY7 hb8
    have SQw8 := Lib.hid (SF.below hb8 (by omega) SQw7.out)
    have NYw8 := Lib.hid (NS.same (fun x _ hx => (hb8).block x (by omega)) NYw7.out)
    have FYw8 := Lib.hid (FS.below hb8 (Nat.le_refl _) FYw7.out)
    have HBw8 := Lib.hid (below_on HBw7.out hb8)
    clear xXw7 xAw7 xY7 SQw7 NYw7 FYw7 HBw7
    have SG8 := Lib.hid hs8
    clear hs8 hb8
    go_upto_region 8 with fail
    generalize hW : World.alloc _ _ = w9
    have hb9 : Below w8.heap.size w8 w9 := by subst hW; go_grown
    have xG9 : C10 w9 w8.heap.size q.1 (.slice a8 n8 c8) := by subst hW; exact (by refine ⟨?_, ?_, ?_, ?_, ?_, ?_, ?_, ?_, ?_, ?_, ?_⟩ <;> first | (simp [go_sem]; done) | (simp; omega))
    clear hW
    have hsw9 := (hb9).size
    have xXw9 := c10_on xXw8 hb9
    have xAw9 := c10_on xAw8 hb9
    have xYw9 := c10_on xYw8 hb9
    have SQw9 := Lib.hid (SF.below hb9 (by omega) SQw8.out)
    have SGw9 := Lib.hid (SF.below hb9 (by omega) SG8.out)
    have NYw9 := Lib.hid (NS.same (fun x _ hx => (hb9).block x (by omega)) NYw8.out)
    have FYw9 := Lib.hid (FS.below hb9 (Nat.le_refl _) FYw8.out)
    have HBw9 := Lib.hid (below_on HBw8.out hb9)
    clear xXw8 xAw8 xYw8 SQw8 SG8 NYw8 FYw8 HBw8
    have hG := xG9.1
    clear hb9
    obtain ⟨Ac0, Ac1, Ac2, Ac3, Ac4, Ac5, Ac6, Ac7, Ac8, Ac9, Ac10⟩ := id xAw9
    obtain ⟨Gc0, Gc1, Gc2, Gc3, Gc4, Gc5, Gc6, Gc7, Gc8, Gc9, Gc10⟩ := id xG9
    go_wp2_with fail
    refine (eqF_any q.1 q.2 w9 _ _ _ _ (SF.fs (by omega) SGw9.out) (SF.fs (by omega) SQw9.out)).mono ?_
    rintro e w10 ⟨rfl, hb10⟩
    have hsw10 := (hb10).size
    have xXw10 := c10_on xXw9 hb10
    have xAw10 := c10_on xAw9 hb10
    have xYw10 := c10_on xYw9 hb10
    have xGw10 := c10_on xG9 hb10
    have SQw10 := Lib.hid (SF.below hb10 (by omega) SQw9.out)
    have SGw10 := Lib.hid (SF.below hb10 (by omega) SGw9.out)
    have NYw10 := Lib.hid (NS.same (fun x _ hx => (hb10).block x (by omega)) NYw9.out)
    have FYw10 := Lib.hid (FS.below hb10 (Nat.le_refl _) FYw9.out)
    have HBw10 := Lib.hid (below_on HBw9.out hb10)
    clear Ac0 Ac1 Ac2 Ac3 Ac4 Ac5 Ac6 Ac7 Ac8 Ac9 Ac10 Gc0 Gc1 Gc2 Gc3 Gc4 Gc5 Gc6 Gc7 Gc8 Gc9 Gc10 xXw9 xAw9 xYw9 xG9 SQw9 SGw9 NYw9 FYw9 HBw9
    clear hb10
    have HTF := Lib.hid (fun W hW => tF_any h f W lo _ HSZ.out (FS.below (w := w10) hW (Nat.le_refl _) (FS.below HBw10.out (Nat.le_refl _) HS.out)))
    have HEQ := Lib.hid (fun W lo' s' hW hs' => eqF_any h f W _ lo' _ s' (FS.below (w := w10) hW (Nat.le_refl _) FYw10.out) hs')
    go_wp2_with fail
    refine wp_region_held_drew (S := (fun w' => Below w10.heap.size w10 w' ∧ (w'.cell? ⟨w.heap.size, 0, none⟩ = some (.int .i64 h.k) ∧ w'.cell? ⟨w.heap.size, 1, none⟩ = some (.int .i64 h.ak) ∧ w'.cell? ⟨w.heap.size, 2, none⟩ = some (.int .i64 h.am) ∧ w'.cell? ⟨w.heap.size, 3, none⟩ = some (.int .i64 h.a) ∧ w'.cell? ⟨w.heap.size, 4, none⟩ = some (.int .i64 h.b) ∧ w'.cell? ⟨w.heap.size, 5, none⟩ = some (.int .i64 h.c) ∧ w'.cell? ⟨w.heap.size, 6, none⟩ = some (.int .i64 h.d) ∧ w'.cell? ⟨w.heap.size, 7, none⟩ = some (.int .i64 h.n) ∧ w'.cell? ⟨w.heap.size, 8, none⟩ = some (.int .i64 h.v) ∧ w'.cell? ⟨w.heap.size, 9, none⟩ = some (.slice sa sn sc)) ∧ (w'.cell? ⟨w6.heap.size, 0, none⟩ = some (.int .i64 h.k) ∧ w'.cell? ⟨w6.heap.size, 1, none⟩ = some (.int .i64 h.ak) ∧ w'.cell? ⟨w6.heap.size, 2, none⟩ = some (.int .i64 h.am) ∧ w'.cell? ⟨w6.heap.size, 3, none⟩ = some (.int .i64 h.a) ∧ w'.cell? ⟨w6.heap.size, 4, none⟩ = some (.int .i64 h.b) ∧ w'.cell? ⟨w6.heap.size, 5, none⟩ = some (.int .i64 h.c) ∧ w'.cell? ⟨w6.heap.size, 6, none⟩ = some (.int .i64 h.d) ∧ w'.cell? ⟨w6.heap.size, 7, none⟩ = some (.int .i64 h.n) ∧ w'.cell? ⟨w6.heap.size, 8, none⟩ = some (.int .i64 h.v) ∧ w'.cell? ⟨w6.heap.size, 9, none⟩ = some (.slice a6 n6 c6)))) (by kernel_rfl) ?_ (fun hHeld => ?_)
    · try dsimp only
      exact keep20NegNormal xXw10 xYw10 (by go_grown)
    refine wpAnyH_take (i := 0) (oi := { dst := some 41, op := Go.Op.load 30 (Go.Operand.tmp 6), type := 30, pos := "exact.go:3589", after := #[], guard := none }) (v := ?_) rfl (by kernel_rfl) (by kernel_rfl) (by kernel_rfl) (fun _ _ _ h => h) (Or.inl ⟨by rfl, ?_⟩) (by assumption) ?_
    rotate_left
    · (intro w hSw; (try dsimp only at hSw); first | (go_simp; done) | (go_simp; with_reducible rfl))
    try simp only [Act.put, List.setIfInBounds_toArray, List.set_cons_zero, List.set_cons_succ]
    refine wpAnyH_take (i := 1) (oi := { dst := some 42, op := Go.Op.load 43 (Go.Operand.tmp 1), type := 43, pos := "exact.go:3589", after := #[], guard := none }) (v := ?_) rfl (by kernel_rfl) (by kernel_rfl) (by kernel_rfl) (fun _ _ _ h => h) (Or.inl ⟨by rfl, ?_⟩) (by assumption) ?_
    rotate_left
    · (intro w hSw; (try dsimp only at hSw); first | (go_simp; done) | (go_simp; with_reducible rfl))
    try simp only [Act.put, List.setIfInBounds_toArray, List.set_cons_zero, List.set_cons_succ]
    refine wpAnyH_ready (rs := [2]) (by kernel_rfl) (by simp) ?_
    refine AllReadyH.cons (o := { dst := some 43, op := Go.Op.call { callee := Go.Callee.value (Go.Operand.func 22), args := #[Go.Operand.tmp 42], argTypes := #[43] }, type := 30, pos := "exact.go:3589", after := #[{ on := 1, ground := Go.Ground.data }], guard := none }) rfl (fun K hK => ?_) AllReadyH.nil
    go_simp
    (go_at_call 22; refine (HTF.out _ (by go_grown)).mono ?_; rintro e w11 ⟨s11, rfl, hs11, hb11⟩; have hbb11 := below_on (w := w10) (by go_grown) hb11; have hsb11 : w10.heap.size ≤ w11.heap.size := hbb11.size)
    (try go_wp2_with fail)
    refine hK.out _ _ ?_ (fun hHeld => ?_)
    · try dsimp only
      exact keep20NegNormal xXw10 xYw10 (by go_grown)
    clear hK K
    try simp only [Act.put, List.setIfInBounds_toArray, List.set_cons_zero, List.set_cons_succ]
    refine wpAnyH_ready (rs := [3]) (by kernel_rfl) (by simp) ?_
    refine AllReadyH.cons (o := { dst := some 44, op := Go.Op.call { callee := Go.Callee.value (Go.Operand.func 13), args := #[Go.Operand.tmp 41, Go.Operand.tmp 43], argTypes := #[30, 30] }, type := 4, pos := "exact.go:3589", after := #[{ on := 0, ground := Go.Ground.data }, { on := 2, ground := Go.Ground.data }, { on := 2, ground := Go.Ground.chain }], guard := none }) rfl (fun K hK => ?_) AllReadyH.nil
    go_simp
    (go_at_call 13; refine (HEQ.out _ _ _ (by go_grown) hs11).mono ?_; rintro e w12 ⟨rfl, hb12⟩; have hbb12 := below_on hbb11 hb12; have hsb12 : w10.heap.size ≤ w12.heap.size := hbb12.size)
    (try go_wp2_with fail)
    refine hK.out _ _ ?_ (fun hHeld => ?_)
    · try dsimp only
      exact keep20NegNormal xXw10 xYw10 (by go_grown)
    clear hK K
    try simp only [Act.put, List.setIfInBounds_toArray, List.set_cons_zero, List.set_cons_succ]
    refine wpAnyH_take (i := 4) (oi := { dst := some 45, op := Go.Op.unOp Go.UnOp.not 4 (Go.Operand.tmp 44), type := 4, pos := "exact.go:3589", after := #[{ on := 3, ground := Go.Ground.data }], guard := none }) (v := ?_) rfl (by kernel_rfl) (by kernel_rfl) (by kernel_rfl) (fun _ _ _ h => h) (Or.inl ⟨by rfl, ?_⟩) (by assumption) ?_
    rotate_left
    · (intro w hSw; (try dsimp only at hSw); first | (go_simp; done) | (go_simp; with_reducible rfl))
    try simp only [Act.put, List.setIfInBounds_toArray, List.set_cons_zero, List.set_cons_succ]
    refine wpAnyH_done (by kernel_rfl) ?_ _
    clear hHeld hb11 hb12 hbb11 hs11 HTF HEQ
    have hsw12 := (hbb12).size
    have xXw12 := c10_on xXw10 hbb12
    have xAw12 := c10_on xAw10 hbb12
    have xYw12 := c10_on xYw10 hbb12
    have xGw12 := c10_on xGw10 hbb12
    have SQw12 := Lib.hid (SF.below hbb12 (by omega) SQw10.out)
    have SGw12 := Lib.hid (SF.below hbb12 (by omega) SGw10.out)
    have NYw12 := Lib.hid (NS.same (fun x _ hx => (hbb12).block x (by omega)) NYw10.out)
    have FYw12 := Lib.hid (FS.below hbb12 (Nat.le_refl _) FYw10.out)
    have HBw12 := Lib.hid (below_on HBw10.out hbb12)
    clear xXw10 xAw10 xYw10 xGw10 SQw10 SGw10 NYw10 FYw10 HBw10
    clear hbb12
    obtain ⟨Yc0, Yc1, Yc2, Yc3, Yc4, Yc5, Yc6, Yc7, Yc8, Yc9, Yc10⟩ := id xYw12
    go_wp2_with fail
    refine (mkF_any h f w12 w5.heap.size w6.heap.size _ 1 NYw12.out (by omega) (by omega) (by omega)).mono ?_
    rintro e w13 ⟨rfl, hk13⟩
    obtain ⟨qk, hqk⟩ : ∃ qk : Int, 1 + ((f.size * 9 : Nat) : Int) = qk := ⟨_, rfl⟩
    have hqk0 : ¬ qk < 0 := by omega
    rw [hqk]
    clear hqk
    have hsw13 := (hk13).size
    have xXw13 := c10_keeps xXw12 hk13 (by omega)
    have xAw13 := c10_keeps xAw12 hk13 (by omega)
    have xYw13 := c10_keeps xYw12 hk13 (by omega)
    have xGw13 := c10_keeps xGw12 hk13 (by omega)
    have SQw13 := Lib.hid (SF.same (fun x h1 h2 => (hk13).block x (by omega) (by omega)) SQw12.out)
    have SGw13 := Lib.hid (SF.same (fun x h1 h2 => (hk13).block x (by omega) (by omega)) SGw12.out)
    have HBw13 := Lib.hid (HBw12.out.trans (((hk13).below (by omega)).mono (by omega)))
    clear Yc0 Yc1 Yc2 Yc3 Yc4 Yc5 Yc6 Yc7 Yc8 Yc9 Yc10 xXw12 xAw12 xYw12 xGw12 SQw12 SGw12 HBw12
    clear hk13
    obtain ⟨Ac0, Ac1, Ac2, Ac3, Ac4, Ac5, Ac6, Ac7, Ac8, Ac9, Ac10⟩ := id xAw13
    obtain ⟨Gc0, Gc1, Gc2, Gc3, Gc4, Gc5, Gc6, Gc7, Gc8, Gc9, Gc10⟩ := id xGw13
    go_wp2_with fail
    refine (eqF_any q.1 q.2 w13 _ _ _ _ (SF.fs (by omega) SGw13.out) (SF.fs (by omega) SQw13.out)).mono ?_
    rintro e w14 ⟨rfl, hb14⟩
    have hsw14 := (hb14).size
    have xXw14 := c10_on xXw13 hb14
    have xAw14 := c10_on xAw13 hb14
    have xYw14 := c10_on xYw13 hb14
    have xGw14 := c10_on xGw13 hb14
    have SQw14 := Lib.hid (SF.below hb14 (by omega) SQw13.out)
    have SGw14 := Lib.hid (SF.below hb14 (by omega) SGw13.out)
    have HBw14 := Lib.hid (below_on HBw13.out hb14)
    clear Ac0 Ac1 Ac2 Ac3 Ac4 Ac5 Ac6 Ac7 Ac8 Ac9 Ac10 Gc0 Gc1 Gc2 Gc3 Gc4 Gc5 Gc6 Gc7 Gc8 Gc9 Gc10 xXw13 xAw13 xYw13 xGw13 SQw13 SGw13 HBw13
    clear hb14
    obtain ⟨Gc0, Gc1, Gc2, Gc3, Gc4, Gc5, Gc6, Gc7, Gc8, Gc9, Gc10⟩ := id xGw14
    obtain ⟨N, hN⟩ : ∃ N : Int, 1 + ((q.2.size * 9 : Nat) : Int) = N := ⟨_, rfl⟩
    have HN := Lib.hid hN
    have hN0 : ¬ N < 0 := by omega
    clear hN
    go_wp2_with fail
    refine (xkF_any q.1 q.2 w14 w7.heap.size w8.heap.size _ 1 SGw14.out (by omega) (by omega) (by omega)).mono ?_
    rintro e w15 ⟨rfl, hk15, hs15⟩
    rw [HN.out]
    have hsw15 := (hk15).size
    have xXw15 := c10_keeps xXw14 hk15 (by omega)
    have xAw15 := c10_keeps xAw14 hk15 (by omega)
    have xYw15 := c10_keeps xYw14 hk15 (by omega)
    have xGw15 := c10_keeps xGw14 hk15 (by omega)
    have SQw15 := Lib.hid (SF.same (fun x h1 h2 => (hk15).block x (by omega) (by omega)) SQw14.out)
    have HBw15 := Lib.hid (HBw14.out.trans (((hk15).below (by omega)).mono (by omega)))
    clear Gc0 Gc1 Gc2 Gc3 Gc4 Gc5 Gc6 Gc7 Gc8 Gc9 Gc10 xXw14 xAw14 xYw14 xGw14 SQw14 HBw14
    have SG15 := Lib.hid hs15
    clear hk15 hs15 SGw14
    obtain ⟨Gc0, Gc1, Gc2, Gc3, Gc4, Gc5, Gc6, Gc7, Gc8, Gc9, Gc10⟩ := id xGw15
    go_wp2_with fail
    refine (heF_any q.1 q.2 w15 _ _ 1 (SF.fs (by omega) SG15.out) (by omega) (by omega)).mono ?_
    rintro e w16 ⟨rfl, hb16⟩
    rw [HN.out]
    have hsw16 := (hb16).size
    have xXw16 := c10_on xXw15 hb16
    have xAw16 := c10_on xAw15 hb16
    have xYw16 := c10_on xYw15 hb16
    have xGw16 := c10_on xGw15 hb16
    have SQw16 := Lib.hid (SF.below hb16 (by omega) SQw15.out)
    have SGw16 := Lib.hid (SF.below hb16 (by omega) SG15.out)
    have HBw16 := Lib.hid (below_on HBw15.out hb16)
    clear Gc0 Gc1 Gc2 Gc3 Gc4 Gc5 Gc6 Gc7 Gc8 Gc9 Gc10 xXw15 xAw15 xYw15 xGw15 SQw15 SG15 HBw15
    clear hb16
    obtain ⟨Xc0, Xc1, Xc2, Xc3, Xc4, Xc5, Xc6, Xc7, Xc8, Xc9, Xc10⟩ := id xXw16
    go_wp2_with fail
    refine (tF_any h f w16 lo _ HSZ.out (FS.below HBw16.out (Nat.le_refl _) HS.out)).mono ?_
    rintro e w17 ⟨s17, rfl, hs17, hb17⟩
    obtain ⟨a17, n17, c17, rfl⟩ := hs17.slice
    have hsw17 := (hb17).size
    have xXw17 := c10_on xXw16 hb17
    have xAw17 := c10_on xAw16 hb17
    have xYw17 := c10_on xYw16 hb17
    have xGw17 := c10_on xGw16 hb17
    have SQw17 := Lib.hid (SF.below hb17 (by omega) SQw16.out)
    have SGw17 := Lib.hid (SF.below hb17 (by omega) SGw16.out)
    have HBw17 := Lib.hid (below_on HBw16.out hb17)
    clear Xc0 Xc1 Xc2 Xc3 Xc4 Xc5 Xc6 Xc7 Xc8 Xc9 Xc10 xXw16 xAw16 xYw16 xGw16 SQw16 SGw16 HBw16
    clear hb17
    go_wp2_with fail
    refine (HIM.out w17 _ _ hs17).mono ?_
    rintro e w18 ⟨s18, rfl, hs18, hb18⟩
    obtain ⟨a18, n18, c18, rfl⟩ := hs18.slice
    have hsw18 := (hb18).size
    have xXw18 := c10_on xXw17 hb18
    have xAw18 := c10_on xAw17 hb18
    have xYw18 := c10_on xYw17 hb18
    have xGw18 := c10_on xGw17 hb18
    have SQw18 := Lib.hid (SF.below hb18 (by omega) SQw17.out)
    have SGw18 := Lib.hid (SF.below hb18 (by omega) SGw17.out)
    have HBw18 := Lib.hid (below_on HBw17.out hb18)
    clear xXw17 xAw17 xYw17 xGw17 SQw17 SGw17 HBw17
    have SH18 := Lib.hid hs18
    clear hs18 hs17 hb18
    obtain ⟨Ac0, Ac1, Ac2, Ac3, Ac4, Ac5, Ac6, Ac7, Ac8, Ac9, Ac10⟩ := id xAw18
    go_upto_region 25 with fail
    generalize hW : World.alloc _ _ = w19
    have hb19 : Below w18.heap.size w18 w19 := by subst hW; go_grown
    have xH19 : C10 w19 w18.heap.size q.1 (.slice a18 n18 c18) := by subst hW; exact (by refine ⟨?_, ?_, ?_, ?_, ?_, ?_, ?_, ?_, ?_, ?_, ?_⟩ <;> first | (simp [go_sem]; done) | (simp; omega))
    clear hW
    have hsw19 := (hb19).size
    have xXw19 := c10_on xXw18 hb19
    have xAw19 := c10_on xAw18 hb19
    have xYw19 := c10_on xYw18 hb19
    have xGw19 := c10_on xGw18 hb19
    have SQw19 := Lib.hid (SF.below hb19 (by omega) SQw18.out)
    have SGw19 := Lib.hid (SF.below hb19 (by omega) SGw18.out)
    have SHw19 := Lib.hid (SF.below hb19 (by omega) SH18.out)
    have HBw19 := Lib.hid (below_on HBw18.out hb19)
    clear Ac0 Ac1 Ac2 Ac3 Ac4 Ac5 Ac6 Ac7 Ac8 Ac9 Ac10 xXw18 xAw18 xYw18 xGw18 SQw18 SGw18 SH18 HBw18
    have hH := xH19.1
    clear hb19
    obtain ⟨Ac0, Ac1, Ac2, Ac3, Ac4, Ac5, Ac6, Ac7, Ac8, Ac9, Ac10⟩ := id xAw19
    obtain ⟨Hc0, Hc1, Hc2, Hc3, Hc4, Hc5, Hc6, Hc7, Hc8, Hc9, Hc10⟩ := id xH19
    go_wp2_with fail
    refine (eqF_any q.1 q.2 w19 _ _ _ _ (SF.fs (by omega) SHw19.out) (SF.fs (by omega) SQw19.out)).mono ?_
    rintro e w20 ⟨rfl, hb20⟩
    have hsw20 := (hb20).size
    have xXw20 := c10_on xXw19 hb20
    have xAw20 := c10_on xAw19 hb20
    have xYw20 := c10_on xYw19 hb20
    have xGw20 := c10_on xGw19 hb20
    have xHw20 := c10_on xH19 hb20
    have SQw20 := Lib.hid (SF.below hb20 (by omega) SQw19.out)
    have SGw20 := Lib.hid (SF.below hb20 (by omega) SGw19.out)
    have SHw20 := Lib.hid (SF.below hb20 (by omega) SHw19.out)
    have HBw20 := Lib.hid (below_on HBw19.out hb20)
    clear Ac0 Ac1 Ac2 Ac3 Ac4 Ac5 Ac6 Ac7 Ac8 Ac9 Ac10 Hc0 Hc1 Hc2 Hc3 Hc4 Hc5 Hc6 Hc7 Hc8 Hc9 Hc10 xXw19 xAw19 xYw19 xGw19 xH19 SQw19 SGw19 SHw19 HBw19
    clear hb20
    obtain ⟨Gc0, Gc1, Gc2, Gc3, Gc4, Gc5, Gc6, Gc7, Gc8, Gc9, Gc10⟩ := id xGw20
    go_wp2_with fail
    refine (heF_any q.1 q.2 w20 _ _ 1 (SF.fs (by omega) SGw20.out) (by omega) (by omega)).mono ?_
    rintro e w21 ⟨rfl, hb21⟩
    rw [HN.out]
    go_wp2
    go_ret
    exact ⟨rfl, below_on HBw20.out hb21⟩
  · have hz : szI f.size 1048576 = -1 := szI_neg (by omega)
    have HZ := Lib.hid hz
    clear hz
    go_enter Try.func5, Try.ntmps5
    go_wp2_with fail
    generalize hW : World.alloc _ _ = w1
    have hb1 : Below w.heap.size w w1 := by subst hW; go_grown
    clear hW
    refine (szF_any h f w1 lo _ 1048576 (Nat.le_refl _) (FS.below hb1 (Nat.le_refl _) HS.out)).mono ?_
    rintro e w2 ⟨rfl, hb2⟩
    rw [HZ.out]
    go_wp2
    go_ret
    exact ⟨rfl, below_on hb1 hb2⟩

end Go.Proofs.Ytahilpccnabbgaa
