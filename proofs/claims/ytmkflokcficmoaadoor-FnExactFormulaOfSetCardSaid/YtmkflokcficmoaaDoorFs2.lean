/- Several texts in one: FsC FsD FsE LSFormulaOfSet. -/
import Derived.Test.YtmkflokcficmoaaDoorFs1
import Derived.Test.YtmkflokcficmoaaDoorLawS
import Derived.BigQuiet
import Derived.Deep.RegionHeld3

/- The program's part of a formula for a number of a set. -/
namespace Go.Proofs.YtmkflokcficmoaaDoor
open Go.RowKit

def S3 (w : World) (b : Nat) (x y : ByteArray) (v : Int) : Prop := b < w.heap.size ∧ w.cell? ⟨b, 0, none⟩ = some (.string x) ∧ w.cell? ⟨b, 1, none⟩ = some (.string y) ∧ w.cell? ⟨b, 2, none⟩ = some (.int .i64 v) ∧ ∀ o, w.frozen? ⟨b, o, none⟩ = false
theorem s3_low {W w' : World} {B b : Nat} {x y : ByteArray} {v : Int} (h : S3 W b x y v) (hb : Below B W w') (hlt : b < B) : S3 w' b x y v :=
  have hk := hb.block b hlt
  ⟨Nat.lt_of_lt_of_le h.1 hb.size, (World.cell?_of_block hk).trans h.2.1, (World.cell?_of_block hk).trans h.2.2.1, (World.cell?_of_block hk).trans h.2.2.2.1, fun o => (World.frozen?_of_block hk).trans (h.2.2.2.2 o)⟩
theorem s3_on {W w' : World} {b : Nat} {x y : ByteArray} {v : Int} (h : S3 W b x y v) (hb : Below W.heap.size W w') : S3 w' b x y v := s3_low h hb h.1
theorem s3_new {w W : World} {x y : ByteArray} {v : Int} {t : TypeId} (hW : w.alloc (.cells #[.string x, .string y, .int .i64 v] t) = W) : S3 W w.heap.size x y v ∧ W.heap.size = w.heap.size + 1 ∧ Below w.heap.size w W := by
  subst hW
  exact ⟨⟨by simp, by simp [go_sem], by simp [go_sem], by simp [go_sem], fun o => by simp [go_sem]⟩, by simp, by go_grown⟩
theorem c5_mult {w W : World} {a b c d n : Int} {t u : TypeId} (h : (w.alloc (.cells #[.int .i64 a, .int .i64 b, .int .i64 c, .int .i64 d, .int .i64 n] t)).alloc (.cells #[.int .i64 a, .int .i64 b, .int .i64 c, .int .i64 d, .int .i64 n] u) = W) : C5 W (w.heap.size + 1) a b c d n ∧ Below w.heap.size w W := by
  subst h
  exact ⟨(by refine ⟨?_, ?_, ?_, ?_, ?_, ?_⟩ <;> first | (simp [go_sem]; done) | (simp; omega)), by go_grown⟩
theorem uq_01 (v i : Int) : 0 ≤ uq v i ∧ uq v i ≤ 1 := by unfold uq; split <;> decide
theorem c10_alloc {w W : World} {h : FH} {s : Value} {t : TypeId} (hW : w.alloc (.cells #[.int .i64 h.k, .int .i64 h.ak, .int .i64 h.am, .int .i64 h.a, .int .i64 h.b, .int .i64 h.c, .int .i64 h.d, .int .i64 h.n, .int .i64 h.v, s] t) = W) (hs : ∃ a n c, s = .slice a n c) : C10 W w.heap.size h s ∧ (∀ o, W.frozen? ⟨w.heap.size, o, none⟩ = false) ∧ Below w.heap.size w W ∧ W.heap.size = w.heap.size + 1 := by
  obtain ⟨a, n, c, rfl⟩ := hs
  subst hW
  exact ⟨(by refine ⟨?_, ?_, ?_, ?_, ?_, ?_, ?_, ?_, ?_, ?_, ?_⟩ <;> first | (simp [go_sem]; done) | (simp; omega)), fun o => by simp [go_sem], by go_grown, by simp⟩

set_option maxRecDepth 10000 in
set_option maxHeartbeats 4000000 in
theorem partFor_any (h l : List UInt8) (v : Int) (n : Nat) (w : World) (hv : 0 ≤ v ∧ v < 4) (hn : n ≤ 10000) (_hh : h.length ≤ 100000) (_hl : l.length ≤ 100000) :
    Calls Tryd.prog 16 #[.agg #[.string (bs h), .string (bs l), .int .i64 v], .int .i64 n] w (PtT h l v n w) := by
  have hu0 := uq_01 v 0
  have hu1 := uq_01 v 1
  have hu2 := uq_01 v 2
  have hu3 := uq_01 v 3
  have hs1 := bs_size h
  have hs2 := bs_size l
  have hwn : IntKind.i64.wrap (-(n : Int)) = -(n : Int) := by rw [IntKind.wrap_i64]; omega
  have hwm : wrap64 (-(n : Int)) = -(n : Int) := by unfold wrap64; omega
  obtain ⟨P, hP⟩ : ∃ P, ptP h l v n = P := ⟨_, rfl⟩
  have HPP := Lib.hid hP
  have HP := Lib.hid hP.symm
  unfold ptP at HP
  clear hP
  have hwa : (if v = 0 then (1 : Int) else 0) = uq v 0 := rfl
  have hwb : (if v = 1 then (1 : Int) else 0) = uq v 1 := rfl
  have hwc : (if v = 2 then (1 : Int) else 0) = uq v 2 := rfl
  have hwd : (if v = 3 then (1 : Int) else 0) = uq v 3 := rfl
  obtain ⟨a, ha⟩ : ∃ a, uq v 0 = a := ⟨_, rfl⟩
  obtain ⟨b, hb⟩ : ∃ a, uq v 1 = a := ⟨_, rfl⟩
  obtain ⟨c, hc⟩ : ∃ a, uq v 2 = a := ⟨_, rfl⟩
  obtain ⟨d, hd⟩ : ∃ a, uq v 3 = a := ⟨_, rfl⟩
  rw [ha, hb, hc, hd] at HP
  rw [ha] at hwa hu0
  rw [hb] at hwb hu1
  rw [hc] at hwc hu2
  rw [hd] at hwd hu3
  have hlt : decide ((n : Int) < (h.length : Nat)) = decide (n < h.length) := by rw [decide_eq_decide]; omega
  obtain ⟨hl', hhl⟩ : ∃ x, h.length = x := ⟨_, rfl⟩
  obtain ⟨ll, hll⟩ : ∃ x, l.length = x := ⟨_, rfl⟩
  rw [hhl] at hs1 HP hlt
  rw [hll] at hs2 HP
  obtain ⟨z, hz⟩ : ∃ z, -(n : Int) = z := ⟨_, rfl⟩
  rw [hz] at hwn hwm HP
  have htv : tvB a b c d z = true := by unfold tvB wlB; simp only [Bool.and_eq_true, decide_eq_true_eq]; omega
  have htv2 : tvB (-a) (-b) (-c) (-d) n = true := by unfold tvB wlB; simp only [Bool.and_eq_true, decide_eq_true_eq]; omega
  have hnz : z * -1 = n := by omega
  have hbd : (-100000000 ≤ a * -1 ∧ a * -1 ≤ 100000000) ∧ (-100000000 ≤ b * -1 ∧ b * -1 ≤ 100000000) ∧ (-100000000 ≤ c * -1 ∧ c * -1 ≤ 100000000) ∧ (-100000000 ≤ d * -1 ∧ d * -1 ≤ 100000000) ∧ (-100000000 ≤ z * -1 ∧ z * -1 ≤ 100000000) := by omega
  obtain ⟨a', ea⟩ : ∃ x, -a = x := ⟨_, rfl⟩
  obtain ⟨b', eb⟩ : ∃ x, -b = x := ⟨_, rfl⟩
  obtain ⟨c', ec⟩ : ∃ x, -c = x := ⟨_, rfl⟩
  obtain ⟨d', ed⟩ : ∃ x, -d = x := ⟨_, rfl⟩
  have ma : a * -1 = a' := by omega
  have mb : b * -1 = b' := by omega
  have mc : c * -1 = c' := by omega
  have md : d * -1 = d' := by omega
  rw [ea, eb, ec, ed] at HP htv2
  have HTV2 := Lib.hid htv2
  have HTV := Lib.hid htv
  have HM := Lib.hid (show ∀ x w, C5 w x a b c d z → Calls Tryd.prog 34 #[.slice (some ⟨x, 0, none⟩) 5 5, .int .i64 (-1)] w fun e w' => e = .returned (.slice (some ⟨w.heap.size, 0, none⟩) 5 5) ∧ w.alloc (.cells #[.int .i64 a', .int .i64 b', .int .i64 c', .int .i64 d', .int .i64 n] 3) = w' from fun x w hx => by
    have := times_of a b c d z (-1) x w hx hbd
    rw [ma, mb, mc, md, hnz] at this
    exact this)
  have HW := Lib.hid (show ∀ x w, C5 w x 0 0 0 0 z → Calls Tryd.prog 32 #[.slice (some ⟨x, 0, none⟩) 5 5, .int .i64 v, .int .i64 1] w fun e w' => e = .returned (.slice (some ⟨w.heap.size, 0, none⟩) 5 5) ∧ w.alloc (.cells #[.int .i64 a, .int .i64 b, .int .i64 c, .int .i64 d, .int .i64 z] 3) = w' from fun x w hx => by
    have := with_any 0 0 0 0 z v 1 x w hx.1 hx.2.1 hx.2.2.1 hx.2.2.2.1 hx.2.2.2.2.1 hx.2.2.2.2.2 hv.1 hv.2
    rw [hwa, hwb, hwc, hwd] at this
    exact this)
  clear ha hb hc hd hwa hwb hwc hwd hu0 hu1 hu2 hu3 htv htv2 hnz hbd ea eb ec ed ma mb mc md hhl hll _hh _hl hv
  go_enter Tryd.func16, Tryd.ntmps16
  go_upto_region 1 with fail
  generalize hW : World.alloc w _ = W
  obtain ⟨hx, hsx, hwx⟩ := s3_new hW
  clear hW
  generalize hW : World.alloc W _ = W2
  have hzz : C10 W2 W.heap.size ⟨0, 0, 0, 0, 0, 0, 0, 0, 0⟩ (.slice none 0 0) := by subst hW; exact (by refine ⟨?_, ?_, ?_, ?_, ?_, ?_, ?_, ?_, ?_, ?_, ?_⟩ <;> first | (simp [go_sem]; done) | (simp; omega))
  have fz : ∀ o, W2.frozen? ⟨W.heap.size, o, none⟩ = false := by intro o; subst hW; simp [go_sem]
  have hwz : Below W.heap.size W W2 := by subst hW; go_grown
  rw [hsx] at hzz fz
  have hx2 := s3_on hx hwz
  have hb2 := below_on hwx hwz
  obtain ⟨bz, hbz⟩ : ∃ bz, bz = w.heap.size + 1 := ⟨_, rfl⟩
  have hz0 := hzz.1
  (try rw [hsx])
  rw [← hbz]
  rw [← hbz] at hzz fz hz0
  have hwbz : w.heap.size < bz := by omega
  clear hW hx hwx hwz hsx hbz
  refine wp_region_held_drew (S := (fun w' => w'.cell? ⟨w.heap.size, 2, none⟩ = some (.int .i64 v))) (by kernel_rfl) ?_ (fun hHeld => ?_)
  · try dsimp only
    (refine (s3_on hx2 ?_).2.2.2.1; go_grown; done)
  refine wpAnyH_take (i := 0) (oi := { dst := some 12, op := Go.Op.move (Go.Operand.tmp 1), type := 3, pos := "l8_onevar.go:18", after := #[], guard := none }) (v := ?_) rfl (by kernel_rfl) (by kernel_rfl) (by kernel_rfl) (fun _ _ _ h => h) (Or.inl ⟨by rfl, ?_⟩) (by assumption) ?_
  rotate_left
  · (intro w hSw; (try dsimp only at hSw); first | (go_simp; done) | (go_simp; with_reducible rfl))
  try simp only [Act.put, List.setIfInBounds_toArray, List.set_cons_zero, List.set_cons_succ]
  refine wpAnyH_take (i := 1) (oi := { dst := some 13, op := Go.Op.unOp Go.UnOp.neg 3 (Go.Operand.tmp 12), type := 3, pos := "l8_onevar.go:18", after := #[{ on := 0, ground := Go.Ground.data }], guard := none }) (v := ?_) rfl (by kernel_rfl) (by kernel_rfl) (by kernel_rfl) (fun _ _ _ h => h) (Or.inl ⟨by rfl, ?_⟩) (by assumption) ?_
  rotate_left
  · (intro w hSw; (try dsimp only at hSw); first | (go_simp; done) | (go_simp; with_reducible rfl))
  try simp only [Act.put, List.setIfInBounds_toArray, List.set_cons_zero, List.set_cons_succ]
  refine wpAnyH_take (i := 2) (oi := { dst := some 14, op := Go.Op.build 26 #[(4, Go.Operand.tmp 13)], type := 26, pos := "l8_onevar.go:18", after := #[{ on := 1, ground := Go.Ground.data }], guard := none }) (v := ?_) rfl (by kernel_rfl) (by kernel_rfl) (by kernel_rfl) (fun _ _ _ h => h) (Or.inl ⟨by rfl, ?_⟩) (by assumption) ?_
  rotate_left
  · (intro w hSw; (try dsimp only at hSw); first | (go_simp; done) | (go_simp; with_reducible rfl))
  try simp only [Act.put, List.setIfInBounds_toArray, List.set_cons_zero, List.set_cons_succ]
  refine wpAnyH_take (i := 4) (oi := { dst := some 16, op := Go.Op.fieldAddr 43 (Go.Operand.tmp 2) 1, type := 0, pos := "l8_onevar.go:18", after := #[], guard := none }) (v := ?_) rfl (by kernel_rfl) (by kernel_rfl) (by kernel_rfl) (fun _ _ _ h => h) (Or.inl ⟨by rfl, ?_⟩) (by assumption) ?_
  rotate_left
  · (intro w hSw; (try dsimp only at hSw); first | (go_simp; done) | (go_simp; with_reducible rfl))
  try simp only [Act.put, List.setIfInBounds_toArray, List.set_cons_zero, List.set_cons_succ]
  refine wpAnyH_take (i := 5) (oi := { dst := some 17, op := Go.Op.load 3 (Go.Operand.tmp 16), type := 3, pos := "l8_onevar.go:18", after := #[{ on := 4, ground := Go.Ground.data }], guard := none }) (v := ?_) rfl (by kernel_rfl) (by kernel_rfl) (by kernel_rfl) (fun _ _ _ h => h) (Or.inl ⟨by rfl, ?_⟩) (by assumption) ?_
  rotate_left
  · (intro w hSw; (try dsimp only at hSw); first | (go_simp; done) | (go_simp; with_reducible rfl))
  try simp only [Act.put, List.setIfInBounds_toArray, List.set_cons_zero, List.set_cons_succ]
  refine wpAnyH_ready (rs := [3]) (by kernel_rfl) (by simp) ?_
  refine AllReadyH.cons (o := { dst := some 15, op := Go.Op.call { callee := Go.Callee.value (Go.Operand.func 31), args := #[Go.Operand.tmp 14], argTypes := #[26] }, type := 56, pos := "l8_onevar.go:18", after := #[{ on := 2, ground := Go.Ground.data }], guard := none }) rfl (fun K hK => ?_) AllReadyH.nil
  go_simp
  (go_at_call 31; refine (multiples_any 0 0 0 0 z _).mono ?_; rintro e w4 ⟨rfl, hw4⟩; obtain ⟨hc4, hb4'⟩ := c5_mult hw4; have hb4 := below_on (w := W2) (by go_grown) hb4'; clear hw4 hb4')
  (try go_wp2_with fail)
  refine hK.out _ _ ?_ (fun hHeld => ?_)
  · try dsimp only
    (refine (s3_on hx2 ?_).2.2.2.1; go_grown; done)
  clear hK K
  try simp only [Act.put, List.setIfInBounds_toArray, List.set_cons_zero, List.set_cons_succ]
  refine wpAnyH_ready (rs := [6]) (by kernel_rfl) (by simp) ?_
  refine AllReadyH.cons (o := { dst := some 18, op := Go.Op.call { callee := Go.Callee.value (Go.Operand.func 32), args := #[Go.Operand.tmp 15, Go.Operand.tmp 17, Go.Operand.const (Go.Value.int Go.IntKind.i64 1)], argTypes := #[56, 3, 3] }, type := 56, pos := "l8_onevar.go:18", after := #[{ on := 3, ground := Go.Ground.data }, { on := 5, ground := Go.Ground.data }, { on := 3, ground := Go.Ground.chain }], guard := none }) rfl (fun K hK => ?_) AllReadyH.nil
  go_simp
  (go_at_call 32; refine (HW.out _ _ hc4).mono ?_; rintro e w5 ⟨rfl, hw5⟩; obtain ⟨hc5, fc5, hb5', hs5⟩ := c5_alloc hw5; have hb5 := below_on hb4 hb5'; clear hw5)
  (try go_wp2_with fail)
  refine hK.out _ _ ?_ (fun hHeld => ?_)
  · try dsimp only
    (refine (s3_on hx2 ?_).2.2.2.1; go_grown; done)
  clear hK K
  try simp only [Act.put, List.setIfInBounds_toArray, List.set_cons_zero, List.set_cons_succ]
  refine wpAnyH_take (i := 7) (oi := { dst := some 5, op := Go.Op.assign (Go.Operand.tmp 18), type := 56, pos := "l8_onevar.go:18", after := #[{ on := 6, ground := Go.Ground.data }, { on := 6, ground := Go.Ground.chain }, { on := 0, ground := Go.Ground.phase }, { on := 1, ground := Go.Ground.phase }, { on := 2, ground := Go.Ground.phase }, { on := 3, ground := Go.Ground.phase }, { on := 4, ground := Go.Ground.phase }, { on := 5, ground := Go.Ground.phase }, { on := 6, ground := Go.Ground.phase }], guard := none }) (v := ?_) rfl (by kernel_rfl) (by kernel_rfl) (by kernel_rfl) (fun _ _ _ h => h) (Or.inl ⟨by rfl, ?_⟩) (by assumption) ?_
  rotate_left
  · (intro w hSw; (try dsimp only at hSw); first | (go_simp; done) | (go_simp; with_reducible rfl))
  try simp only [Act.put, List.setIfInBounds_toArray, List.set_cons_zero, List.set_cons_succ]
  refine wpAnyH_done (by kernel_rfl) ?_ _
  clear hHeld hc4 fc5 hb5' hs5
  have hx5 := s3_on hx2 hb5
  have hz5 := c10_on hzz hb5
  have fz5 := fz_onk hb5 hzz.1 fz
  have k5 := below_on hb2 hb5
  have hm5 := hb5.size
  clear hx2 hzz fz hb2 hb4 hb5
  go_wp2_with fail
  refine (term_ok a b c d z _ _ hc5 HTV.out).mono ?_
  rintro e w6 ⟨rfl, hb6⟩
  have hx6 := s3_on hx5 hb6
  have hz6 := c10_on hz5 hb6
  have fz6 := fz_onk hb6 hz5.1 fz5
  have k6 := below_on k5 hb6
  have hc6 := c5_on hc5 hb6
  have hm6 := hb6.size
  clear hx5 hz5 fz5 k5 hc5 hb6
  go_upto_region 3 with fail
  generalize hW : World.alloc w6 _ = W7
  obtain ⟨ht, ft, hb7, hs7⟩ := c5_alloc hW
  have hx7 := s3_on hx6 hb7
  have hz7 := c10_on hz6 hb7
  have fz7 := fz_onk hb7 hz6.1 fz6
  have k7 := below_on k6 hb7
  have hc7 := c5_on hc6 hb7
  clear hs7 hW hx6 hz6 fz6 k6 hc6 hb7 ft
  obtain ⟨x0, x1, x2, x3, x4⟩ := id hx7
  by_cases hnl : n < hl'
  · have hd1 : decide (n < hl') = true := decide_eq_true hnl
    rw [hd1] at hlt
    have hli : (n : Int) < (hl' : Int) := by omega
    rw [if_pos hnl] at HP
    obtain ⟨t0, t1, t2, t3, t4, t5⟩ := id ht
    obtain ⟨z0, e0, e1, e2, e3, e4, e5, e6, e7, e8, e9⟩ := id hz7
    go_wp2
    generalize hW9 : World.setCell _ _ _ = W9
    obtain ⟨hz9, _, _, _⟩ := ten_set (g := ⟨2, 1, 0, a, b, c, d, z, 0⟩) hz7 hW9
    have hw9 : Below w.heap.size w W9 := by subst hW9; go_grown
    obtain ⟨y0, y1, y2, y3, y4, y5, y6, y7, y8, y9, y10⟩ := hz9
    refine bodyPost_ret (v := .agg #[.int .i64 2, .int .i64 1, .int .i64 0, .int .i64 a, .int .i64 b, .int .i64 c, .int .i64 d, .int .i64 z, .int .i64 0, .slice none 0 0]) (by simp [results, Tryd.results16, go_sem, y1, y2, y3, y4, y5, y6, y7, y8, y9, y10]) rfl ?_
    show PtT _ _ _ _ _ _ _
    unfold PtT
    rw [HPP.out, HP.out]
    exact ⟨_, rfl, fs_nil _ _, hw9⟩
  · have hd1 : decide (n < hl') = false := decide_eq_false hnl
    rw [hd1] at hlt
    have hli : ¬ (n : Int) < (hl' : Int) := by omega
    rw [if_neg hnl] at HP
    go_wp2_with fail
    refine (HM.out _ _ hc7).mono ?_
    rintro e w8 ⟨rfl, hw8⟩
    obtain ⟨hc8, _, hb8, hs8⟩ := c5_alloc hw8
    have hx8 := s3_on hx7 hb8
    have hz8 := c10_on hz7 hb8
    have fz8 := fz_onk hb8 hz7.1 fz7
    have k8 := below_on k7 hb8
    have ht8 := c5_on ht hb8
    clear hs8 hw8 hx7 hz7 fz7 k7 ht hc7 hb8 x0 x1 x2 x3 x4
    go_wp2_with fail
    refine (term_ok a' b' c' d' n _ _ hc8 HTV2.out).mono ?_
    rintro e w9 ⟨rfl, hb9⟩
    have hx9 := s3_on hx8 hb9
    have hz9 := c10_on hz8 hb9
    have fz9 := fz_onk hb9 hz8.1 fz8
    have k9 := below_on k8 hb9
    have ht9 := c5_on ht8 hb9
    have hm9 := hb9.size
    clear hx8 hz8 fz8 k8 ht8 hb9 hc8
    go_upto_region 6 with fail
    generalize hW : World.alloc w9 _ = W10
    obtain ⟨hu, fu, hb10, hs10⟩ := c5_alloc hW
    have hx10 := s3_on hx9 hb10
    have hz10 := c10_on hz9 hb10
    have fz10 := fz_onk hb10 hz9.1 fz9
    have k10 := below_on k9 hb10
    have ht10 := c5_on ht9 hb10
    clear hs10 hW fu hx9 hz9 fz9 k9 ht9 hb10
    obtain ⟨u0, u1, u2, u3, u4, u5⟩ := id hu
    go_upto_region 7 with fail
    generalize hW : World.alloc W10 _ = W11
    obtain ⟨hp, _, hb11, hs11⟩ := c10_alloc (h := ⟨2, 0, 0, a', b', c', d', n, 0⟩) (s := .slice none 0 0) hW ⟨_, _, _, rfl⟩
    have hx11 := s3_on hx10 hb11
    have hz11 := c10_on hz10 hb11
    have fz11 := fz_onk hb11 hz10.1 fz10
    have k11 := below_on k10 hb11
    have ht11 := c5_on ht10 hb11
    clear hs11 hW hx10 hz10 fz10 k10 ht10 hb11 u0 u1 u2 u3 u4 u5 hu
    obtain ⟨x0, x1, x2, x3, x4⟩ := id hx11
    obtain ⟨t0, t1, t2, t3, t4, t5⟩ := id ht11
    go_upto_region 8 with fail
    generalize hW : World.alloc W11 _ = W12
    obtain ⟨hq, _, hb12, hs12⟩ := c10_alloc (h := ⟨2, 2, (ll : Nat), a, b, c, d, z, 0⟩) (s := .slice none 0 0) hW ⟨_, _, _, rfl⟩
    have hp12 := c10_on hp hb12
    have hz12 := c10_on hz11 hb12
    have fz12 := fz_onk hb12 hz11.1 fz11
    have k12 := below_on k11 hb12
    clear hs12 hW hx11 hz11 fz11 k11 ht11 hb12 x0 x1 x2 x3 x4 t0 t1 t2 t3 t4 t5 hp
    obtain ⟨p0, p1, p2, p3, p4, p5, p6, p7, p8, p9, p10⟩ := id hp12
    obtain ⟨q0, q1, q2, q3, q4, q5, q6, q7, q8, q9, q10⟩ := id hq
    obtain ⟨z0, e0, e1, e2, e3, e4, e5, e6, e7, e8, e9⟩ := id hz12
    dsimp only at p1 p2 p3 p4 p5 p6 p7 p8 p9 p10 q1 q2 q3 q4 q5 q6 q7 q8 q9 q10
    clear hnl hd1 hlt hli hwn hwm HM HW HTV HTV2 z0 e0 e1 e2 e3 e4 e5 e6 e7 e8 e9
    obtain ⟨W13, hW⟩ : ∃ W13, World.alloc W12 (.cells #[.int .i64 2, .int .i64 0, .int .i64 0, .int .i64 a', .int .i64 b', .int .i64 c', .int .i64 d', .int .i64 n, .int .i64 0, .slice none 0 0, .int .i64 2, .int .i64 2, .int .i64 (ll : Nat), .int .i64 a, .int .i64 b, .int .i64 c, .int .i64 d, .int .i64 z, .int .i64 0, .slice none 0 0] 31) = W13 := ⟨_, rfl⟩
    have hrow1 : FRow W13 W12.heap.size 0 ⟨2, 0, 0, a', b', c', d', n, 0⟩ (.slice none 0 0) := by subst hW; refine ⟨?_, ?_, ?_, ?_, ?_, ?_, ?_, ?_, ?_, ?_⟩ <;> simp [go_sem]
    have hrow2 : FRow W13 W12.heap.size 10 ⟨2, 2, (ll : Nat), a, b, c, d, z, 0⟩ (.slice none 0 0) := by subst hW; refine ⟨?_, ?_, ?_, ?_, ?_, ?_, ?_, ?_, ?_, ?_⟩ <;> simp [go_sem]
    have hb13 : Below W12.heap.size W12 W13 := by subst hW; go_grown
    have hs13 : W12.heap.size < W13.heap.size := by subst hW; simp
    have hz13 := c10_on hz12 hb13
    have fz13 := fz_onk hb13 hz12.1 fz12
    have k13 := below_on k12 hb13
    have hbk := hz12.1
    have HR1 := Lib.hid hrow1
    have HR2 := Lib.hid hrow2
    obtain ⟨z0, e0, e1, e2, e3, e4, e5, e6, e7, e8, e9⟩ := id hz13
    clear hb13 k12 hrow1 hrow2 hz12 fz12
    go_wp2_with (rw [hW]; clear hW p0 p1 p2 p3 p4 p5 p6 p7 p8 p9 p10 q0 q1 q2 q3 q4 q5 q6 q7 q8 q9 q10 hp12 hq)
    generalize hW9 : World.setCell _ _ _ = W14
    obtain ⟨hz14, hk14, hs14, _⟩ := ten_set (g := ⟨4, 0, 0, 0, 0, 0, 0, 0, 0⟩) hz13 hW9
    have hw14 : Below w.heap.size w W14 := by subst hW9; go_grown
    have hcz : ∀ o, W14.cell? ⟨W12.heap.size, o, none⟩ = W13.cell? ⟨W12.heap.size, o, none⟩ := fun o => World.cell?_of_block (hk14 _ (by first | (show W12.heap.size ≠ _; omega) | (show ¬ W12.heap.size = _; omega) | (dsimp only; omega)))
    have hfs : FS W14 w.heap.size (.cons ⟨2, 0, 0, a', b', c', d', n, 0⟩ .nil (.cons ⟨2, 2, (ll : Nat), a, b, c, d, z, 0⟩ .nil .nil)) (.slice (some ⟨W12.heap.size, 0, none⟩) 2 2) :=
      .inr ⟨Nat.zero_lt_two, W12.heap.size, 0, 2, rfl, Nat.le_refl _, by decide, by omega, by omega, ⟨⟨.slice none 0 0, by simpa only [FRow, hcz] using HR1.out, fs_nil _ _⟩, ⟨.slice none 0 0, by simpa only [FRow, hcz] using HR2.out, fs_nil _ _⟩, trivial⟩⟩
    obtain ⟨y0, y1, y2, y3, y4, y5, y6, y7, y8, y9, y10⟩ := hz14
    refine bodyPost_ret (v := .agg #[.int .i64 4, .int .i64 0, .int .i64 0, .int .i64 0, .int .i64 0, .int .i64 0, .int .i64 0, .int .i64 0, .int .i64 0, .slice (some ⟨W12.heap.size, 0, none⟩) 2 2]) (by simp [results, Tryd.results16, go_sem, y1, y2, y3, y4, y5, y6, y7, y8, y9, y10]) rfl ?_
    show PtT _ _ _ _ _ _ _
    unfold PtT
    rw [HPP.out, HP.out]
    exact ⟨_, rfl, hfs, hw14⟩
end Go.Proofs.YtmkflokcficmoaaDoor

/- The program's FormulaOfSet. -/
namespace Go.Proofs.YtmkflokcficmoaaDoor
open Go.RowKit

theorem rdn_low' {W W' : World} {B C : Nat} {g : Nat} {L : List Nat} (h : RdN W B (some ⟨g, 0, none⟩) L) (hb : Below C W W') (hg : g < C) : RdN W' B (some ⟨g, 0, none⟩) L := by
  rcases h with h0 | ⟨g', e, hB, hg', hc⟩
  · exact .inl h0
  · injection e with e
    injection e with e
    subst e
    exact .inr ⟨g, rfl, hB, Nat.lt_of_lt_of_le hg' hb.size, fun i x hx => (World.cell?_of_block (hb.block g hg)).trans (hc i x hx)⟩

/-- The program's answer: the formula's lists lie in blocks of their own. -/
def FsI (q : FH × Fo) (b : Bool) (w : World) (e : Ending) (w' : World) : Prop := ∃ s, e = .returned (.tuple #[.agg #[.int .i64 q.1.k, .int .i64 q.1.ak, .int .i64 q.1.am, .int .i64 q.1.a, .int .i64 q.1.b, .int .i64 q.1.c, .int .i64 q.1.d, .int .i64 q.1.n, .int .i64 q.1.v, s], .bool b]) ∧ SF w' w.heap.size w'.heap.size q.2 s ∧ Below w.heap.size w w'

set_option maxRecDepth 10000 in
set_option maxHeartbeats 4000000 in
theorem FormulaOfSet_any (h l : List UInt8) (v : Int) (w : World) (hh : h.length ≤ 1000000000) (hl : l.length ≤ 1000000000) :
    Calls Tryd.prog 7 #[.agg #[.string (bs h), .string (bs l)], .int .i64 v] w (FsI (fsR h l v) (fsB h l v) w) := by
  have HV := Lib.hid fun w => SetValid_any h l w hh hl
  have HX := Lib.hid fun w => isVar_any v w
  obtain ⟨p, hp⟩ : ∃ p, svS h l = p := ⟨_, rfl⟩
  obtain ⟨q, hq⟩ : ∃ q, varB v = q := ⟨_, rfl⟩
  rw [hp] at HV
  rw [hq] at HX
  have HP := Lib.hid hp
  have HQ := Lib.hid hq
  have hs1 := bs_size h
  have hs2 := bs_size l
  clear hp hq
  go_enter Tryd.func7, Tryd.ntmps7
  go_wp2_with fail
  generalize hW : World.alloc w _ = W
  obtain ⟨hx, hsx, hwx⟩ := s2_new hW
  clear hW
  generalize hW : World.alloc W _ = W2
  have hzz : C10 W2 W.heap.size ⟨0, 0, 0, 0, 0, 0, 0, 0, 0⟩ (.slice none 0 0) := by subst hW; exact (by refine ⟨?_, ?_, ?_, ?_, ?_, ?_, ?_, ?_, ?_, ?_, ?_⟩ <;> first | (simp [go_sem]; done) | (simp; omega))
  have fz : ∀ o, W2.frozen? ⟨W.heap.size, o, none⟩ = false := by intro o; subst hW; simp [go_sem]
  have hwz : Below W.heap.size W W2 := by subst hW; go_grown
  rw [hsx] at hzz fz
  have hx2 := s2_on hx hwz
  have hb2 := below_on hwx hwz
  have hz0 := hzz.1
  clear hW hx hwx hwz hsx
  refine (HV.out _).mono ?_
  rintro e w4 ⟨rfl, hb4⟩
  have hx4 := s2_on hx2 hb4
  have hz4 := c10_on hzz hb4
  have fz4 := fz_onk hb4 hzz.1 fz
  have k4 := below_on hb2 hb4
  clear hx2 hzz fz hb2 hb4
  cases p with
  | false =>
    obtain ⟨z0, e0, e1, e2, e3, e4, e5, e6, e7, e8, e9⟩ := id hz4
    go_wp2
    generalize hW7 : World.setCell _ _ _ = W7
    obtain ⟨hz7, _, _, _⟩ := ten_set (g := ⟨0, 0, 0, 0, 0, 0, 0, 0, 0⟩) hz4 hW7
    have hw7 : Below w.heap.size w W7 := by subst hW7; go_grown
    obtain ⟨y0, y1, y2, y3, y4, y5, y6, y7, y8, y9, y10⟩ := hz7
    have hr : fsR h l v = (⟨0, 0, 0, 0, 0, 0, 0, 0, 0⟩, .nil) := by unfold fsR fsQ; rw [HP.out, HQ.out]; rfl
    have hbb : fsB h l v = false := by unfold fsB fsQ; rw [HP.out, HQ.out]; rfl
    refine bodyPost_ret (v := .tuple #[.agg #[.int .i64 0, .int .i64 0, .int .i64 0, .int .i64 0, .int .i64 0, .int .i64 0, .int .i64 0, .int .i64 0, .int .i64 0, .slice none 0 0], .bool false]) (by simp [results, Tryd.results7, go_sem, y1, y2, y3, y4, y5, y6, y7, y8, y9, y10]) rfl ?_
    show FsI _ _ _ _ _
    unfold FsI
    rw [hr, hbb]
    exact ⟨_, rfl, sf_none _ _ _, hw7⟩
  | true =>
    go_wp2_with fail
    refine (HX.out _).mono ?_
    rintro e w' ⟨rfl, rfl⟩
    cases q with
    | false =>
      obtain ⟨z0, e0, e1, e2, e3, e4, e5, e6, e7, e8, e9⟩ := id hz4
      go_wp2
      generalize hW7 : World.setCell _ _ _ = W7
      obtain ⟨hz7, _, _, _⟩ := ten_set (g := ⟨0, 0, 0, 0, 0, 0, 0, 0, 0⟩) hz4 hW7
      have hw7 : Below w.heap.size w W7 := by subst hW7; go_grown
      obtain ⟨y0, y1, y2, y3, y4, y5, y6, y7, y8, y9, y10⟩ := hz7
      have hr : fsR h l v = (⟨0, 0, 0, 0, 0, 0, 0, 0, 0⟩, .nil) := by unfold fsR fsQ; rw [HP.out, HQ.out]; rfl
      have hbb : fsB h l v = false := by unfold fsB fsQ; rw [HP.out, HQ.out]; rfl
      refine bodyPost_ret (v := .tuple #[.agg #[.int .i64 0, .int .i64 0, .int .i64 0, .int .i64 0, .int .i64 0, .int .i64 0, .int .i64 0, .int .i64 0, .int .i64 0, .slice none 0 0], .bool false]) (by simp [results, Tryd.results7, go_sem, y1, y2, y3, y4, y5, y6, y7, y8, y9, y10]) rfl ?_
      show FsI _ _ _ _ _
      unfold FsI
      rw [hr, hbb]
      exact ⟨_, rfl, sf_none _ _ _, hw7⟩
    | true =>
      obtain ⟨_, _, v3, v5, v4, v6⟩ := svS_parts HP.out
      have hvv : 0 ≤ v ∧ v < 4 := by have := HQ.out; unfold varB at this; simpa using this
      have HPF := Lib.hid fun (n : Nat) (w : World) (hn : n ≤ 10000) => partFor_any h l v n w hvv hn (by omega) (by omega)
      obtain ⟨N, hN⟩ : ∃ N, h.length + l.length = N := ⟨_, rfl⟩
      have HBL := Lib.hid fun w => below_any h l N w v6 hh hl (by omega)
      have HN := Lib.hid hN
      have hLm : ∀ (i : Nat) x, (blN (atS h l) N)[i]? = some x → x < N := fun i x hi => (bl_mem.1 (List.mem_of_getElem? hi)).1
      have hLl := bl_len (atS h l) N
      obtain ⟨L, hL⟩ : ∃ L, blN (atS h l) N = L := ⟨_, rfl⟩
      rw [hL] at HBL hLm hLl
      have HLL : Hid (fsL h l v = ptL h l v L) := Lib.hid (by unfold fsL; rw [HN.out, hL])
      have HLM := Lib.hid hLm
      obtain ⟨hl', hhl⟩ : ∃ x, h.length = x := ⟨_, rfl⟩
      obtain ⟨ll, hll⟩ : ∃ x, l.length = x := ⟨_, rfl⟩
      rw [hhl] at hs1 v3 hN
      rw [hll] at hs2 v5 v4 hN
      have hwN : IntKind.i64.wrap ((hl' : Int) + (ll : Int)) = (N : Int) := by rw [IntKind.wrap_i64]; omega
      have hNb : N ≤ 640 := by omega
      clear hhl hll hN hvv v6 hL hLm
      obtain ⟨x0, x1, x2, x3⟩ := id hx4
      go_upto_region 4 with fail
      generalize hW : World.alloc w4 _ = W5
      obtain ⟨hy, hsy, hb5⟩ := s3_new hW
      have hz5 := c10_on hz4 hb5
      have fz5 := fz_onk hb5 hz4.1 fz4
      have k5 := below_on k4 hb5
      have hm5 := hb5.size
      clear hW hsy hz4 fz4 k4 hb5 hx4 x0 x1 x2 x3
      obtain ⟨y0, y1, y2, y3, y4⟩ := id hy
      go_wp2_with fail
      refine (HBL.out _).mono ?_
      rintro e w6 ⟨vl, rfl, hol, hb6⟩
      obtain ⟨gp, gcap, rfl, _, _, hrd⟩ := own_rd hol
      have hy6 := s3_on hy hb6
      have hz6 := c10_on hz5 hb6
      have fz6 := fz_onk hb6 hz5.1 fz5
      have k6 := below_on k5 hb6
      have hm6 := hb6.size
      obtain ⟨M, hM⟩ : ∃ M, L.length = M := ⟨_, rfl⟩
      have HM := Lib.hid hM
      rw [hM] at hLl ⊢
      have HST := Lib.hid (show FOwn w6 w6.heap.size w6.heap.size (.slice none 0 0) (ptL h l v (L.take 0)) from fown_nil _ _ _)
      clear hol hy hz5 fz5 k5 hb6 y0 y1 y2 y3 y4 hM
      have hyl := hy6.1
      have hm6r : W5.heap.size ≤ w6.heap.size := hm6
      have k6s := k6.size
      have hzl := hz6.1
      go_wp2_with fail
      go_loopw [7, 35] (fun lv i wr => ∃ k : Nat, i = .int .i64 k ∧ k ≤ M ∧ FOwn wr w6.heap.size w6.heap.size lv (ptL h l v (L.take k)) ∧ (RdN wr W5.heap.size gp L ∧ ∀ g, gp = some ⟨g, 0, none⟩ → 0 < L.length → g < w6.heap.size) ∧ S3 wr w4.heap.size (bs h) (bs l) v ∧ C10 wr (w.heap.size + 1) ⟨0, 0, 0, 0, 0, 0, 0, 0, 0⟩ (.slice none 0 0) ∧ (∀ o, wr.frozen? ⟨w.heap.size + 1, o, none⟩ = false) ∧ Below w.heap.size w wr ∧ Below w6.heap.size w6 wr) (fun _ i _ => M - (intOf i).toNat)
      case atStart => exact ⟨0, rfl, Nat.zero_le _, HST.out, ⟨hrd, fun g e h0 => by
        subst e
        rcases hrd with h1 | ⟨g', e', _, hg, _⟩
        · omega
        · injection e' with e'; injection e' with e'; omega⟩, hy6, hz6, fz6, k6, Below.refl _ _⟩
      case round =>
        obtain ⟨k, rfl, hk, hown, hrd, hy, hz, fz, hb, hB⟩ := hrel
        clear hy6 hz6 fz6 k6
        by_cases hlt : k < M
        · have hk' : (k : Int) < (M : Int) := by omega
          have hwk : IntKind.i64.wrap ((k : Int) + 1) = ((k + 1 : Nat) : Int) := by rw [IntKind.wrap_i64]; omega
          obtain ⟨x, hx⟩ : ∃ x, L[k]? = some x := ⟨_, List.getElem?_eq_getElem (by rw [HM.out]; exact hlt)⟩
          have hxN := HLM.out k x hx
          have htk : Hid (L.take (k + 1) = L.take k ++ [x]) := Lib.hid (by
            obtain ⟨g1, g2⟩ := List.getElem?_eq_some_iff.1 hx
            rw [List.take_succ_eq_append_getElem g1, g2])
          have hll' : (ptL h l v (L.take k)).len ≤ 1000 := by rw [ptL_len, List.length_take]; omega
          obtain ⟨hrd, hgl⟩ := hrd
          rcases hrd with h0 | ⟨g, rfl, hg1, hg2, hgc⟩
          · exact absurd h0 (by rw [HM.out]; omega)
          · have hcell := hgc k x hx
            have HRD := Lib.hid (show RdN wr W5.heap.size (some ⟨g, 0, none⟩) L from .inr ⟨g, rfl, hg1, hg2, hgc⟩)
            have HGL := Lib.hid (hgl g rfl (by rw [HM.out]; omega))
            have HGL2 := Lib.hid hgl
            obtain ⟨y0, y1, y2, y3, y4⟩ := id hy
            clear hgc hx hgl
            go_wp2_with fail
            refine (HPF.out x _ (by omega)).mono ?_
            rintro e w7 ⟨s7, rfl, hs7, hb7⟩
            obtain ⟨sa, sn, sc, rfl⟩ := hs7.slice
            obtain ⟨v8, w8, hr8, ho8, hb8⟩ := fown_app (ptP h l v x).1 (ptP h l v x).2 sa sn sc hown (by omega) (by have := hB.size; have := hb7.size; omega) hb7 (pt_fsp hs7 hB.size (Nat.le_refl _))
            rw [← ptL_snoc, ← htk.out] at ho8
            obtain ⟨pq, hpq⟩ : ∃ pq, ptP h l v x = pq := ⟨_, rfl⟩
            rw [hpq] at hr8 ⊢
            have HRUN := Lib.hid hr8
            have HOW := Lib.hid ho8
            obtain ⟨ga, gc, rfl⟩ := fown_slice hown
            have hw6r := hB.size
            have hr7 := hb7.size
            have HRD7 := Lib.hid (rdn_low' (rdn_on HRD.out hb7) hb8 HGL.out)
            have hy8 := s3_low (s3_on hy hb7) hb8 (by omega)
            have hz8 := c10_low (c10_on hz hb7) hb8 (by omega)
            have fz8 := fz_low hb8 (by omega) (fz_onk hb7 hz.1 fz)
            have k8 := (below_on hb hb7).trans (hb8.mono (by have := k6s; omega))
            have B8 := (below_on hB hb7).trans hb8
            clear hr8 ho8 hown hy hz fz hb hB hs7 hpq y0 y1 y2 y3 y4 hb7 hb8 htk hcell
            go_wp2_with (at_builtin; refine wpList_append_run rfl _ _ 29 rfl rfl rfl HRUN.out ?_)
            go_roundw
            case rel => exact ⟨k + 1, rfl, by omega, HOW.out, ⟨HRD7.out, HGL2.out⟩, hy8, hz8, fz8, k8, B8⟩
            case measure => simp [intOf]; omega
        · have hk' : ¬ (k : Int) < (M : Int) := by omega
          obtain rfl : k = M := by omega
          have htk : L.take k = L := by rw [← HM.out, List.take_length]
          rw [htk] at hown
          have HJ := Lib.hid (JoinAny_any (ptL h l v L) wr w6.heap.size _ (fown_fs hown (Nat.le_refl _)))
          obtain ⟨ga, gc, rfl⟩ := fown_slice hown
          have hlen : (ptL h l v L).len ≤ 1000 := by rw [ptL_len, HM.out]; omega
          rw [← HLL.out] at HJ hlen ⊢
          obtain ⟨n, hn⟩ : ∃ n, (fsL h l v).len = n := ⟨_, rfl⟩
          rw [hn] at HJ hlen ⊢
          clear hown hn htk hrd hy
          go_wp2_with fail
          refine HJ.out.mono ?_
          intro e w7 hpost
          obtain ⟨s7, rfl, hs7', hb7⟩ := jf_of hpost
          have hs7 := SF.fs (Nat.le_refl _) hs7'
          obtain ⟨ta, tn, tc, rfl⟩ := hs7.slice
          have HS7 := Lib.hid hs7'
          have hz7 := c10_on hz hb7
          have fz7 := fz_onk hb7 hz.1 fz
          have k7 := below_on hb hb7
          obtain ⟨z0, e0, e1, e2, e3, e4, e5, e6, e7, e8, e9⟩ := id hz7
          have hzlt := hz.1
          have hRR : Hid (fsR h l v = jR false (fsL h l v)) := Lib.hid (by unfold fsR fsQ; rw [HP.out, HQ.out]; rfl)
          have hBB : Hid (fsB h l v = jB false (fsL h l v)) := Lib.hid (by unfold fsB fsQ; rw [HP.out, HQ.out]; rfl)
          obtain ⟨r, hr⟩ : ∃ r, jR false (fsL h l v) = r := ⟨_, rfl⟩
          obtain ⟨bj, hbj⟩ : ∃ b, jB false (fsL h l v) = b := ⟨_, rfl⟩
          have HRr := Lib.hid hr
          have HBj := Lib.hid hbj
          rw [hr] at HS7 ⊢
          rw [hbj]
          clear hs7 hs7' hpost hb7 hz fz hb hr hbj hB
          go_wp2
          generalize hW9 : World.setCell _ _ _ = W9
          obtain ⟨hz9, hk9, hs9, _⟩ := ten_set (g := r.1) hz7 hW9
          have hw9 : Below w.heap.size w W9 := by subst hW9; go_grown
          have HS9 := Lib.hid (SF.mono (lo' := w.heap.size) (hi' := W9.heap.size) (by omega) (Nat.le_of_eq hs9.symm) (SF.same (w' := W9) (fun k hk _ => hk9 k (by omega)) HS7.out))
          obtain ⟨q0, q1, q2, q3, q4, q5, q6, q7, q8, q9, q10⟩ := hz9
          refine bodyPost_ret (v := .tuple #[.agg #[.int .i64 r.1.k, .int .i64 r.1.ak, .int .i64 r.1.am, .int .i64 r.1.a, .int .i64 r.1.b, .int .i64 r.1.c, .int .i64 r.1.d, .int .i64 r.1.n, .int .i64 r.1.v, .slice ta tn tc], .bool bj]) (by simp [results, Tryd.results7, go_sem, q1, q2, q3, q4, q5, q6, q7, q8, q9, q10]) rfl ?_
          show FsI _ _ _ _ _
          unfold FsI
          rw [hRR.out, hBB.out, HRr.out, HBj.out]
          exact ⟨_, rfl, HS9.out, hw9⟩
end Go.Proofs.YtmkflokcficmoaaDoor

/- The model's FormulaOfSet. -/
namespace Go.Proofs.YtmkflokcficmoaaDoor
open Go.RowKit

set_option maxRecDepth 10000 in
set_option maxHeartbeats 2000000 in
theorem specFormulaOfSet_any (h l : List UInt8) (v : Int) (w : World) (hh : h.length ≤ 1000000000) (hl : l.length ≤ 1000000000) :
    Calls Tryd.prog 5 #[.agg #[.string (bs h), .string (bs l)], .int .i64 v] w (FsT (fsR h l v) (fsB h l v) w) := by
  have HC := Lib.hid fun w => l8Raw_any h l v w hh hl
  have hsz := fsR_size h l v
  obtain ⟨q, hq⟩ : ∃ q, fsR h l v = q := ⟨_, rfl⟩
  obtain ⟨b, hb⟩ : ∃ b, fsB h l v = b := ⟨_, rfl⟩
  rw [hq] at HC hsz ⊢
  rw [hb] at HC ⊢
  clear hq hb
  go_enter Tryd.func5, Tryd.ntmps5
  go_wp2_with fail
  generalize hW : World.alloc w _ = W
  obtain ⟨hx, hsx, hwx⟩ := s2_new hW
  clear hW
  generalize hW : World.alloc W _ = W2
  have hzz : C10 W2 W.heap.size ⟨0, 0, 0, 0, 0, 0, 0, 0, 0⟩ (.slice none 0 0) := by subst hW; exact (by refine ⟨?_, ?_, ?_, ?_, ?_, ?_, ?_, ?_, ?_, ?_, ?_⟩ <;> first | (simp [go_sem]; done) | (simp; omega))
  have fz : ∀ o, W2.frozen? ⟨W.heap.size, o, none⟩ = false := by intro o; subst hW; simp [go_sem]
  have hwz : Below W.heap.size W W2 := by subst hW; go_grown
  rw [hsx] at hzz fz
  have hw2 := below_on hwx hwz
  clear hW hx hwx hwz hsx
  refine (HC.out _).mono ?_
  intro e w3 hpost
  unfold FsT at hpost
  obtain ⟨s3, rfl, hs3, hb3⟩ := hpost
  obtain ⟨ta, tn, tc, rfl⟩ := hs3.slice
  have HS3 := Lib.hid hs3
  have hsz2 : q.2.size ≤ 1048576 := by omega
  have HO := Lib.hid (fun V hV => olF_any q.1 q.2 V W2.heap.size _ hsz2 (FS.below (w := w3) hV (Nat.le_refl _) HS3.out))
  clear hs3 hsz hsz2
  have hx3 := c10_on hzz hb3
  have hf3 := fz_onk hb3 hzz.1 fz
  have hw3 := below_on hw2 hb3
  clear hb3 hzz fz hw2
  go_wp2_with fail
  generalize hV : World.alloc _ _ = V
  have hbV : Below w3.heap.size w3 V := by subst hV; go_grown
  clear hV
  refine (HO.out V hbV).mono ?_
  rintro e w4 ⟨s4, rfl, hs4, hb4⟩
  obtain ⟨a4, n4, c4, rfl⟩ := hs4.slice
  have HS4 := Lib.hid (SF.fs (Nat.le_refl _) hs4)
  have hb34 := below_on hbV hb4
  have hx4 := c10_on hx3 hb34
  have hf4 := fz_onk hb34 hx3.1 hf3
  have hw4 := below_on hw3 hb34
  have hwV : w.heap.size + 1 < V.heap.size := Nat.lt_of_lt_of_le hx3.1 hbV.size
  obtain ⟨x0, c0, c1, c2, c3, c4', c5, c6, c7, c8, c9⟩ := id hx4
  clear hs4 hb4 hb34 hbV hx3 hf3 hw3
  go_upto_region 20 with fail
  generalize hW7 : World.setCell _ _ _ = W7
  obtain ⟨hx7, hk7, hs7, _⟩ := ten_set (g := q.1) hx4 hW7
  have hw7 : Below w.heap.size w W7 := by subst hW7; go_grown
  have HS7 := Lib.hid (FS.mono (lo' := w.heap.size) (by omega) (FS.kept (w' := W7) (Nat.le_of_eq hs7.symm) (fun k hk _ => hk7 k (by omega)) HS4.out))
  obtain ⟨z0, k0, k1, k2, k3, k4, k5, k6, k7, k8, k9⟩ := hx7
  clear hW7 hk7 hs7 x0 c0 c1 c2 c3 c4' c5 c6 c7 c8 c9
  go_wp2
  refine bodyPost_ret (v := .tuple #[.agg #[.int .i64 q.1.k, .int .i64 q.1.ak, .int .i64 q.1.am, .int .i64 q.1.a, .int .i64 q.1.b, .int .i64 q.1.c, .int .i64 q.1.d, .int .i64 q.1.n, .int .i64 q.1.v, .slice a4 n4 c4], .bool b]) (by simp [results, Tryd.results5, go_sem, k0, k1, k2, k3, k4, k5, k6, k7, k8, k9]) rfl ?_
  show FsT _ _ _ _ _
  unfold FsT
  exact ⟨_, rfl, HS7.out, hw7⟩
end Go.Proofs.YtmkflokcficmoaaDoor

/- The walk of the law that says that FormulaOfSet answers as its model does. -/
namespace Go.Proofs.YtmkflokcficmoaaDoor
open Go.RowKit

set_option maxRecDepth 10000 in
set_option maxHeartbeats 4000000 in
theorem exactFormulaOfSet_walk (h l : List UInt8) (v : Int) (w : World) (hh : h.length ≤ 9223372036854775807) (hl : l.length ≤ 9223372036854775807) (_v0 : -9223372036854775808 ≤ v) (_v1 : v ≤ 9223372036854775807) :
    Calls Tryd.prog 3 #[.agg #[.string (bs h), .string (bs l)], .int .i64 v] w fun e w' => e = .returned (.bool true) ∧ Below w.heap.size w w' := by
  by_cases hs : h.length + l.length ≤ 1048576
  · have HZ := Lib.hid fun w => szSet_ok h l 1048576 w hs (Nat.le_refl _)
    have HSP := Lib.hid fun w => specFormulaOfSet_any h l v w (by omega) (by omega)
    have HIM := Lib.hid fun w => FormulaOfSet_any h l v w (by omega) (by omega)
    have HT := Lib.hid fun w => toSet_any h l w
    have hq6 := fsR_size h l v
    obtain ⟨ql, hql⟩ : ∃ ql, 1048576 - (h.length + l.length) = ql := ⟨_, rfl⟩
    obtain ⟨q, hq⟩ : ∃ q, fsR h l v = q := ⟨_, rfl⟩
    obtain ⟨tt, htt⟩ : ∃ b, fsB h l v = b := ⟨_, rfl⟩
    rw [hql] at HZ
    rw [hq] at HSP HIM hq6
    rw [htt] at HSP HIM
    have dl0 : decide ((ql : Int) < 0) = false := decide_eq_false (by omega)
    clear hs hh hl hql hq htt _v0 _v1
    go_enter Tryd.func3, Tryd.ntmps3
    go_wp2_with fail
    generalize hW : World.alloc w _ = W
    obtain ⟨hx, hsx, hw0⟩ := s2_new hW
    clear hW
    obtain ⟨x0, x1, x2, x3⟩ := id hx
    refine (HZ.out _).mono ?_
    rintro e w1 ⟨rfl, hb⟩
    have k1 := below_on hw0 hb
    have y1 := s2_on hx hb
    clear x0 x1 x2 x3 hb hx hsx hw0
    obtain ⟨x0, x1, x2, x3⟩ := id y1
    go_wp2_with fail
    refine (HT.out _).mono ?_
    rintro e w2 ⟨rfl, hb⟩
    have k2 := below_on k1 hb
    have y2 := s2_on y1 hb
    clear x0 x1 x2 x3 hb k1 y1 dl0
    go_wp2_with fail
    refine (HSP.out w2).mono ?_
    rintro e w3 ⟨s3, rfl, hs3, hb3⟩
    obtain ⟨a3, n3, c3, rfl⟩ := hs3.slice
    have HS3 := Lib.hid hs3
    have hw3 := below_on k2 hb3
    have y3 := s2_on y2 hb3
    have h23 := hb3.size
    have hyl := y2.1
    clear hs3 hb3 k2 y2
    go_upto_region 6 with fail
    generalize hW4 : World.alloc _ _ = W4
    have hb4 : Below w3.heap.size w3 W4 := by subst hW4; go_grown
    have hx4 : C10 W4 w3.heap.size q.1 (.slice a3 n3 c3) := by subst hW4; exact (by refine ⟨?_, ?_, ?_, ?_, ?_, ?_, ?_, ?_, ?_, ?_, ?_⟩ <;> first | (simp [go_sem]; done) | (simp; omega))
    have hw4 := below_on hw3 hb4
    have y4 := s2_on y3 hb4
    have HS34 := Lib.hid (FS.below hb4 (Nat.le_refl _) HS3.out)
    have HB4 := Lib.hid hw4
    have h34 : w3.heap.size < W4.heap.size := hx4.1
    clear hW4 hb4 hw3 y3 hw4
    obtain ⟨x0, x1, x2, x3⟩ := id y4
    go_wp2_with fail
    refine (HT.out _).mono ?_
    rintro e w5 ⟨rfl, hb5⟩
    have HB45 := Lib.hid hb5
    have hs45 := hb5.size
    have y5 := s2_on y4 hb5
    clear x0 x1 x2 x3 y4 hb5
    go_wp2_with fail
    refine (HIM.out w5).mono ?_
    rintro e w6 ⟨s6, rfl, hs6, hb6⟩
    obtain ⟨a6, n6, c6, rfl⟩ := hs6.slice
    have HS6 := Lib.hid hs6
    have hs56 := hb6.size
    have HB56 := Lib.hid hb6
    have y6 := s2_on y5 hb6
    clear hs6 hb6 y5
    go_upto_region 7 with fail
    generalize hW7 : World.alloc _ _ = W7
    have hb7 : Below w6.heap.size w6 W7 := by subst hW7; go_grown
    have hy7 : C10 W7 w6.heap.size q.1 (.slice a6 n6 c6) := by subst hW7; exact (by refine ⟨?_, ?_, ?_, ?_, ?_, ?_, ?_, ?_, ?_, ?_, ?_⟩ <;> first | (simp [go_sem]; done) | (simp; omega))
    have hb57 := below_on HB56.out hb7
    have hb47 := below_on HB45.out hb57
    have hx7 := c10_on hx4 hb47
    have y7 := s2_on y6 hb7
    have HS7 := Lib.hid (SF.below hb7 (Nat.le_refl _) HS6.out)
    have HS37 := Lib.hid (FS.below hb47 (Nat.le_refl _) HS34.out)
    have HP37 := Lib.hid (FSP.kept (w' := W7) (Q := fun k => w2.heap.size ≤ k ∧ k < W4.heap.size) hb47.size (fun k hk _ => hb47.block k hk.2) (fun _ h => h) (FSP.of HS34.out))
    have h67 : w6.heap.size < W7.heap.size := hy7.1
    have HB7 := Lib.hid (below_on HB4.out hb47)
    obtain ⟨x0, c0, c1, c2x, c3x, c4, c5x, c6x, c7, c8, c9⟩ := id hx7
    obtain ⟨u0, d0, d1, d2, d3, d4, d5, d6, d7, d8, d9⟩ := id hy7
    clear hW7 hb7 hb47 hb57 hx4 y6
    go_wp2_with fail
    refine (eqF_any q.1 q.2 W7 w5.heap.size w2.heap.size _ _ (SF.fs (by omega) HS7.out) HS37.out).mono ?_
    rintro e w12 ⟨rfl, hb12⟩
    have hx12 := c10_on hx7 hb12
    have hy12 := c10_on hy7 hb12
    have y12 := s2_on y7 hb12
    have HS12 := Lib.hid (SF.below hb12 (by omega) HS7.out)
    have HP12 := Lib.hid (FSP.kept (w' := w12) (Q := fun k => w2.heap.size ≤ k ∧ k < W4.heap.size) hb12.size (fun k hk _ => hb12.block k (by omega)) (fun _ h => h) HP37.out)
    have HB12 := Lib.hid (below_on HB7.out hb12)
    have hs712 := hb12.size
    clear hb12 x0 c0 c1 c2x c3x c4 c5x c6x c7 c8 c9 u0 d0 d1 d2 d3 d4 d5 d6 d7 d8 d9 hx7 hy7 y7
    obtain ⟨u0, d0, d1, d2, d3, d4, d5, d6, d7, d8, d9⟩ := id hy12
    obtain ⟨N, hN⟩ : ∃ N : Int, 1 + ((q.2.size * 9 : Nat) : Int) = N := ⟨_, rfl⟩
    have HN := Lib.hid hN
    have hN0 : ¬ N < 0 := by omega
    clear hN
    go_wp2_with fail
    refine (xkF_any q.1 q.2 w12 w5.heap.size w6.heap.size _ 1 HS12.out (by omega) (by omega) (by omega)).mono ?_
    rintro e w13 ⟨rfl, hk13, hs13⟩
    rw [HN.out]
    have hy13 := c10_keeps hy12 hk13 (.inl (by omega))
    have hx13 := c10_keeps hx12 hk13 (.inr (by omega))
    have HS13 := Lib.hid hs13
    have HP13 := Lib.hid (FSP.kept (w' := w13) (Q := fun k => w2.heap.size ≤ k ∧ k < W4.heap.size) hk13.size (fun k hk _ => hk13.block k (by omega) (.inl (by omega))) (fun _ h => h) HP12.out)
    have hwl : w.heap.size ≤ w5.heap.size := by have := HB4.out.size; omega
    have hb13 : Below w5.heap.size w12 w13 := hk13.below (by omega)
    have HB13 := Lib.hid (HB12.out.trans (hb13.mono hwl))
    have y13 := s2_low y12 hb13 (by omega)
    have hs1213 := hk13.size
    clear hk13 hs13 u0 d0 d1 d2 d3 d4 d5 d6 d7 d8 d9 hy12 hx12 hb13 y12
    obtain ⟨u0, d0, d1, d2, d3, d4, d5, d6, d7, d8, d9⟩ := id hy13
    go_wp2_with fail
    refine (heF_any q.1 q.2 w13 w5.heap.size _ 1 (SF.fs (by omega) HS13.out) (by omega) (by omega)).mono ?_
    rintro e w14 ⟨rfl, hb14⟩
    rw [HN.out]
    have hx14 := c10_on hx13 hb14
    have hy14 := c10_on hy13 hb14
    have y14 := s2_on y13 hb14
    have HS14 := Lib.hid (SF.below hb14 (by omega) HS13.out)
    have HP14 := Lib.hid (FSP.kept (w' := w14) (Q := fun k => w2.heap.size ≤ k ∧ k < W4.heap.size) hb14.size (fun k hk _ => hb14.block k (by omega)) (fun _ h => h) HP13.out)
    have HB14 := Lib.hid (below_on HB13.out hb14)
    have hs1314 := hb14.size
    clear hb14 u0 d0 d1 d2 d3 d4 d5 d6 d7 d8 d9 hy13 hx13 y13
    obtain ⟨x0, x1, x2, x3⟩ := id y14
    go_wp2_with fail
    refine (HT.out _).mono ?_
    rintro e w15 ⟨rfl, hb15⟩
    have HB1415 := Lib.hid hb15
    clear hb15 x0 x1 x2 x3
    go_wp2_with fail
    refine (HIM.out w15).mono ?_
    rintro e w16 ⟨s16, rfl, hs16, hb16⟩
    obtain ⟨a16, n16, c16, rfl⟩ := hs16.slice
    have HS16 := Lib.hid hs16
    have hb1416 := below_on HB1415.out hb16
    have hx16 := c10_on hx14 hb1416
    have hs1415 := HB1415.out.size
    have hs1516 := hb16.size
    clear hs16 hb16
    obtain ⟨x0, c0, c1, c2x, c3x, c4, c5x, c6x, c7, c8, c9⟩ := id hx16
    go_upto_region 18 with fail
    generalize hW17 : World.alloc _ _ = W17
    have hb17 : Below w16.heap.size w16 W17 := by subst hW17; go_grown
    have hz17 : C10 W17 w16.heap.size q.1 (.slice a16 n16 c16) := by subst hW17; exact (by refine ⟨?_, ?_, ?_, ?_, ?_, ?_, ?_, ?_, ?_, ?_, ?_⟩ <;> first | (simp [go_sem]; done) | (simp; omega))
    have hb1417 := below_on hb1416 hb17
    have hx17 := c10_on hx14 hb1417
    have hy17 := c10_on hy14 hb1417
    have HS17 := Lib.hid (SF.below hb1417 (by omega) HS14.out)
    have HP17 := Lib.hid (FSP.kept (w' := W17) (Q := fun k => w2.heap.size ≤ k ∧ k < W4.heap.size) hb1417.size (fun k hk _ => hb1417.block k (by omega)) (fun _ h => h) HP14.out)
    have HS167 := Lib.hid (SF.below hb17 (Nat.le_refl _) HS16.out)
    have HB17 := Lib.hid (below_on HB14.out hb1417)
    have hs1617 := hb17.size
    clear hW17 hb17 hb1416 hb1417 x0 c0 c1 c2x c3x c4 c5x c6x c7 c8 c9 hx16 hx14 hy14 y14
    obtain ⟨x0, c0, c1, c2x, c3x, c4, c5x, c6x, c7, c8, c9⟩ := id hx17
    obtain ⟨z0, e0, e1, e2, e3, e4, e5, e6, e7, e8, e9⟩ := id hz17
    go_wp2_with fail
    refine (eqF_any q.1 q.2 W17 w15.heap.size w2.heap.size _ _ (SF.fs (by omega) HS167.out) (FSP.to (lo := w2.heap.size) (fun k hk => hk.1) HP17.out)).mono ?_
    rintro e w18 ⟨rfl, hb18⟩
    have hy18 := c10_on hy17 hb18
    have HS18 := Lib.hid (SF.below hb18 (by omega) HS17.out)
    have HB18 := Lib.hid (below_on HB17.out hb18)
    have hs1718 := hb18.size
    clear hb18 x0 c0 c1 c2x c3x c4 c5x c6x c7 c8 c9 z0 e0 e1 e2 e3 e4 e5 e6 e7 e8 e9
    obtain ⟨u0, d0, d1, d2, d3, d4, d5, d6, d7, d8, d9⟩ := id hy18
    go_wp2_with fail
    refine (heF_any q.1 q.2 w18 w5.heap.size _ 1 (SF.fs (by omega) HS18.out) (by omega) (by omega)).mono ?_
    rintro e w19 ⟨rfl, hb19⟩
    rw [HN.out]
    go_wp2
    go_ret
    exact ⟨rfl, below_on HB18.out hb19⟩
  · have HZ := Lib.hid fun w => szSet_no h l 1048576 w (by omega) (Nat.le_refl _) hh hl
    clear hs hh hl
    go_enter Tryd.func3, Tryd.ntmps3
    go_wp2_with fail
    generalize hW : World.alloc w _ = W
    obtain ⟨hx, _, hw0⟩ := s2_new hW
    clear hW
    refine (HZ.out _).mono ?_
    rintro e w1 ⟨rfl, hb⟩
    go_wp2
    go_ret
    exact ⟨rfl, below_on hw0 hb⟩

end Go.Proofs.YtmkflokcficmoaaDoor
