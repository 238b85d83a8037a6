/- Euclid's rule for numbers that know how they are made. -/
import Derived.Test.YtjhfmlbnpdnddaaNbA
import Derived.Test.YtjhfmlbnpdnddaaLeastN
import Derived.BigQuiet
import Derived.Deep.RegionHeld3
import Derived.BigGuardPart
namespace Go.Proofs.Ytjhfmlbnpdnddaa
open Go.RowKit

def C3 (w : World) (bl : Nat) (a b c : Int) : Prop := bl < w.heap.size ∧ w.cell? ⟨bl, 0, none⟩ = some (.int .i64 a) ∧ w.cell? ⟨bl, 1, none⟩ = some (.int .i64 b) ∧ w.cell? ⟨bl, 2, none⟩ = some (.int .i64 c) ∧ ∀ o, w.frozen? ⟨bl, o, none⟩ = false
theorem c3_on {W w' : World} {x : Nat} {a b c : Int} (h : C3 W x a b c) (hb : Below W.heap.size W w') : C3 w' x a b c :=
  ⟨Nat.lt_of_lt_of_le h.1 hb.size, ((bcell hb).1 x 0 h.1).trans h.2.1, ((bcell hb).1 x 1 h.1).trans h.2.2.1, ((bcell hb).1 x 2 h.1).trans h.2.2.2.1, fun o => ((bcell hb).2 x o h.1).trans (h.2.2.2.2 o)⟩
/-- A store of three into a box: the box, the others, what was below. -/
theorem three_put {W W' : World} {x : Nat} {a' b' c' : Int} (hW : ((W.setCell ⟨x, 0, none⟩ (.int .i64 a')).setCell ⟨x, 1, none⟩ (.int .i64 b')).setCell ⟨x, 2, none⟩ (.int .i64 c') = W') (a b c : Int) (hx : C3 W x a b c) :
    C3 W' x a' b' c' ∧ W'.heap.size = W.heap.size ∧ (∀ y d e f, y ≠ x → C3 W y d e f → C3 W' y d e f) ∧ (∀ (w : World), Below w.heap.size w W → w.heap.size ≤ x → Below w.heap.size w W') := by
  obtain ⟨x0, c0, c1, c2, fz⟩ := hx
  subst hW
  have hsz : (((W.setCell ⟨x, 0, none⟩ (.int .i64 a')).setCell ⟨x, 1, none⟩ (.int .i64 b')).setCell ⟨x, 2, none⟩ (.int .i64 c')).heap.size = W.heap.size := by simp [World.setCell]
  refine ⟨⟨by rw [hsz]; exact x0, by simp [go_sem, *], by simp [go_sem, *], by simp [go_sem, *], fun o => by simp [go_sem, *]⟩, hsz, fun y d e f hy hc => ?_, fun w hw hx => ?_⟩
  · obtain ⟨y0, d0, d1, d2, gz⟩ := hc
    exact ⟨by rw [hsz]; exact y0, by simp [go_sem, *], by simp [go_sem, *], by simp [go_sem, *], fun o => by simp [go_sem, *]⟩
  · exact ((hw.setCell hx _).setCell hx _).setCell hx _

set_option maxHeartbeats 400000 in
theorem times_mix (n x y k : Int) (w : World) (h0 : -1000000000000 ≤ k * n ∧ k * n ≤ 1000000000000) (h1 : -1000000000000 ≤ k * x ∧ k * x ≤ 1000000000000) (h2 : -1000000000000 ≤ k * y ∧ k * y ≤ 1000000000000) :
    Calls Try.prog 109 #[.agg #[.int .i64 n, .int .i64 x, .int .i64 y], .int .i64 k] w fun e w' => e = .returned (.agg #[.int .i64 (k * n), .int .i64 (k * x), .int .i64 (k * y)]) ∧ Below w.heap.size w w' := by
  obtain ⟨p0, p1⟩ := h0
  obtain ⟨q0, q1⟩ := h1
  obtain ⟨r0, r1⟩ := h2
  go_enter Try.func109, Try.ntmps109
  go_wp2
  go_returns
  exact ⟨rfl, by go_grown⟩

set_option maxHeartbeats 400000 in
theorem restMix_none (n x y u v : Int) (w : World) :
    Calls Try.prog 108 #[.agg #[.int .i64 n, .int .i64 x, .int .i64 y], .agg #[.int .i64 0, .int .i64 u, .int .i64 v]] w fun e w' => e = .returned (.tuple #[.agg #[.int .i64 0, .int .i64 0, .int .i64 0], .bool false]) ∧ Below w.heap.size w w' := by
  go_enter Try.func108, Try.ntmps108
  go_wp2
  go_returns
  exact ⟨rfl, by go_grown⟩

theorem mixKeep {W w' : World} {p q : Nat} {n x y d u v : Int} (hx : C3 W p n x y) (hy : C3 W q d u v) (hB : Below W.heap.size W w') :
    w'.cell? ⟨p, 0, none⟩ = some (.int .i64 n) ∧ w'.cell? ⟨q, 0, none⟩ = some (.int .i64 d) ∧ w'.cell? ⟨q, 1, none⟩ = some (.int .i64 u) ∧ w'.cell? ⟨q, 2, none⟩ = some (.int .i64 v) :=
  have h1 := c3_on hx hB
  have h2 := c3_on hy hB
  ⟨h1.2.1, h2.2.1, h2.2.2.1, h2.2.2.2.1⟩

set_option maxHeartbeats 2000000 in
theorem restMix_some (n x y d u v q : Int) (w : World) (hd : d ≠ 0) (hq : n.tdiv d = q) (bq : -1000000 ≤ q ∧ q ≤ 1000000)
    (bn : -1000000 ≤ n ∧ n ≤ 1000000) (bx : -1000000 ≤ x ∧ x ≤ 1000000) (by_ : -1000000 ≤ y ∧ y ≤ 1000000)
    (h0 : -1000000 ≤ q * d ∧ q * d ≤ 1000000) (h1 : -1000000 ≤ q * u ∧ q * u ≤ 1000000) (h2 : -1000000 ≤ q * v ∧ q * v ≤ 1000000) :
    Calls Try.prog 108 #[.agg #[.int .i64 n, .int .i64 x, .int .i64 y], .agg #[.int .i64 d, .int .i64 u, .int .i64 v]] w fun e w' => e = .returned (.tuple #[.agg #[.int .i64 (n - q * d), .int .i64 (x - q * u), .int .i64 (y - q * v)], .bool true]) ∧ Below w.heap.size w w' := by
  obtain ⟨bq0, bq1⟩ := bq
  obtain ⟨bn0, bn1⟩ := bn
  obtain ⟨bx0, bx1⟩ := bx
  obtain ⟨by0, by1⟩ := by_
  have HT := Lib.hid fun W => times_mix d u v q W (by omega) (by omega) (by omega)
  obtain ⟨p0, hp0⟩ : ∃ p, q * d = p := ⟨_, rfl⟩
  obtain ⟨p1, hp1⟩ : ∃ p, q * u = p := ⟨_, rfl⟩
  obtain ⟨p2, hp2⟩ : ∃ p, q * v = p := ⟨_, rfl⟩
  simp only [hp0, hp1, hp2] at h0 h1 h2 HT ⊢
  clear hp0 hp1 hp2
  obtain ⟨g0, g1⟩ := h0
  obtain ⟨g2, g3⟩ := h1
  obtain ⟨g4, g5⟩ := h2
  have hwq : IntKind.i64.wrap q = q := by rw [IntKind.wrap_i64]; omega
  go_enter Try.func108, Try.ntmps108
  go_wp2_with fail
  generalize hW : ((w.alloc (.cells #[.int .i64 n, .int .i64 x, .int .i64 y] 71)).alloc (.cells #[.int .i64 d, .int .i64 u, .int .i64 v] 71)).alloc (.cells #[.int .i64 0, .int .i64 0, .int .i64 0] 71) = W
  have hx : C3 W w.heap.size n x y := by subst hW; exact (by refine ⟨?_, ?_, ?_, ?_, ?_⟩ <;> first | (simp [go_sem]; done) | (simp; omega) | (intro o; simp [go_sem]; done))
  have hy : C3 W (w.heap.size + 1) d u v := by subst hW; exact (by refine ⟨?_, ?_, ?_, ?_, ?_⟩ <;> first | (simp [go_sem]; done) | (simp; omega) | (intro o; simp [go_sem]; done))
  have hz : C3 W (w.heap.size + 1 + 1) 0 0 0 := by subst hW; exact (by refine ⟨?_, ?_, ?_, ?_, ?_⟩ <;> first | (simp [go_sem]; done) | (simp; omega) | (intro o; simp [go_sem]; done))
  have hw0 : Below w.heap.size w W := by subst hW; go_grown
  have hsz : W.heap.size = w.heap.size + 1 + 1 + 1 := by subst hW; simp
  clear hW
  have HX := Lib.hid hx
  have HY := Lib.hid hy
  have HZ := Lib.hid hz
  have HB := Lib.hid (Below.refl W.heap.size W)
  clear hx hy hz
  refine wp_region_held_drew (S := (fun w' => w'.cell? ⟨w.heap.size, 0, none⟩ = some (.int .i64 n) ∧ w'.cell? ⟨w.heap.size + 1, 0, none⟩ = some (.int .i64 d) ∧ w'.cell? ⟨w.heap.size + 1, 1, none⟩ = some (.int .i64 u) ∧ w'.cell? ⟨w.heap.size + 1, 2, none⟩ = some (.int .i64 v))) (by kernel_rfl) ?_ (fun hHeld => ?_)
  · try dsimp only
    exact mixKeep HX.out HY.out (by go_grown)
  refine wpAnyH_take (i := 0) (oi := { dst := some 11, op := Go.Op.load 71 (Go.Operand.tmp 3), type := 71, pos := "l5_numbers.go:27", after := #[], guard := none }) (v := ?_) rfl (by kernel_rfl) (by kernel_rfl) (by kernel_rfl) (fun _ _ _ h => h) (Or.inl ⟨by rfl, ?_⟩) (by assumption) ?_
  rotate_left
  · (intro w hSw; (try dsimp only at hSw); first | (go_simp; done) | (go_simp; with_reducible rfl))
  try simp only [Act.put, List.setIfInBounds_toArray, List.set_cons_zero, List.set_cons_succ]
  refine wpAnyH_take (i := 1) (oi := { dst := some 12, op := Go.Op.fieldAddr 71 (Go.Operand.tmp 2) 0, type := 0, pos := "l5_numbers.go:27", after := #[], guard := none }) (v := ?_) rfl (by kernel_rfl) (by kernel_rfl) (by kernel_rfl) (fun _ _ _ h => h) (Or.inl ⟨by rfl, ?_⟩) (by assumption) ?_
  rotate_left
  · (intro w hSw; (try dsimp only at hSw); first | (go_simp; done) | (go_simp; with_reducible rfl))
  try simp only [Act.put, List.setIfInBounds_toArray, List.set_cons_zero, List.set_cons_succ]
  refine wpAnyH_take (i := 2) (oi := { dst := some 13, op := Go.Op.load 3 (Go.Operand.tmp 12), type := 3, pos := "l5_numbers.go:27", after := #[{ on := 1, ground := Go.Ground.data }], guard := none }) (v := ?_) rfl (by kernel_rfl) (by kernel_rfl) (by kernel_rfl) (fun _ _ _ h => h) (Or.inl ⟨by rfl, ?_⟩) (by assumption) ?_
  rotate_left
  · (intro w hSw; (try dsimp only at hSw); first | (go_simp; done) | (go_simp; with_reducible rfl))
  try simp only [Act.put, List.setIfInBounds_toArray, List.set_cons_zero, List.set_cons_succ]
  refine wpAnyH_take (i := 3) (oi := { dst := some 14, op := Go.Op.fieldAddr 71 (Go.Operand.tmp 3) 0, type := 0, pos := "l5_numbers.go:27", after := #[], guard := none }) (v := ?_) rfl (by kernel_rfl) (by kernel_rfl) (by kernel_rfl) (fun _ _ _ h => h) (Or.inl ⟨by rfl, ?_⟩) (by assumption) ?_
  rotate_left
  · (intro w hSw; (try dsimp only at hSw); first | (go_simp; done) | (go_simp; with_reducible rfl))
  try simp only [Act.put, List.setIfInBounds_toArray, List.set_cons_zero, List.set_cons_succ]
  refine wpAnyH_take (i := 4) (oi := { dst := some 15, op := Go.Op.load 3 (Go.Operand.tmp 14), type := 3, pos := "l5_numbers.go:27", after := #[{ on := 3, ground := Go.Ground.data }], guard := none }) (v := ?_) rfl (by kernel_rfl) (by kernel_rfl) (by kernel_rfl) (fun _ _ _ h => h) (Or.inl ⟨by rfl, ?_⟩) (by assumption) ?_
  rotate_left
  · (intro w hSw; (try dsimp only at hSw); first | (go_simp; done) | (go_simp; with_reducible rfl))
  try simp only [Act.put, List.setIfInBounds_toArray, List.set_cons_zero, List.set_cons_succ]
  refine wpAnyH_take (i := 5) (oi := { dst := some 16, op := Go.Op.binOp Go.BinOp.quo 3 (Go.Operand.tmp 13) (Go.Operand.tmp 15) 3, type := 3, pos := "l5_numbers.go:27", after := #[{ on := 2, ground := Go.Ground.data }, { on := 4, ground := Go.Ground.data }], guard := none }) (v := ?_) rfl (by kernel_rfl) (by kernel_rfl) (by kernel_rfl) (fun _ _ _ h => h) (Or.inl ⟨by rfl, ?_⟩) (by assumption) ?_
  rotate_left
  · (intro w hSw; (try dsimp only at hSw); first | (go_simp; done) | (go_simp; with_reducible rfl))
  try simp only [Act.put, List.setIfInBounds_toArray, List.set_cons_zero, List.set_cons_succ]
  refine wpAnyH_ready (rs := [6, 7]) (by kernel_rfl) (by simp) ?_
  refine AllReadyH.cons (o := { dst := some 17, op := Go.Op.call { callee := Go.Callee.value (Go.Operand.func 109), args := #[Go.Operand.tmp 11, Go.Operand.tmp 16], argTypes := #[71, 3] }, type := 71, pos := "l5_numbers.go:27", after := #[{ on := 0, ground := Go.Ground.data }, { on := 5, ground := Go.Ground.data }], guard := none }) rfl (fun K hK => ?_) (AllReadyH.cons (o := { dst := some 6, op := Go.Op.alloc 71, type := 0, pos := "l5_numbers.go:27", after := #[], guard := none }) rfl (fun K hK => ?_) AllReadyH.nil)
  ·
    go_simp
    (go_at_call 109; refine (HT.out _).mono ?_; rintro e w5 ⟨rfl, hb5⟩; have hbW : Below W.heap.size W w5 := below_on (w := W) (by go_grown) hb5; have hb05 := below_on hw0 hbW; have hs5 : W.heap.size ≤ w5.heap.size := hbW.size)
    (try go_wp2_with fail)
    refine hK.out _ _ ?_ (fun hHeld => ?_)
    · try dsimp only
      exact mixKeep HX.out HY.out (by go_grown)
    clear hK K
    try simp only [Act.put, List.setIfInBounds_toArray, List.set_cons_zero, List.set_cons_succ]
    refine wpAnyH_ready (rs := [7]) (by kernel_rfl) (by simp) ?_
    refine AllReadyH.cons (o := { dst := some 6, op := Go.Op.alloc 71, type := 0, pos := "l5_numbers.go:27", after := #[], guard := none }) rfl (fun K hK => ?_) AllReadyH.nil
    go_simp
    refine hK.out _ _ ?_ (fun hHeld => ?_)
    · try dsimp only
      exact mixKeep HX.out HY.out (by go_grown)
    clear hK K
    try simp only [Act.put, List.setIfInBounds_toArray, List.set_cons_zero, List.set_cons_succ]
    refine wpAnyH_ready (rs := [8]) (by kernel_rfl) (by simp) ?_
    refine AllReadyH.cons (o := { dst := none, op := Go.Op.store 71 (Go.Operand.tmp 6) (Go.Operand.tmp 17), type := 0, pos := "l5_numbers.go:27", after := #[{ on := 7, ground := Go.Ground.data }, { on := 6, ground := Go.Ground.data }, { on := 6, ground := Go.Ground.chain }, { on := 0, ground := Go.Ground.phase }, { on := 1, ground := Go.Ground.phase }, { on := 2, ground := Go.Ground.phase }, { on := 3, ground := Go.Ground.phase }, { on := 4, ground := Go.Ground.phase }, { on := 5, ground := Go.Ground.phase }, { on := 6, ground := Go.Ground.phase }, { on := 7, ground := Go.Ground.phase }], guard := none }) rfl (fun K hK => ?_) AllReadyH.nil
    go_simp
    refine hK.out _ _ ?_ (fun hHeld => ?_)
    · try dsimp only
      exact mixKeep HX.out HY.out (by go_grown)
    clear hK K
    try simp only [Act.put, List.setIfInBounds_toArray, List.set_cons_zero, List.set_cons_succ]
    refine wpAnyH_done (by kernel_rfl) ?_ _
    (generalize hW9 : World.alloc w5 _ = W9; have hz9 : C3 W9 w5.heap.size p0 p1 p2 := (by subst hW9; exact (by refine ⟨?_, ?_, ?_, ?_, ?_⟩ <;> first | (simp [go_sem]; done) | (simp; omega) | (intro o; simp [go_sem]; done))); have hx9 : C3 W9 w.heap.size n x y := (by subst hW9; exact c3_on HX.out (by go_grown)); have hr9 : C3 W9 (w.heap.size + 1 + 1) 0 0 0 := (by subst hW9; exact c3_on HZ.out (by go_grown)); have hb9 : Below w.heap.size w W9 := (by subst hW9; exact hb05.alloc (Nat.le_of_lt (by omega)) _); clear hW9)
    obtain ⟨x0, x1, x2, x3, x4⟩ := id hx9
    obtain ⟨y0, y1, y2, y3, y4⟩ := id hz9
    obtain ⟨z0, z1, z2, z3, z4⟩ := id hr9
    go_wp2
    generalize hW8 : World.setCell _ _ _ = W8
    obtain ⟨⟨_, r1, r2, r3, _⟩, _, _, hb8⟩ := three_put hW8 0 0 0 hr9
    refine bodyPost_ret (v := .tuple #[.agg #[.int .i64 (n - p0), .int .i64 (x - p1), .int .i64 (y - p2)], .bool true]) (by simp [results, Try.results108, go_sem, r1, r2, r3]) rfl ⟨rfl, ?_⟩
    exact hb8 w hb9 (by omega)
  ·
    go_simp
    refine hK.out _ _ ?_ (fun hHeld => ?_)
    · try dsimp only
      exact mixKeep HX.out HY.out (by go_grown)
    clear hK K
    try simp only [Act.put, List.setIfInBounds_toArray, List.set_cons_zero, List.set_cons_succ]
    refine wpAnyH_ready (rs := [6]) (by kernel_rfl) (by simp) ?_
    refine AllReadyH.cons (o := { dst := some 17, op := Go.Op.call { callee := Go.Callee.value (Go.Operand.func 109), args := #[Go.Operand.tmp 11, Go.Operand.tmp 16], argTypes := #[71, 3] }, type := 71, pos := "l5_numbers.go:27", after := #[{ on := 0, ground := Go.Ground.data }, { on := 5, ground := Go.Ground.data }], guard := none }) rfl (fun K hK => ?_) AllReadyH.nil
    go_simp
    (go_at_call 109; refine (HT.out _).mono ?_; rintro e w5 ⟨rfl, hb5⟩; have hbW : Below W.heap.size W w5 := below_on (w := W) (by go_grown) hb5; have hb05 := below_on hw0 hbW; have hs5 : W.heap.size ≤ w5.heap.size := hbW.size; have hz5 : C3 w5 (w.heap.size + 1 + 1 + 1) 0 0 0 := c3_on (by rw [← hsz]; exact (by refine ⟨?_, ?_, ?_, ?_, ?_⟩ <;> first | (simp [go_sem]; done) | (simp; omega) | (intro o; simp [go_sem]; done))) hb5; obtain ⟨k0, k1, k2, k3, k4⟩ := id hz5)
    (try go_wp2_with fail)
    refine hK.out _ _ ?_ (fun hHeld => ?_)
    · try dsimp only
      exact mixKeep HX.out HY.out (by go_grown)
    clear hK K
    try simp only [Act.put, List.setIfInBounds_toArray, List.set_cons_zero, List.set_cons_succ]
    refine wpAnyH_ready (rs := [8]) (by kernel_rfl) (by simp) ?_
    refine AllReadyH.cons (o := { dst := none, op := Go.Op.store 71 (Go.Operand.tmp 6) (Go.Operand.tmp 17), type := 0, pos := "l5_numbers.go:27", after := #[{ on := 7, ground := Go.Ground.data }, { on := 6, ground := Go.Ground.data }, { on := 6, ground := Go.Ground.chain }, { on := 0, ground := Go.Ground.phase }, { on := 1, ground := Go.Ground.phase }, { on := 2, ground := Go.Ground.phase }, { on := 3, ground := Go.Ground.phase }, { on := 4, ground := Go.Ground.phase }, { on := 5, ground := Go.Ground.phase }, { on := 6, ground := Go.Ground.phase }, { on := 7, ground := Go.Ground.phase }], guard := none }) rfl (fun K hK => ?_) AllReadyH.nil
    go_simp
    refine hK.out _ _ ?_ (fun hHeld => ?_)
    · try dsimp only
      exact mixKeep HX.out HY.out (by go_grown)
    clear hK K
    try simp only [Act.put, List.setIfInBounds_toArray, List.set_cons_zero, List.set_cons_succ]
    refine wpAnyH_done (by kernel_rfl) ?_ _
    (generalize hW9 : World.setCell _ _ _ = W9; obtain ⟨hz9, hs9, ho9, hb9⟩ := three_put hW9 0 0 0 hz5; have hx9 := ho9 _ _ _ _ (by omega) (c3_on HX.out hbW); have hr9 := ho9 _ _ _ _ (by omega) (c3_on HZ.out hbW); have hb9 := hb9 w hb05 (by omega); clear hW9 ho9)
    obtain ⟨x0, x1, x2, x3, x4⟩ := id hx9
    obtain ⟨y0, y1, y2, y3, y4⟩ := id hz9
    obtain ⟨z0, z1, z2, z3, z4⟩ := id hr9
    go_wp2
    generalize hW8 : World.setCell _ _ _ = W8
    obtain ⟨⟨_, r1, r2, r3, _⟩, _, _, hb8⟩ := three_put hW8 0 0 0 hr9
    refine bodyPost_ret (v := .tuple #[.agg #[.int .i64 (n - p0), .int .i64 (x - p1), .int .i64 (y - p2)], .bool true]) (by simp [results, Try.results108, go_sem, r1, r2, r3]) rfl ⟨rfl, ?_⟩
    exact hb8 w hb9 (by omega)

end Go.Proofs.Ytjhfmlbnpdnddaa
