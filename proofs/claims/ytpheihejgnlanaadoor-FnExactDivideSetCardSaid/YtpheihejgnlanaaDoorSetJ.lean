/- The program's commonLoop, combined over any choice, UnionSets, MeetSets, OtherSet. -/
import Derived.Test.YtpheihejgnlanaaDoorSetI
import Derived.Test.YtpheihejgnlanaaDoorNbA
namespace Go.Proofs.YtpheihejgnlanaaDoor
open Go.RowKit

/-- The loop of two sets. -/
def lcL2 (l l' : List UInt8) : Nat := l.length / Nat.gcd l.length l'.length * l'.length
theorem tdiv_n2 (a b : Nat) : (a : Int).tdiv (b : Int) = ((a / b : Nat) : Int) := by rw [Int.tdiv_eq_ediv_of_nonneg (by omega)]; rfl

set_option maxHeartbeats 2000000 in
theorem commonLoop_any (h l h' l' : List UInt8) (w : World) (hl0 : l ≠ []) (hl : l.length ≤ 1000) (hl' : l'.length ≤ 1000) :
    Calls Tryd.prog 65 #[.agg #[.string (bs h), .string (bs l)], .agg #[.string (bs h'), .string (bs l')]] w fun e w' => e = .returned (.int .i64 (lcL2 l l' : Nat)) ∧ Below w.heap.size w w' := by
  have hs1 := bs_size l
  have hs2 := bs_size l'
  have hl1 : 0 < l.length := List.length_pos_iff.2 hl0
  obtain ⟨L, hL⟩ : ∃ L, l.length = L := ⟨_, rfl⟩
  obtain ⟨M, hM⟩ : ∃ M, l'.length = M := ⟨_, rfl⟩
  have HR : Hid (lcL2 l l' = L / Nat.gcd L M * M) := Lib.hid (by unfold lcL2; rw [hL, hM])
  rw [hL] at hs1 hl hl1
  rw [hM] at hs2 hl'
  have HG := Lib.hid fun w => commonDivisor_any (L : Int) (M : Int) w (by omega) (by omega) (by omega) (by omega)
  obtain ⟨g, hg⟩ : ∃ g, Nat.gcd L M = g := ⟨_, rfl⟩
  have hg0 : 0 < g := by rw [← hg]; exact Nat.gcd_pos_of_pos_left _ hl1
  have hgg : (Int.gcd (L : Int) (M : Int)) = g := by rw [← hg]; rfl
  rw [hgg] at HG
  rw [hg] at HR
  obtain ⟨d, hd⟩ : ∃ d, L / g = d := ⟨_, rfl⟩
  have hdl : d ≤ L := by rw [← hd]; exact Nat.div_le_self _ _
  have ht : (L : Int).tdiv (g : Int) = (d : Int) := by rw [tdiv_n2, hd]
  obtain ⟨r, hr⟩ : ∃ r, d * M = r := ⟨_, rfl⟩
  have hrb : r ≤ 1000000 := by
    have h1 := Nat.mul_le_mul (Nat.le_trans hdl hl) hl'
    omega
  have hm : (d : Int) * (M : Int) = (r : Int) := by rw [← hr]; exact (Int.natCast_mul d M).symm
  have hg1 : (g : Int) ≠ 0 := by omega
  have hg2 : g ≠ 0 := by omega
  have hwd : IntKind.i64.wrap (d : Int) = (d : Int) := by rw [IntKind.wrap_i64]; omega
  have hwr : IntKind.i64.wrap (r : Int) = (r : Int) := by rw [IntKind.wrap_i64]; omega
  rw [hd, hr] at HR
  rw [HR.out]
  clear hL hM hg hgg hd hr hg0 hl0
  go_enter Tryd.func65, Tryd.ntmps65
  go_wp2_with fail
  generalize hW0 : World.alloc w _ = W0
  obtain ⟨hx, hsx, hwx⟩ := s2_new hW0
  clear hW0
  generalize hW : World.alloc W0 _ = W
  obtain ⟨hz, hsz, hwz⟩ := s2_new hW
  rw [hsx] at hz
  clear hW
  have HX := Lib.hid (s2_on hx hwz)
  have HZ := Lib.hid hz
  have HB := Lib.hid (below_on hwx hwz)
  clear hx hz hwx hwz hsx hsz
  refine wp_region_held_drew (S := (fun w' => (w'.cell? ⟨w.heap.size, 0, none⟩ = some (.string (bs h)) ∧ w'.cell? ⟨w.heap.size, 1, none⟩ = some (.string (bs l))) ∧ w'.cell? ⟨w.heap.size + 1, 0, none⟩ = some (.string (bs h')) ∧ w'.cell? ⟨w.heap.size + 1, 1, none⟩ = some (.string (bs l')))) (by kernel_rfl) ?_ (fun hHeld => ?_)
  · try dsimp only
    exact ⟨s2_keep HX.out (by go_grown), s2_keep HZ.out (by go_grown)⟩
  refine wpAnyH_take (i := 0) (oi := { dst := some 5, op := Go.Op.fieldAddr 25 (Go.Operand.tmp 2) 1, type := 0, pos := "l7_sets.go:112", after := #[], guard := none }) (v := ?_) rfl (by kernel_rfl) (by kernel_rfl) (by kernel_rfl) (fun _ _ _ h => h) (Or.inl ⟨by rfl, ?_⟩) (by assumption) ?_
  rotate_left
  · (intro w hSw; (try dsimp only at hSw); first | (go_simp; done) | (go_simp; with_reducible rfl))
  try simp only [Act.put, List.setIfInBounds_toArray, List.set_cons_zero, List.set_cons_succ]
  refine wpAnyH_take (i := 1) (oi := { dst := some 6, op := Go.Op.load 9 (Go.Operand.tmp 5), type := 9, pos := "l7_sets.go:112", after := #[{ on := 0, ground := Go.Ground.data }], guard := none }) (v := ?_) rfl (by kernel_rfl) (by kernel_rfl) (by kernel_rfl) (fun _ _ _ h => h) (Or.inl ⟨by rfl, ?_⟩) (by assumption) ?_
  rotate_left
  · (intro w hSw; (try dsimp only at hSw); first | (go_simp; done) | (go_simp; with_reducible rfl))
  try simp only [Act.put, List.setIfInBounds_toArray, List.set_cons_zero, List.set_cons_succ]
  refine wpAnyH_take (i := 2) (oi := { dst := some 7, op := Go.Op.call { callee := Go.Callee.builtin Go.Builtin.len, args := #[Go.Operand.tmp 6], argTypes := #[9] }, type := 3, pos := "l7_sets.go:112", after := #[{ on := 1, ground := Go.Ground.data }], guard := none }) (v := ?_) rfl (by kernel_rfl) (by kernel_rfl) (by kernel_rfl) (fun _ _ _ h => h) (Or.inl ⟨by rfl, ?_⟩) (by assumption) ?_
  rotate_left
  · (intro w hSw; (try dsimp only at hSw); first | (go_simp; done) | (go_simp; with_reducible rfl))
  try simp only [Act.put, List.setIfInBounds_toArray, List.set_cons_zero, List.set_cons_succ]
  refine wpAnyH_take (i := 3) (oi := { dst := some 8, op := Go.Op.fieldAddr 25 (Go.Operand.tmp 2) 1, type := 0, pos := "l7_sets.go:112", after := #[], guard := none }) (v := ?_) rfl (by kernel_rfl) (by kernel_rfl) (by kernel_rfl) (fun _ _ _ h => h) (Or.inl ⟨by rfl, ?_⟩) (by assumption) ?_
  rotate_left
  · (intro w hSw; (try dsimp only at hSw); first | (go_simp; done) | (go_simp; with_reducible rfl))
  try simp only [Act.put, List.setIfInBounds_toArray, List.set_cons_zero, List.set_cons_succ]
  refine wpAnyH_take (i := 4) (oi := { dst := some 9, op := Go.Op.load 9 (Go.Operand.tmp 8), type := 9, pos := "l7_sets.go:112", after := #[{ on := 3, ground := Go.Ground.data }], guard := none }) (v := ?_) rfl (by kernel_rfl) (by kernel_rfl) (by kernel_rfl) (fun _ _ _ h => h) (Or.inl ⟨by rfl, ?_⟩) (by assumption) ?_
  rotate_left
  · (intro w hSw; (try dsimp only at hSw); first | (go_simp; done) | (go_simp; with_reducible rfl))
  try simp only [Act.put, List.setIfInBounds_toArray, List.set_cons_zero, List.set_cons_succ]
  refine wpAnyH_take (i := 5) (oi := { dst := some 10, op := Go.Op.call { callee := Go.Callee.builtin Go.Builtin.len, args := #[Go.Operand.tmp 9], argTypes := #[9] }, type := 3, pos := "l7_sets.go:112", after := #[{ on := 4, ground := Go.Ground.data }], guard := none }) (v := ?_) rfl (by kernel_rfl) (by kernel_rfl) (by kernel_rfl) (fun _ _ _ h => h) (Or.inl ⟨by rfl, ?_⟩) (by assumption) ?_
  rotate_left
  · (intro w hSw; (try dsimp only at hSw); first | (go_simp; done) | (go_simp; with_reducible rfl))
  try simp only [Act.put, List.setIfInBounds_toArray, List.set_cons_zero, List.set_cons_succ]
  refine wpAnyH_take (i := 6) (oi := { dst := some 11, op := Go.Op.fieldAddr 25 (Go.Operand.tmp 3) 1, type := 0, pos := "l7_sets.go:112", after := #[], guard := none }) (v := ?_) rfl (by kernel_rfl) (by kernel_rfl) (by kernel_rfl) (fun _ _ _ h => h) (Or.inl ⟨by rfl, ?_⟩) (by assumption) ?_
  rotate_left
  · (intro w hSw; (try dsimp only at hSw); first | (go_simp; done) | (go_simp; with_reducible rfl))
  try simp only [Act.put, List.setIfInBounds_toArray, List.set_cons_zero, List.set_cons_succ]
  refine wpAnyH_take (i := 7) (oi := { dst := some 12, op := Go.Op.load 9 (Go.Operand.tmp 11), type := 9, pos := "l7_sets.go:112", after := #[{ on := 6, ground := Go.Ground.data }], guard := none }) (v := ?_) rfl (by kernel_rfl) (by kernel_rfl) (by kernel_rfl) (fun _ _ _ h => h) (Or.inl ⟨by rfl, ?_⟩) (by assumption) ?_
  rotate_left
  · (intro w hSw; (try dsimp only at hSw); first | (go_simp; done) | (go_simp; with_reducible rfl))
  try simp only [Act.put, List.setIfInBounds_toArray, List.set_cons_zero, List.set_cons_succ]
  refine wpAnyH_take (i := 8) (oi := { dst := some 13, op := Go.Op.call { callee := Go.Callee.builtin Go.Builtin.len, args := #[Go.Operand.tmp 12], argTypes := #[9] }, type := 3, pos := "l7_sets.go:112", after := #[{ on := 7, ground := Go.Ground.data }], guard := none }) (v := ?_) rfl (by kernel_rfl) (by kernel_rfl) (by kernel_rfl) (fun _ _ _ h => h) (Or.inl ⟨by rfl, ?_⟩) (by assumption) ?_
  rotate_left
  · (intro w hSw; (try dsimp only at hSw); first | (go_simp; done) | (go_simp; with_reducible rfl))
  try simp only [Act.put, List.setIfInBounds_toArray, List.set_cons_zero, List.set_cons_succ]
  refine wpAnyH_take (i := 11) (oi := { dst := some 16, op := Go.Op.fieldAddr 25 (Go.Operand.tmp 3) 1, type := 0, pos := "l7_sets.go:112", after := #[], guard := none }) (v := ?_) rfl (by kernel_rfl) (by kernel_rfl) (by kernel_rfl) (fun _ _ _ h => h) (Or.inl ⟨by rfl, ?_⟩) (by assumption) ?_
  rotate_left
  · (intro w hSw; (try dsimp only at hSw); first | (go_simp; done) | (go_simp; with_reducible rfl))
  try simp only [Act.put, List.setIfInBounds_toArray, List.set_cons_zero, List.set_cons_succ]
  refine wpAnyH_take (i := 12) (oi := { dst := some 17, op := Go.Op.load 9 (Go.Operand.tmp 16), type := 9, pos := "l7_sets.go:112", after := #[{ on := 11, ground := Go.Ground.data }], guard := none }) (v := ?_) rfl (by kernel_rfl) (by kernel_rfl) (by kernel_rfl) (fun _ _ _ h => h) (Or.inl ⟨by rfl, ?_⟩) (by assumption) ?_
  rotate_left
  · (intro w hSw; (try dsimp only at hSw); first | (go_simp; done) | (go_simp; with_reducible rfl))
  try simp only [Act.put, List.setIfInBounds_toArray, List.set_cons_zero, List.set_cons_succ]
  refine wpAnyH_take (i := 13) (oi := { dst := some 18, op := Go.Op.call { callee := Go.Callee.builtin Go.Builtin.len, args := #[Go.Operand.tmp 17], argTypes := #[9] }, type := 3, pos := "l7_sets.go:112", after := #[{ on := 12, ground := Go.Ground.data }], guard := none }) (v := ?_) rfl (by kernel_rfl) (by kernel_rfl) (by kernel_rfl) (fun _ _ _ h => h) (Or.inl ⟨by rfl, ?_⟩) (by assumption) ?_
  rotate_left
  · (intro w hSw; (try dsimp only at hSw); first | (go_simp; done) | (go_simp; with_reducible rfl))
  try simp only [Act.put, List.setIfInBounds_toArray, List.set_cons_zero, List.set_cons_succ]
  refine wpAnyH_ready (rs := [9]) (by kernel_rfl) (by simp) ?_
  refine AllReadyH.cons (o := { dst := some 14, op := Go.Op.call { callee := Go.Callee.value (Go.Operand.func 62), args := #[Go.Operand.tmp 10, Go.Operand.tmp 13], argTypes := #[3, 3] }, type := 3, pos := "l7_sets.go:112", after := #[{ on := 5, ground := Go.Ground.data }, { on := 8, ground := Go.Ground.data }], guard := none }) rfl (fun K hK => ?_) AllReadyH.nil
  go_simp
  (go_at_call 62; refine (HG.out _).mono ?_; rintro e w5 ⟨rfl, hb5⟩; have hbW5 := below_on (w := W) (by go_grown) hb5)
  (try go_wp2_with fail)
  refine hK.out _ _ ?_ (fun hHeld => ?_)
  · try dsimp only
    exact ⟨s2_keep HX.out (by go_grown), s2_keep HZ.out (by go_grown)⟩
  clear hK K
  try simp only [Act.put, List.setIfInBounds_toArray, List.set_cons_zero, List.set_cons_succ]
  refine wpAnyH_take (i := 10) (oi := { dst := some 15, op := Go.Op.binOp Go.BinOp.quo 3 (Go.Operand.tmp 7) (Go.Operand.tmp 14) 3, type := 3, pos := "l7_sets.go:112", after := #[{ on := 2, ground := Go.Ground.data }, { on := 9, ground := Go.Ground.data }], guard := none }) (v := ?_) rfl (by kernel_rfl) (by kernel_rfl) (by kernel_rfl) (fun _ _ _ h => h) (Or.inl ⟨by rfl, ?_⟩) (by assumption) ?_
  rotate_left
  · (intro w hSw; (try dsimp only at hSw); first | (go_simp; done) | (go_simp; with_reducible rfl))
  try simp only [Act.put, List.setIfInBounds_toArray, List.set_cons_zero, List.set_cons_succ]
  refine wpAnyH_take (i := 14) (oi := { dst := some 19, op := Go.Op.binOp Go.BinOp.mul 3 (Go.Operand.tmp 15) (Go.Operand.tmp 18) 3, type := 3, pos := "l7_sets.go:112", after := #[{ on := 10, ground := Go.Ground.data }, { on := 13, ground := Go.Ground.data }], guard := none }) (v := ?_) rfl (by kernel_rfl) (by kernel_rfl) (by kernel_rfl) (fun _ _ _ h => h) (Or.inl ⟨by rfl, ?_⟩) (by assumption) ?_
  rotate_left
  · (intro w hSw; (try dsimp only at hSw); first | (go_simp; done) | (go_simp; with_reducible rfl))
  try simp only [Act.put, List.setIfInBounds_toArray, List.set_cons_zero, List.set_cons_succ]
  refine wpAnyH_take (i := 15) (oi := { dst := some 4, op := Go.Op.assign (Go.Operand.tmp 19), type := 3, pos := "l7_sets.go:112", after := #[{ on := 14, ground := Go.Ground.data }, { on := 9, ground := Go.Ground.chain }, { on := 0, ground := Go.Ground.phase }, { on := 1, ground := Go.Ground.phase }, { on := 2, ground := Go.Ground.phase }, { on := 3, ground := Go.Ground.phase }, { on := 4, ground := Go.Ground.phase }, { on := 5, ground := Go.Ground.phase }, { on := 6, ground := Go.Ground.phase }, { on := 7, ground := Go.Ground.phase }, { on := 8, ground := Go.Ground.phase }, { on := 9, ground := Go.Ground.phase }, { on := 10, ground := Go.Ground.phase }, { on := 11, ground := Go.Ground.phase }, { on := 12, ground := Go.Ground.phase }, { on := 13, ground := Go.Ground.phase }, { on := 14, ground := Go.Ground.phase }], guard := none }) (v := ?_) rfl (by kernel_rfl) (by kernel_rfl) (by kernel_rfl) (fun _ _ _ h => h) (Or.inl ⟨by rfl, ?_⟩) (by assumption) ?_
  rotate_left
  · (intro w hSw; (try dsimp only at hSw); first | (go_simp; done) | (go_simp; with_reducible rfl))
  try simp only [Act.put, List.setIfInBounds_toArray, List.set_cons_zero, List.set_cons_succ]
  refine wpAnyH_done (by kernel_rfl) ?_ _
  go_wp2
  go_ret
  exact ⟨rfl, below_on HB.out (by go_grown)⟩

/-- A box of one value. -/
def FB (w : World) (b : Nat) (v : Value) : Prop := b < w.heap.size ∧ w.cell? ⟨b, 0, none⟩ = some v
theorem fb_on {W w' : World} {b : Nat} {v : Value} (h : FB W b v) (hb : Below W.heap.size W w') : FB w' b v :=
  ⟨Nat.lt_of_lt_of_le h.1 hb.size, ((bcell hb).1 b 0 h.1).trans h.2⟩
theorem fb_new {w W : World} {v : Value} {t : TypeId} (hW : w.alloc (.cells #[v] t) = W) : FB W w.heap.size v ∧ W.heap.size = w.heap.size + 1 ∧ Below w.heap.size w W := by
  subst hW
  exact ⟨⟨by simp, by simp [go_sem]⟩, by simp, by go_grown⟩
/-- What a choice answers. -/
def ChF (G : Nat) (g : Bool → Bool → Bool) : Prop := ∀ x y W, Calls Tryd.prog G #[.bool x, .bool y] W fun e w' => e = .returned (.bool (g x y)) ∧ Below W.heap.size W w'

set_option maxRecDepth 10000 in
set_option maxHeartbeats 2000000 in
theorem comb1_any (G : Nat) (g : Bool → Bool → Bool) (EN : EnF G) (GC : ChF G g) (h l h' l' : List UInt8) (n c a b : Nat) (w : World) (hl0 : l ≠ []) (hl0' : l' ≠ []) (hh : h.length ≤ 1000000000) (hl : l.length ≤ 1000000000) (hh' : h'.length ≤ 1000000000) (hl' : l'.length ≤ 1000000000) (hn : n ≤ 1000000000)
    (h0 : FB w c (.func (.func G) #[] #[])) (h1 : S2 w a (bs h) (bs l)) (h2 : S2 w b (bs h') (bs l')) :
    Calls Tryd.prog 81 #[.int .i64 n, .pointer (some ⟨c, 0, none⟩), .pointer (some ⟨a, 0, none⟩), .pointer (some ⟨b, 0, none⟩)] w fun e w' => e = .returned (.bool (g (inS (atS h l) n) (inS (atS h' l') n))) ∧ Below w.heap.size w w' := by
  have H1 := Lib.hid fun w => has_any h l n w hl0 hh hl (by omega)
  have H2 := Lib.hid fun w => has_any h' l' n w hl0' hh' hl' (by omega)
  have H3 := Lib.hid GC
  have F0 := Lib.hid h0
  have F1 := Lib.hid h1
  have F2 := Lib.hid h2
  obtain ⟨x, hx⟩ : ∃ x, inS (atS h l) n = x := ⟨_, rfl⟩
  obtain ⟨y, hy⟩ : ∃ y, inS (atS h' l') n = y := ⟨_, rfl⟩
  rw [hx] at H1
  rw [hy] at H2
  rw [hx, hy]
  clear hx hy h0 h1 h2 GC hl0 hl0' hh hl hh' hl'
  go_enter Tryd.func81, Tryd.ntmps81
  go_wp2_with fail
  refine wp_region_held_drew (S := (fun w' => w'.cell? ⟨c, 0, none⟩ = some (.func (.func G) #[] #[]) ∧ (w'.cell? ⟨a, 0, none⟩ = some (.string (bs h)) ∧ w'.cell? ⟨a, 1, none⟩ = some (.string (bs l))) ∧ w'.cell? ⟨b, 0, none⟩ = some (.string (bs h')) ∧ w'.cell? ⟨b, 1, none⟩ = some (.string (bs l')))) (by kernel_rfl) ?_ (fun hHeld => ?_)
  · try dsimp only
    exact ⟨(fb_on F0.out (by go_grown)).2, s2_keep F1.out (by go_grown), s2_keep F2.out (by go_grown)⟩
  refine wpAnyH_take (i := 0) (oi := { dst := some 6, op := Go.Op.load 49 (Go.Operand.tmp 1), type := 49, pos := "l7_sets.go:166", after := #[], guard := none }) (v := ?_) rfl (by kernel_rfl) (by kernel_rfl) (by kernel_rfl) (fun _ _ _ h => h) (Or.inl ⟨by rfl, ?_⟩) (by assumption) ?_
  rotate_left
  · (intro w hSw; (try dsimp only at hSw); first | (go_simp; done) | (go_simp; with_reducible rfl))
  try simp only [Act.put, List.setIfInBounds_toArray, List.set_cons_zero, List.set_cons_succ]
  refine wpAnyH_take (i := 1) (oi := { dst := some 7, op := Go.Op.load 25 (Go.Operand.tmp 2), type := 25, pos := "l7_sets.go:166", after := #[], guard := none }) (v := ?_) rfl (by kernel_rfl) (by kernel_rfl) (by kernel_rfl) (fun _ _ _ h => h) (Or.inl ⟨by rfl, ?_⟩) (by assumption) ?_
  rotate_left
  · (intro w hSw; (try dsimp only at hSw); first | (go_simp; done) | (go_simp; with_reducible rfl))
  try simp only [Act.put, List.setIfInBounds_toArray, List.set_cons_zero, List.set_cons_succ]
  refine wpAnyH_take (i := 2) (oi := { dst := some 8, op := Go.Op.move (Go.Operand.tmp 0), type := 3, pos := "l7_sets.go:166", after := #[], guard := none }) (v := ?_) rfl (by kernel_rfl) (by kernel_rfl) (by kernel_rfl) (fun _ _ _ h => h) (Or.inl ⟨by rfl, ?_⟩) (by assumption) ?_
  rotate_left
  · (intro w hSw; (try dsimp only at hSw); first | (go_simp; done) | (go_simp; with_reducible rfl))
  try simp only [Act.put, List.setIfInBounds_toArray, List.set_cons_zero, List.set_cons_succ]
  refine wpAnyH_take (i := 4) (oi := { dst := some 10, op := Go.Op.load 25 (Go.Operand.tmp 3), type := 25, pos := "l7_sets.go:166", after := #[], guard := none }) (v := ?_) rfl (by kernel_rfl) (by kernel_rfl) (by kernel_rfl) (fun _ _ _ h => h) (Or.inl ⟨by rfl, ?_⟩) (by assumption) ?_
  rotate_left
  · (intro w hSw; (try dsimp only at hSw); first | (go_simp; done) | (go_simp; with_reducible rfl))
  try simp only [Act.put, List.setIfInBounds_toArray, List.set_cons_zero, List.set_cons_succ]
  refine wpAnyH_take (i := 5) (oi := { dst := some 11, op := Go.Op.move (Go.Operand.tmp 0), type := 3, pos := "l7_sets.go:166", after := #[], guard := none }) (v := ?_) rfl (by kernel_rfl) (by kernel_rfl) (by kernel_rfl) (fun _ _ _ h => h) (Or.inl ⟨by rfl, ?_⟩) (by assumption) ?_
  rotate_left
  · (intro w hSw; (try dsimp only at hSw); first | (go_simp; done) | (go_simp; with_reducible rfl))
  try simp only [Act.put, List.setIfInBounds_toArray, List.set_cons_zero, List.set_cons_succ]
  refine wpAnyH_ready (rs := [3]) (by kernel_rfl) (by simp) ?_
  refine AllReadyH.cons (o := { dst := some 9, op := Go.Op.call { callee := Go.Callee.value (Go.Operand.func 56), args := #[Go.Operand.tmp 7, Go.Operand.tmp 8], argTypes := #[25, 3] }, type := 4, pos := "l7_sets.go:166", after := #[{ on := 1, ground := Go.Ground.data }, { on := 2, ground := Go.Ground.data }], guard := none }) rfl (fun K hK => ?_) AllReadyH.nil
  go_simp
  (go_at_call 56; refine (H1.out _).mono ?_; rintro e w5 ⟨rfl, hb5⟩; have hbW5 := below_on (w := w) (by go_grown) hb5)
  (try go_wp2_with fail)
  refine hK.out _ _ ?_ (fun hHeld => ?_)
  · try dsimp only
    exact ⟨(fb_on F0.out (by go_grown)).2, s2_keep F1.out (by go_grown), s2_keep F2.out (by go_grown)⟩
  clear hK K
  try simp only [Act.put, List.setIfInBounds_toArray, List.set_cons_zero, List.set_cons_succ]
  refine wpAnyH_ready (rs := [6]) (by kernel_rfl) (by simp) ?_
  refine AllReadyH.cons (o := { dst := some 12, op := Go.Op.call { callee := Go.Callee.value (Go.Operand.func 56), args := #[Go.Operand.tmp 10, Go.Operand.tmp 11], argTypes := #[25, 3] }, type := 4, pos := "l7_sets.go:166", after := #[{ on := 4, ground := Go.Ground.data }, { on := 5, ground := Go.Ground.data }, { on := 3, ground := Go.Ground.chain }], guard := none }) rfl (fun K hK => ?_) AllReadyH.nil
  go_simp
  (go_at_call 56; refine (H2.out _).mono ?_; rintro e w6 ⟨rfl, hb6⟩; have hbW6 := below_on (w := w) (by go_grown) hb6)
  (try go_wp2_with fail)
  refine hK.out _ _ ?_ (fun hHeld => ?_)
  · try dsimp only
    exact ⟨(fb_on F0.out (by go_grown)).2, s2_keep F1.out (by go_grown), s2_keep F2.out (by go_grown)⟩
  clear hK K
  try simp only [Act.put, List.setIfInBounds_toArray, List.set_cons_zero, List.set_cons_succ]
  refine wpAnyH_ready (rs := [7]) (by kernel_rfl) (by simp) ?_
  refine AllReadyH.cons (o := { dst := some 13, op := Go.Op.call { callee := Go.Callee.value (Go.Operand.tmp 6), args := #[Go.Operand.tmp 9, Go.Operand.tmp 12], argTypes := #[4, 4] }, type := 4, pos := "l7_sets.go:166", after := #[{ on := 0, ground := Go.Ground.data }, { on := 3, ground := Go.Ground.data }, { on := 6, ground := Go.Ground.data }, { on := 6, ground := Go.Ground.chain }], guard := none }) rfl (fun K hK => ?_) AllReadyH.nil
  go_simp
  (rw [EN, Oper.upon_enter]; refine (H3.out x y _).mono ?_; rintro e w7 ⟨rfl, hb7⟩; have hbW7 := below_on (w := w) (by go_grown) hb7)
  (try go_wp2_with fail)
  refine hK.out _ _ ?_ (fun hHeld => ?_)
  · try dsimp only
    exact ⟨(fb_on F0.out (by go_grown)).2, s2_keep F1.out (by go_grown), s2_keep F2.out (by go_grown)⟩
  clear hK K
  try simp only [Act.put, List.setIfInBounds_toArray, List.set_cons_zero, List.set_cons_succ]
  refine wpAnyH_take (i := 8) (oi := { dst := some 5, op := Go.Op.assign (Go.Operand.tmp 13), type := 4, pos := "l7_sets.go:166", after := #[{ on := 7, ground := Go.Ground.data }, { on := 7, ground := Go.Ground.chain }, { on := 0, ground := Go.Ground.phase }, { on := 1, ground := Go.Ground.phase }, { on := 2, ground := Go.Ground.phase }, { on := 3, ground := Go.Ground.phase }, { on := 4, ground := Go.Ground.phase }, { on := 5, ground := Go.Ground.phase }, { on := 6, ground := Go.Ground.phase }, { on := 7, ground := Go.Ground.phase }], guard := none }) (v := ?_) rfl (by kernel_rfl) (by kernel_rfl) (by kernel_rfl) (fun _ _ _ h => h) (Or.inl ⟨by rfl, ?_⟩) (by assumption) ?_
  rotate_left
  · (intro w hSw; (try dsimp only at hSw); first | (go_simp; done) | (go_simp; with_reducible rfl))
  try simp only [Act.put, List.setIfInBounds_toArray, List.set_cons_zero, List.set_cons_succ]
  refine wpAnyH_done (by kernel_rfl) ?_ _
  go_wp2
  go_ret
  exact ⟨rfl, by go_grown⟩

/-- What combined answers. -/
noncomputable def combR (g : Bool → Bool → Bool) (h l h' l' : List UInt8) : (List UInt8 × List UInt8) × Bool := if (svS h l && svS h' l') = true then resA (fun n => bitS (g (inS (atS h l) n) (inS (atS h' l') n))) else (([], []), false)
theorem comb_per {g : Bool → Bool → Bool} {h l h' l' : List UInt8} (hl : l ≠ []) (hl' : l' ≠ []) : 0 < lcL2 l l' ∧ PerS (fun n => bitS (g (inS (atS h l) n) (inS (atS h' l') n))) (max h.length h'.length) (lcL2 l l') := by
  have p1 : 0 < l.length := List.length_pos_iff.2 hl
  have p2 : 0 < l'.length := List.length_pos_iff.2 hl'
  obtain ⟨d1, d2⟩ := lcm_both l.length l'.length
  have q1 := per_up (per_lcm (per_at h l) d1) (Nat.le_max_left h.length h'.length)
  have q2 := per_up (per_lcm (per_at h' l') d2) (Nat.le_max_right h.length h'.length)
  refine ⟨lcm_pos p1 p2, fun n hn => ?_⟩
  show bitS (g (inS (atS h l) (n + lcL2 l l')) (inS (atS h' l') (n + lcL2 l l'))) = _
  have e1 : inS (atS h l) (n + lcL2 l l') = inS (atS h l) n := by unfold inS lcL2; rw [q1 n hn]
  have e2 : inS (atS h' l') (n + lcL2 l l') = inS (atS h' l') n := by unfold inS lcL2; rw [q2 n hn]
  rw [e1, e2]
theorem Tryd.enF82 : EnF 81 := fun _ _ => by kernel_rfl

set_option maxRecDepth 10000 in
set_option maxHeartbeats 2000000 in
theorem combined_any (G : Nat) (g : Bool → Bool → Bool) (EN : EnF G) (GC : ChF G g) (h l h' l' : List UInt8) (w : World) (hh : h.length ≤ 1000000000) (hl : l.length ≤ 1000000000) (hh' : h'.length ≤ 1000000000) (hl' : l'.length ≤ 1000000000) :
    Calls Tryd.prog 43 #[.agg #[.string (bs h), .string (bs l)], .agg #[.string (bs h'), .string (bs l')], .func (.func G) #[] #[]] w fun e w' => e = .returned (.tuple #[.agg #[.string (bs (combR g h l h' l').1.1), .string (bs (combR g h l h' l').1.2)], .bool (combR g h l h' l').2]) ∧ Below w.heap.size w w' := by
  have HV := Lib.hid fun w => SetValid_any h l w hh hl
  have HV2 := Lib.hid fun w => SetValid_any h' l' w hh' hl'
  have HS := Lib.hid (svS_parts (h := h) (l := l))
  have HS2 := Lib.hid (svS_parts (h := h') (l := l'))
  obtain ⟨v, hv⟩ : ∃ v, svS h l = v := ⟨_, rfl⟩
  obtain ⟨v2, hv2⟩ : ∃ v, svS h' l' = v := ⟨_, rfl⟩
  have HQ : Hid (svS h l = v) := Lib.hid hv
  have HQ2 : Hid (svS h' l' = v2) := Lib.hid hv2
  rw [hv] at HV
  rw [hv2] at HV2
  clear hv hv2
  go_enter Tryd.func43, Tryd.ntmps43
  go_wp2_with fail
  generalize hW0 : World.alloc w _ = W0
  obtain ⟨hx, hsx, hwx⟩ := s2_new hW0
  clear hW0
  generalize hW : World.alloc W0 _ = W1
  obtain ⟨hz, hsz, hwz⟩ := s2_new hW
  rw [hsx] at hz
  clear hW
  generalize hW : World.alloc W1 _ = W2
  obtain ⟨hf, hsf, hwf⟩ := fb_new hW
  rw [hsz, hsx] at hf
  clear hW
  generalize hW : World.alloc W2 _ = W
  obtain ⟨hr, hsr, hwr⟩ := s2_new hW
  rw [hsf, hsz, hsx] at hr
  clear hW
  have X1 := s2_on hx (below_on hwz (below_on hwf hwr))
  have Z1 := s2_on hz (below_on hwf hwr)
  have F1 := fb_on hf hwr
  have B1 := below_on hwx (below_on hwz (below_on hwf hwr))
  clear hx hz hf hwx hwz hwf hwr hsx hsz hsf hsr
  have hne : w.heap.size ≤ w.heap.size + 1 + 1 + 1 := by omega
  obtain ⟨a0, a1, a2, a3⟩ := id X1
  refine (HV.out _).mono ?_
  rintro e w3 ⟨rfl, hb3⟩
  have X3 := s2_on X1 hb3
  have Z3 := s2_on Z1 hb3
  have F3 := fb_on F1 hb3
  have R3 := s2_on hr hb3
  have B3 := below_on B1 hb3
  clear a0 a1 a2 a3
  obtain ⟨a0, a1, a2, a3⟩ := id R3
  obtain ⟨z0, z1, z2, z3⟩ := id Z3
  cases v with
  | false =>
    have HF : Hid (combR g h l h' l' = (([], []), false)) := Lib.hid (by unfold combR; rw [HQ.out]; rfl)
    go_wp2
    generalize hW : World.setCell _ _ _ = W8
    obtain ⟨⟨_, r1, r2, _⟩, _, _, hb8⟩ := s2_put hW _ _ R3
    refine bodyPost_ret (v := .tuple #[.agg #[.string ⟨#[]⟩, .string ⟨#[]⟩], .bool false]) (by simp [results, Tryd.results43, go_sem, r1, r2]) rfl ⟨by rw [HF.out]; rfl, ?_⟩
    exact hb8 w B3 hne
  | true =>
    go_wp2_with fail
    refine (HV2.out _).mono ?_
    rintro e w4 ⟨rfl, hb4⟩
    have X4 := s2_on X3 hb4
    have Z4 := s2_on Z3 hb4
    have F4 := fb_on F3 hb4
    have R4 := s2_on R3 hb4
    have B4 := below_on B3 hb4
    clear a0 a1 a2 a3 z0 z1 z2 z3
    cases v2 with
    | false =>
      have HF : Hid (combR g h l h' l' = (([], []), false)) := Lib.hid (by unfold combR; rw [HQ.out, HQ2.out]; rfl)
      obtain ⟨a0, a1, a2, a3⟩ := id R4
      go_wp2
      generalize hW : World.setCell _ _ _ = W8
      obtain ⟨⟨_, r1, r2, _⟩, _, _, hb8⟩ := s2_put hW _ _ R4
      refine bodyPost_ret (v := .tuple #[.agg #[.string ⟨#[]⟩, .string ⟨#[]⟩], .bool false]) (by simp [results, Tryd.results43, go_sem, r1, r2]) rfl ⟨by rw [HF.out]; rfl, ?_⟩
      exact hb8 w B4 hne
    | true =>
      obtain ⟨q1, q2, q3, q4, q5, q6⟩ := HS.out HQ.out
      obtain ⟨p1, p2, p3, p4, p5, p6⟩ := HS2.out HQ2.out
      obtain ⟨c1, c2⟩ := comb_per (g := g) (h := h) (h' := h') q6 p6
      have hcl : lcL2 l l' ≤ 100000 := Nat.le_trans (lcm_le _ _) (by have := Nat.mul_le_mul q5 p5; omega)
      have hmx : max h.length h'.length ≤ 400 := by omega
      have HF : Hid (combR g h l h' l' = resA (fun n => bitS (g (inS (atS h l) n) (inS (atS h' l') n)))) := Lib.hid (by unfold combR; rw [HQ.out, HQ2.out]; rfl)
      have HCL := Lib.hid fun w => commonLoop_any h l h' l' w q6 (by omega) (by omega)
      have HSO : Hid (∀ W, S2 W w.heap.size (bs h) (bs l) → S2 W (w.heap.size + 1) (bs h') (bs l') → FB W (w.heap.size + 1 + 1) (.func (.func G) #[] #[]) →
          Calls Tryd.prog 51 #[.int .i64 ((max h.length h'.length : Nat) : Int), .int .i64 (lcL2 l l' : Nat), .func (.func 81) #[] #[.pointer (some ⟨w.heap.size + 1 + 1, 0, none⟩), .pointer (some ⟨w.heap.size, 0, none⟩), .pointer (some ⟨w.heap.size + 1, 0, none⟩)]] W fun e w' => e = .returned (.tuple #[.agg #[.string (bs (resA (fun n => bitS (g (inS (atS h l) n) (inS (atS h' l') n)))).1.1), .string (bs (resA (fun n => bitS (g (inS (atS h l) n) (inS (atS h' l') n)))).1.2)], .bool (resA (fun n => bitS (g (inS (atS h l) n) (inS (atS h' l') n)))).2]) ∧ Below W.heap.size W w') := Lib.hid fun W s1 s2 s3 => by
        have := setOf_any 81 #[.pointer (some ⟨w.heap.size + 1 + 1, 0, none⟩), .pointer (some ⟨w.heap.size, 0, none⟩), .pointer (some ⟨w.heap.size + 1, 0, none⟩)] (fun n => g (inS (atS h l) n) (inS (atS h' l') n)) (max h.length h'.length) (lcL2 l l') W Tryd.enF82 c1 (by omega)
          (fun V hV k hk => comb1_any G g EN GC h l h' l' k _ _ _ V q6 p6 hh hl hh' hl' (by omega) (fb_on s3 hV) (s2_on s1 hV) (s2_on s2 hV))
        rw [raw_at c1 c2] at this
        exact this
      obtain ⟨m, hm⟩ : ∃ m, max h.length h'.length = m := ⟨_, rfl⟩
      obtain ⟨p, hp⟩ : ∃ p, lcL2 l l' = p := ⟨_, rfl⟩
      obtain ⟨r, hrr⟩ : ∃ r, resA (fun n => bitS (g (inS (atS h l) n) (inS (atS h' l') n))) = r := ⟨_, rfl⟩
      have hs1 := bs_size h
      have hs2 := bs_size h'
      obtain ⟨k1, hk1⟩ : ∃ k, h.length = k := ⟨_, rfl⟩
      obtain ⟨k2, hk2⟩ : ∃ k, h'.length = k := ⟨_, rfl⟩
      have hmax : max (k1 : Int) (k2 : Int) = (m : Int) := by rw [← hm, hk1, hk2]; omega
      rw [hm, hp, hrr] at HSO
      rw [hrr] at HF
      rw [hp] at HCL
      rw [hk1] at hs1
      rw [hk2] at hs2
      have X := Lib.hid X4
      have Z := Lib.hid Z4
      have F := Lib.hid F4
      have R := Lib.hid R4
      have B := Lib.hid B4
      clear X1 Z1 F1 hr B1 X3 Z3 F3 R3 B3 X4 Z4 F4 R4 B4 hm hp hrr hk1 hk2 c1 c2 q1 q2 q3 q4 q5 q6 p1 p2 p3 p4 p5 p6 hcl hmx hh hl hh' hl' hb3 hb4
      go_wp2_with fail
      refine wp_region_held_drew (S := (fun w' => (w'.cell? ⟨w.heap.size, 0, none⟩ = some (.string (bs h)) ∧ w'.cell? ⟨w.heap.size, 1, none⟩ = some (.string (bs l))) ∧ w'.cell? ⟨w.heap.size + 1, 0, none⟩ = some (.string (bs h')) ∧ w'.cell? ⟨w.heap.size + 1, 1, none⟩ = some (.string (bs l')))) (by kernel_rfl) ?_ (fun hHeld => ?_)
      · try dsimp only
        first | (refine ⟨s2_keep X.out ?_, s2_keep Z.out ?_⟩ <;> go_grown; done) | (refine ⟨⟨?_, ?_⟩, ?_, ?_⟩ <;> simp [go_sem, *])
      refine wpAnyH_take (i := 0) (oi := { dst := some 19, op := Go.Op.fieldAddr 25 (Go.Operand.tmp 3) 0, type := 0, pos := "l7_sets.go:167", after := #[], guard := none }) (v := ?_) rfl (by kernel_rfl) (by kernel_rfl) (by kernel_rfl) (fun _ _ _ h => h) (Or.inl ⟨by rfl, ?_⟩) (by assumption) ?_
      rotate_left
      · (intro w hSw; (try dsimp only at hSw); first | (go_simp; done) | (go_simp; with_reducible rfl))
      try simp only [Act.put, List.setIfInBounds_toArray, List.set_cons_zero, List.set_cons_succ]
      refine wpAnyH_take (i := 1) (oi := { dst := some 20, op := Go.Op.load 9 (Go.Operand.tmp 19), type := 9, pos := "l7_sets.go:167", after := #[{ on := 0, ground := Go.Ground.data }], guard := none }) (v := ?_) rfl (by kernel_rfl) (by kernel_rfl) (by kernel_rfl) (fun _ _ _ h => h) (Or.inl ⟨by rfl, ?_⟩) (by assumption) ?_
      rotate_left
      · (intro w hSw; (try dsimp only at hSw); first | (go_simp; done) | (go_simp; with_reducible rfl))
      try simp only [Act.put, List.setIfInBounds_toArray, List.set_cons_zero, List.set_cons_succ]
      refine wpAnyH_take (i := 2) (oi := { dst := some 21, op := Go.Op.call { callee := Go.Callee.builtin Go.Builtin.len, args := #[Go.Operand.tmp 20], argTypes := #[9] }, type := 3, pos := "l7_sets.go:167", after := #[{ on := 1, ground := Go.Ground.data }], guard := none }) (v := ?_) rfl (by kernel_rfl) (by kernel_rfl) (by kernel_rfl) (fun _ _ _ h => h) (Or.inl ⟨by rfl, ?_⟩) (by assumption) ?_
      rotate_left
      · (intro w hSw; (try dsimp only at hSw); first | (go_simp; done) | (go_simp; with_reducible rfl))
      try simp only [Act.put, List.setIfInBounds_toArray, List.set_cons_zero, List.set_cons_succ]
      refine wpAnyH_take (i := 3) (oi := { dst := some 22, op := Go.Op.fieldAddr 25 (Go.Operand.tmp 4) 0, type := 0, pos := "l7_sets.go:167", after := #[], guard := none }) (v := ?_) rfl (by kernel_rfl) (by kernel_rfl) (by kernel_rfl) (fun _ _ _ h => h) (Or.inl ⟨by rfl, ?_⟩) (by assumption) ?_
      rotate_left
      · (intro w hSw; (try dsimp only at hSw); first | (go_simp; done) | (go_simp; with_reducible rfl))
      try simp only [Act.put, List.setIfInBounds_toArray, List.set_cons_zero, List.set_cons_succ]
      refine wpAnyH_take (i := 4) (oi := { dst := some 23, op := Go.Op.load 9 (Go.Operand.tmp 22), type := 9, pos := "l7_sets.go:167", after := #[{ on := 3, ground := Go.Ground.data }], guard := none }) (v := ?_) rfl (by kernel_rfl) (by kernel_rfl) (by kernel_rfl) (fun _ _ _ h => h) (Or.inl ⟨by rfl, ?_⟩) (by assumption) ?_
      rotate_left
      · (intro w hSw; (try dsimp only at hSw); first | (go_simp; done) | (go_simp; with_reducible rfl))
      try simp only [Act.put, List.setIfInBounds_toArray, List.set_cons_zero, List.set_cons_succ]
      refine wpAnyH_take (i := 5) (oi := { dst := some 24, op := Go.Op.call { callee := Go.Callee.builtin Go.Builtin.len, args := #[Go.Operand.tmp 23], argTypes := #[9] }, type := 3, pos := "l7_sets.go:167", after := #[{ on := 4, ground := Go.Ground.data }], guard := none }) (v := ?_) rfl (by kernel_rfl) (by kernel_rfl) (by kernel_rfl) (fun _ _ _ h => h) (Or.inl ⟨by rfl, ?_⟩) (by assumption) ?_
      rotate_left
      · (intro w hSw; (try dsimp only at hSw); first | (go_simp; done) | (go_simp; with_reducible rfl))
      try simp only [Act.put, List.setIfInBounds_toArray, List.set_cons_zero, List.set_cons_succ]
      refine wpAnyH_take (i := 6) (oi := { dst := some 25, op := Go.Op.call { callee := Go.Callee.builtin Go.Builtin.max, args := #[Go.Operand.tmp 21, Go.Operand.tmp 24], argTypes := #[3, 3] }, type := 3, pos := "l7_sets.go:167", after := #[{ on := 2, ground := Go.Ground.data }, { on := 5, ground := Go.Ground.data }], guard := none }) (v := ?_) rfl (by kernel_rfl) (by kernel_rfl) (by kernel_rfl) (fun _ _ _ h => h) (Or.inl ⟨by rfl, ?_⟩) (by assumption) ?_
      rotate_left
      · (intro w hSw; (try dsimp only at hSw); first | (go_simp; done) | (go_simp; with_reducible rfl))
      try simp only [Act.put, List.setIfInBounds_toArray, List.set_cons_zero, List.set_cons_succ]
      refine wpAnyH_take (i := 7) (oi := { dst := some 26, op := Go.Op.load 25 (Go.Operand.tmp 3), type := 25, pos := "l7_sets.go:167", after := #[], guard := none }) (v := ?_) rfl (by kernel_rfl) (by kernel_rfl) (by kernel_rfl) (fun _ _ _ h => h) (Or.inl ⟨by rfl, ?_⟩) (by assumption) ?_
      rotate_left
      · (intro w hSw; (try dsimp only at hSw); first | (go_simp; done) | (go_simp; with_reducible rfl))
      try simp only [Act.put, List.setIfInBounds_toArray, List.set_cons_zero, List.set_cons_succ]
      refine wpAnyH_take (i := 8) (oi := { dst := some 27, op := Go.Op.load 25 (Go.Operand.tmp 4), type := 25, pos := "l7_sets.go:167", after := #[], guard := none }) (v := ?_) rfl (by kernel_rfl) (by kernel_rfl) (by kernel_rfl) (fun _ _ _ h => h) (Or.inl ⟨by rfl, ?_⟩) (by assumption) ?_
      rotate_left
      · (intro w hSw; (try dsimp only at hSw); first | (go_simp; done) | (go_simp; with_reducible rfl))
      try simp only [Act.put, List.setIfInBounds_toArray, List.set_cons_zero, List.set_cons_succ]
      refine wpAnyH_take (i := 10) (oi := { dst := some 29, op := Go.Op.move (Go.Operand.tmp 8), type := 55, pos := "l7_sets.go:167", after := #[], guard := none }) (v := ?_) rfl (by kernel_rfl) (by kernel_rfl) (by kernel_rfl) (fun _ _ _ h => h) (Or.inl ⟨by rfl, ?_⟩) (by assumption) ?_
      rotate_left
      · (intro w hSw; (try dsimp only at hSw); first | (go_simp; done) | (go_simp; with_reducible rfl))
      try simp only [Act.put, List.setIfInBounds_toArray, List.set_cons_zero, List.set_cons_succ]
      refine wpAnyH_ready (rs := [9]) (by kernel_rfl) (by simp) ?_
      refine AllReadyH.cons (o := { dst := some 28, op := Go.Op.call { callee := Go.Callee.value (Go.Operand.func 65), args := #[Go.Operand.tmp 26, Go.Operand.tmp 27], argTypes := #[25, 25] }, type := 3, pos := "l7_sets.go:167", after := #[{ on := 7, ground := Go.Ground.data }, { on := 8, ground := Go.Ground.data }], guard := none }) rfl (fun K hK => ?_) AllReadyH.nil
      go_simp
      (go_at_call 65; refine (HCL.out _).mono ?_; rintro e w5 ⟨rfl, hb5⟩; have hbW5 := below_on (w := w4) (by go_grown) hb5)
      (try go_wp2_with fail)
      refine hK.out _ _ ?_ (fun hHeld => ?_)
      · try dsimp only
        first | (refine ⟨s2_keep X.out ?_, s2_keep Z.out ?_⟩ <;> go_grown; done) | (refine ⟨⟨?_, ?_⟩, ?_, ?_⟩ <;> simp [go_sem, *])
      clear hK K
      try simp only [Act.put, List.setIfInBounds_toArray, List.set_cons_zero, List.set_cons_succ]
      refine wpAnyH_ready (rs := [11]) (by kernel_rfl) (by simp) ?_
      refine AllReadyH.cons (o := { dst := some 30, op := Go.Op.call { callee := Go.Callee.value (Go.Operand.func 51), args := #[Go.Operand.tmp 25, Go.Operand.tmp 28, Go.Operand.tmp 29], argTypes := #[3, 3, 55] }, type := 26, pos := "l7_sets.go:167", after := #[{ on := 6, ground := Go.Ground.data }, { on := 9, ground := Go.Ground.data }, { on := 10, ground := Go.Ground.data }, { on := 9, ground := Go.Ground.chain }], guard := none }) rfl (fun K hK => ?_) AllReadyH.nil
      go_simp
      (go_at_call 51; refine (HSO.out _ (s2_on X.out (by go_grown)) (s2_on Z.out (by go_grown)) (fb_on F.out (by go_grown))).mono ?_; rintro e w6 ⟨rfl, hb6⟩; have hbW6 : Below w4.heap.size w4 w6 := below_on (w := w5) (by go_grown) hb6 |> below_on hbW5; have R6 := s2_on R.out hbW6; obtain ⟨a0, a1, a2, a3⟩ := id R6; obtain ⟨x0, x1, x2, x3⟩ := s2_on X.out hbW6; obtain ⟨z0, z1, z2, z3⟩ := s2_on Z.out hbW6)
      (try go_wp2_with fail)
      refine hK.out _ _ ?_ (fun hHeld => ?_)
      · try dsimp only
        first | (refine ⟨s2_keep X.out ?_, s2_keep Z.out ?_⟩ <;> go_grown; done) | (refine ⟨⟨?_, ?_⟩, ?_, ?_⟩ <;> simp [go_sem, *])
      clear hK K
      try simp only [Act.put, List.setIfInBounds_toArray, List.set_cons_zero, List.set_cons_succ]
      refine wpAnyH_take (i := 12) (oi := { dst := some 31, op := Go.Op.extract (Go.Operand.tmp 30) 0, type := 25, pos := "l7_sets.go:167", after := #[{ on := 11, ground := Go.Ground.data }], guard := none }) (v := ?_) rfl (by kernel_rfl) (by kernel_rfl) (by kernel_rfl) (fun _ _ _ h => h) (Or.inl ⟨by rfl, ?_⟩) (by assumption) ?_
      rotate_left
      · (intro w hSw; (try dsimp only at hSw); first | (go_simp; done) | (go_simp; with_reducible rfl))
      try simp only [Act.put, List.setIfInBounds_toArray, List.set_cons_zero, List.set_cons_succ]
      refine wpAnyH_take (i := 13) (oi := { dst := some 32, op := Go.Op.extract (Go.Operand.tmp 30) 1, type := 4, pos := "l7_sets.go:167", after := #[{ on := 11, ground := Go.Ground.data }], guard := none }) (v := ?_) rfl (by kernel_rfl) (by kernel_rfl) (by kernel_rfl) (fun _ _ _ h => h) (Or.inl ⟨by rfl, ?_⟩) (by assumption) ?_
      rotate_left
      · (intro w hSw; (try dsimp only at hSw); first | (go_simp; done) | (go_simp; with_reducible rfl))
      try simp only [Act.put, List.setIfInBounds_toArray, List.set_cons_zero, List.set_cons_succ]
      refine wpAnyH_ready (rs := [14]) (by kernel_rfl) (by simp) ?_
      refine AllReadyH.cons (o := { dst := none, op := Go.Op.store 25 (Go.Operand.tmp 6) (Go.Operand.tmp 31), type := 0, pos := "l7_sets.go:167", after := #[{ on := 12, ground := Go.Ground.data }, { on := 11, ground := Go.Ground.chain }, { on := 0, ground := Go.Ground.phase }, { on := 1, ground := Go.Ground.phase }, { on := 2, ground := Go.Ground.phase }, { on := 3, ground := Go.Ground.phase }, { on := 4, ground := Go.Ground.phase }, { on := 5, ground := Go.Ground.phase }, { on := 6, ground := Go.Ground.phase }, { on := 7, ground := Go.Ground.phase }, { on := 8, ground := Go.Ground.phase }, { on := 9, ground := Go.Ground.phase }, { on := 10, ground := Go.Ground.phase }, { on := 11, ground := Go.Ground.phase }, { on := 12, ground := Go.Ground.phase }, { on := 13, ground := Go.Ground.phase }], guard := none }) rfl (fun K hK => ?_) AllReadyH.nil
      go_simp
      refine hK.out _ _ ?_ (fun hHeld => ?_)
      · try dsimp only
        first | (refine ⟨s2_keep X.out ?_, s2_keep Z.out ?_⟩ <;> go_grown; done) | (refine ⟨⟨?_, ?_⟩, ?_, ?_⟩ <;> simp [go_sem, *])
      clear hK K
      try simp only [Act.put, List.setIfInBounds_toArray, List.set_cons_zero, List.set_cons_succ]
      refine wpAnyH_take (i := 15) (oi := { dst := some 7, op := Go.Op.assign (Go.Operand.tmp 32), type := 4, pos := "l7_sets.go:167", after := #[{ on := 13, ground := Go.Ground.data }, { on := 14, ground := Go.Ground.chain }, { on := 0, ground := Go.Ground.phase }, { on := 1, ground := Go.Ground.phase }, { on := 2, ground := Go.Ground.phase }, { on := 3, ground := Go.Ground.phase }, { on := 4, ground := Go.Ground.phase }, { on := 5, ground := Go.Ground.phase }, { on := 6, ground := Go.Ground.phase }, { on := 7, ground := Go.Ground.phase }, { on := 8, ground := Go.Ground.phase }, { on := 9, ground := Go.Ground.phase }, { on := 10, ground := Go.Ground.phase }, { on := 11, ground := Go.Ground.phase }, { on := 12, ground := Go.Ground.phase }, { on := 13, ground := Go.Ground.phase }, { on := 14, ground := Go.Ground.phase }], guard := none }) (v := ?_) rfl (by kernel_rfl) (by kernel_rfl) (by kernel_rfl) (fun _ _ _ h => h) (Or.inl ⟨by rfl, ?_⟩) (by assumption) ?_
      rotate_left
      · (intro w hSw; (try dsimp only at hSw); first | (go_simp; done) | (go_simp; with_reducible rfl))
      try simp only [Act.put, List.setIfInBounds_toArray, List.set_cons_zero, List.set_cons_succ]
      refine wpAnyH_done (by kernel_rfl) ?_ _
      go_wp2
      generalize hW : World.setCell _ _ _ = W8
      obtain ⟨⟨_, r1, r2, _⟩, _, _, hb8⟩ := s2_put hW _ _ R6
      refine bodyPost_ret (v := .tuple #[.agg #[.string (bs r.1.1), .string (bs r.1.2)], .bool r.2]) (by simp [results, Tryd.results43, go_sem, r1, r2]) rfl ⟨by rw [HF.out], ?_⟩
      exact below_on (hb8 w (below_on B.out hbW6) hne) (by go_grown)
end Go.Proofs.YtpheihejgnlanaaDoor
