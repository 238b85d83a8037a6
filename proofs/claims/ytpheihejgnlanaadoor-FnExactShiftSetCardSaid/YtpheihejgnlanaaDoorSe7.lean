/- Several texts in one: SeA SeB SeC SeD SeE SeF. -/
import Derived.Test.YtpheihejgnlanaaDoorSd7

/- The model's l7Both, UnionSets, MeetSets. -/
namespace Go.Proofs.YtpheihejgnlanaaDoor
open Go.RowKit

set_option maxHeartbeats 400000 in
theorem l7Bit_any (b : Bool) (w : World) :
    Calls Tryd.prog 60 #[.bool b] w fun e w' => e = .returned (.int .u8 ((bitS b).toNat : Int)) ∧ w = w' := by
  cases b
  all_goals
    go_enter Tryd.func60, Tryd.ntmps60
    go_wp2
    go_ret
    exact ⟨rfl, rfl⟩

/-- A store into another block. -/
theorem s2_set {W : World} {b c j : Nat} {x y : ByteArray} {v : Value} (h : S2 W b x y) (hne : c ≠ b) : S2 (W.setCell ⟨c, j, none⟩ v) b x y := by
  obtain ⟨z0, z1, z2, z3⟩ := h
  exact ⟨by simpa [World.setCell] using z0, by rw [World.cell?_setCell_far _ _ _ _ hne]; exact z1, by rw [World.cell?_setCell_far _ _ _ _ hne]; exact z2, fun o => by simpa using z3 o⟩
theorem rowb_set {W : World} {b c j : Nat} {l : List UInt8} {v : Value} (h : RowB W b l) (hne : c ≠ b) : RowB (W.setCell ⟨c, j, none⟩ v) b l :=
  ⟨by simpa [World.setCell] using h.1, fun i x hx => by rw [World.cell?_setCell_far _ _ _ _ hne]; exact h.2 i x hx⟩
/-- The model's choice. -/
def bothB (all x y : Bool) : Bool := (x && y) || (!all && (x || y))

set_option maxRecDepth 10000 in
set_option maxHeartbeats 4000000 in
theorem l7Both_any (h l h' l' : List UInt8) (all : Bool) (w : World) (hv : svS h l = true) (hv' : svS h' l' = true) :
    Calls Tryd.prog 42 #[.agg #[.string (bs h), .string (bs l)], .agg #[.string (bs h'), .string (bs l')], .bool all] w fun e w' => e = .returned (.tuple #[.agg #[.string (bs (resA (fun n => bitS (bothB all (inS (atS h l) n) (inS (atS h' l') n)))).1.1), .string (bs (resA (fun n => bitS (bothB all (inS (atS h l) n) (inS (atS h' l') n)))).1.2)], .bool (resA (fun n => bitS (bothB all (inS (atS h l) n) (inS (atS h' l') n)))).2]) ∧ Below w.heap.size w w' := by
  obtain ⟨q1, q2, q3, q4, q5, q6⟩ := svS_parts hv
  obtain ⟨p1, p2, p3, p4, p5, p6⟩ := svS_parts hv'
  obtain ⟨c1, c2⟩ := comb_per (g := bothB all) (h := h) (h' := h') q6 p6
  have HA := Lib.hid fun (n : Nat) (hn : n ≤ 9223372036854775807) w => l7Has_any h l n w q6 (by omega) (by omega) hn
  have HB0 := Lib.hid fun (n : Nat) (hn : n ≤ 9223372036854775807) w => l7Has_any h' l' n w p6 (by omega) (by omega) hn
  obtain ⟨f, hf⟩ : ∃ f : Nat → Bool, (fun n => bothB all (inS (atS h l) n) (inS (atS h' l') n)) = f := ⟨_, rfl⟩
  have hfn : ∀ n, bothB all (inS (atS h l) n) (inS (atS h' l') n) = f n := fun n => by rw [← hf]
  have HFN := Lib.hid hfn
  simp only [hfn] at c2 ⊢
  have hs1 := bs_size h
  have hs2 := bs_size h'
  have hs3 := bs_size l
  have hs4 := bs_size l'
  have hcl : lcL2 l l' ≤ 57600 := Nat.le_trans (lcm_le _ _) (Nat.le_trans (Nat.mul_le_mul q5 p5) (by omega))
  have HR : Hid (lcL2 l l' = l.length / Nat.gcd l.length l'.length * l'.length) := Lib.hid rfl
  obtain ⟨H, hH⟩ : ∃ k, h.length = k := ⟨_, rfl⟩
  obtain ⟨H', hH'⟩ : ∃ k, h'.length = k := ⟨_, rfl⟩
  obtain ⟨L, hL⟩ : ∃ k, l.length = k := ⟨_, rfl⟩
  obtain ⟨L', hL'⟩ : ∃ k, l'.length = k := ⟨_, rfl⟩
  rw [hL, hL'] at HR
  rw [hH] at hs1
  rw [hH'] at hs2
  rw [hL] at hs3
  rw [hL'] at hs4
  obtain ⟨N, hN⟩ : ∃ k, max H H' = k := ⟨_, rfl⟩
  have hmax : max (H : Int) (H' : Int) = (N : Int) := by omega
  have HG := Lib.hid fun w => l1Gcd_any (L : Int) (L' : Int) w (by omega) (by omega) (by omega) (by omega)
  obtain ⟨g, hg⟩ : ∃ g, Nat.gcd L L' = g := ⟨_, rfl⟩
  have hg0 : 0 < g := by rw [← hg]; exact Nat.gcd_pos_of_pos_left _ (by omega)
  have hgg : (Int.gcd (L : Int) (L' : Int)) = g := by rw [← hg]; rfl
  rw [hgg] at HG
  rw [hg] at HR
  obtain ⟨d, hd⟩ : ∃ d, L / g = d := ⟨_, rfl⟩
  have hdl : d ≤ L := by rw [← hd]; exact Nat.div_le_self _ _
  have ht : (L : Int).tdiv (g : Int) = (d : Int) := by rw [tdiv_n2, hd]
  obtain ⟨p, hp⟩ : ∃ r, d * L' = r := ⟨_, rfl⟩
  have hmp : (d : Int) * (L' : Int) = (p : Int) := by rw [← hp]; exact (Int.natCast_mul d L').symm
  rw [hd, hp] at HR
  rw [hH, hH', hN, HR.out] at c2
  rw [HR.out] at c1 hcl
  have hg1 : (g : Int) ≠ 0 := by omega
  have hg2 : g ≠ 0 := by omega
  have hwd : IntKind.i64.wrap (d : Int) = (d : Int) := by rw [IntKind.wrap_i64]; omega
  have hwp : IntKind.i64.wrap (p : Int) = (p : Int) := by rw [IntKind.wrap_i64]; omega
  obtain ⟨m, hm⟩ : ∃ m, N + p = m := ⟨_, rfl⟩
  have hmb : m ≤ 100000 := by omega
  have hNm : N < m := by omega
  have hwm : IntKind.i64.wrap ((N : Int) + (p : Int)) = (m : Int) := by rw [IntKind.wrap_i64]; omega
  obtain ⟨M, hmk, hMs⟩ := br_new m (by omega)
  obtain ⟨HT, LT⟩ := rng_take f N p
  obtain ⟨b1, b2⟩ := raw_bits (f := f) (N := N) (p := p)
  have hraw := raw_at c1 c2
  obtain ⟨A, hA⟩ : ∃ X, rawH (fun n => bitS (f n)) N = X := ⟨_, rfl⟩
  obtain ⟨B, hB⟩ : ∃ X, rawL (fun n => bitS (f n)) N p = X := ⟨_, rfl⟩
  have hAl : A.length = N := by rw [← hA]; simp [rawH]
  have hBl : B.length = p := by rw [← hB]; simp [rawL]
  rw [hA, hB] at hraw
  rw [hA] at b1 HT
  rw [hB] at b2 LT
  rw [hm] at HT LT
  have HRD := Lib.hid fun w => l7Result_any A B w (fun e => by rw [e] at hBl; simp at hBl; omega) b1 b2 (by omega) (by omega)
  rw [hraw] at HRD
  obtain ⟨r, hr⟩ : ∃ r, resA (fun n => bitS (f n)) = r := ⟨_, rfl⟩
  rw [hr] at HRD
  rw [hr]
  have HLN : Hid (((List.range m).map fun i => bitS (f i)).length = m) := Lib.hid (by simp)
  generalize hl : ((List.range m).map fun i => bitS (f i)) = lb at HT LT HLN
  have HHT := Lib.hid HT
  have HLT := Lib.hid LT
  have HLB := Lib.hid hl
  have HMS := Lib.hid hMs
  have hmN : m - N = p := by omega
  have HMN := Lib.hid hmN
  have HAF : Hid (∀ k x y, inS (atS h l) k = x → inS (atS h' l') k = y → f k = bothB all x y) := Lib.hid fun k x y e1 e2 => by rw [← HFN.out, e1, e2]
  clear q1 q2 q3 q4 q5 q6 p1 p2 p3 p4 p5 p6 c1 c2 hf hfn hH hH' hL hL' hN hg hgg hd hp hm HT LT b1 b2 hraw hA hB hAl hBl hr hl hMs hmN hv hv' hg0 hcl hdl
  go_enter Tryd.func42, Tryd.ntmps42
  go_wp2_with fail
  generalize hW0 : World.alloc w _ = W0
  obtain ⟨hx, hsx, hwx⟩ := s2_new hW0
  clear hW0
  generalize hW : World.alloc W0 _ = W1
  obtain ⟨hz, hsz, hwz⟩ := s2_new hW
  rw [hsx] at hz
  clear hW
  generalize hW : World.alloc W1 _ = W2
  obtain ⟨hrr, hsr, hwr⟩ := s2_new hW
  rw [hsz, hsx] at hrr
  clear hW
  have X2 := Lib.hid (s2_on hx (below_on hwz hwr))
  have Z2 := Lib.hid (s2_on hz hwr)
  have R2 := Lib.hid hrr
  have B2 := Lib.hid (below_on hwx (below_on hwz hwr))
  have S2s : W2.heap.size = w.heap.size + 1 + 1 + 1 := by omega
  clear hx hz hrr hwx hwz hwr hsx hsz hsr
  obtain ⟨x0, x1, x2, x3⟩ := id X2.out
  obtain ⟨z0, z1, z2, z3⟩ := id Z2.out
  go_upto_region 2 with fail
  clear x0 x1 x2 x3 z0 z1 z2 z3
  refine wp_region_held_drew (S := (fun w' => (w'.cell? ⟨w.heap.size, 0, none⟩ = some (.string (bs h)) ∧ w'.cell? ⟨w.heap.size, 1, none⟩ = some (.string (bs l))) ∧ w'.cell? ⟨w.heap.size + 1, 0, none⟩ = some (.string (bs h')) ∧ w'.cell? ⟨w.heap.size + 1, 1, none⟩ = some (.string (bs l')))) (by kernel_rfl) ?_ (fun hHeld => ?_)
  · try dsimp only
    exact ⟨s2_keep X2.out (by go_grown), s2_keep Z2.out (by go_grown)⟩
  refine wpAnyH_take (i := 0) (oi := { dst := some 21, op := Go.Op.fieldAddr 25 (Go.Operand.tmp 3) 1, type := 0, pos := "l7_sets.go:105", after := #[], guard := none }) (v := ?_) rfl (by kernel_rfl) (by kernel_rfl) (by kernel_rfl) (fun _ _ _ h => h) (Or.inl ⟨by rfl, ?_⟩) (by assumption) ?_
  rotate_left
  · (intro w hSw; (try dsimp only at hSw); first | (go_simp; done) | (go_simp; with_reducible rfl))
  try simp only [Act.put, List.setIfInBounds_toArray, List.set_cons_zero, List.set_cons_succ]
  refine wpAnyH_take (i := 1) (oi := { dst := some 22, op := Go.Op.load 9 (Go.Operand.tmp 21), type := 9, pos := "l7_sets.go:105", after := #[{ on := 0, ground := Go.Ground.data }], guard := none }) (v := ?_) rfl (by kernel_rfl) (by kernel_rfl) (by kernel_rfl) (fun _ _ _ h => h) (Or.inl ⟨by rfl, ?_⟩) (by assumption) ?_
  rotate_left
  · (intro w hSw; (try dsimp only at hSw); first | (go_simp; done) | (go_simp; with_reducible rfl))
  try simp only [Act.put, List.setIfInBounds_toArray, List.set_cons_zero, List.set_cons_succ]
  refine wpAnyH_take (i := 2) (oi := { dst := some 23, op := Go.Op.call { callee := Go.Callee.builtin Go.Builtin.len, args := #[Go.Operand.tmp 22], argTypes := #[9] }, type := 3, pos := "l7_sets.go:105", after := #[{ on := 1, ground := Go.Ground.data }], guard := none }) (v := ?_) rfl (by kernel_rfl) (by kernel_rfl) (by kernel_rfl) (fun _ _ _ h => h) (Or.inl ⟨by rfl, ?_⟩) (by assumption) ?_
  rotate_left
  · (intro w hSw; (try dsimp only at hSw); first | (go_simp; done) | (go_simp; with_reducible rfl))
  try simp only [Act.put, List.setIfInBounds_toArray, List.set_cons_zero, List.set_cons_succ]
  refine wpAnyH_take (i := 3) (oi := { dst := some 24, op := Go.Op.fieldAddr 25 (Go.Operand.tmp 3) 1, type := 0, pos := "l7_sets.go:105", after := #[], guard := none }) (v := ?_) rfl (by kernel_rfl) (by kernel_rfl) (by kernel_rfl) (fun _ _ _ h => h) (Or.inl ⟨by rfl, ?_⟩) (by assumption) ?_
  rotate_left
  · (intro w hSw; (try dsimp only at hSw); first | (go_simp; done) | (go_simp; with_reducible rfl))
  try simp only [Act.put, List.setIfInBounds_toArray, List.set_cons_zero, List.set_cons_succ]
  refine wpAnyH_take (i := 4) (oi := { dst := some 25, op := Go.Op.load 9 (Go.Operand.tmp 24), type := 9, pos := "l7_sets.go:105", after := #[{ on := 3, ground := Go.Ground.data }], guard := none }) (v := ?_) rfl (by kernel_rfl) (by kernel_rfl) (by kernel_rfl) (fun _ _ _ h => h) (Or.inl ⟨by rfl, ?_⟩) (by assumption) ?_
  rotate_left
  · (intro w hSw; (try dsimp only at hSw); first | (go_simp; done) | (go_simp; with_reducible rfl))
  try simp only [Act.put, List.setIfInBounds_toArray, List.set_cons_zero, List.set_cons_succ]
  refine wpAnyH_take (i := 5) (oi := { dst := some 26, op := Go.Op.call { callee := Go.Callee.builtin Go.Builtin.len, args := #[Go.Operand.tmp 25], argTypes := #[9] }, type := 3, pos := "l7_sets.go:105", after := #[{ on := 4, ground := Go.Ground.data }], guard := none }) (v := ?_) rfl (by kernel_rfl) (by kernel_rfl) (by kernel_rfl) (fun _ _ _ h => h) (Or.inl ⟨by rfl, ?_⟩) (by assumption) ?_
  rotate_left
  · (intro w hSw; (try dsimp only at hSw); first | (go_simp; done) | (go_simp; with_reducible rfl))
  try simp only [Act.put, List.setIfInBounds_toArray, List.set_cons_zero, List.set_cons_succ]
  refine wpAnyH_take (i := 6) (oi := { dst := some 27, op := Go.Op.fieldAddr 25 (Go.Operand.tmp 4) 1, type := 0, pos := "l7_sets.go:105", after := #[], guard := none }) (v := ?_) rfl (by kernel_rfl) (by kernel_rfl) (by kernel_rfl) (fun _ _ _ h => h) (Or.inl ⟨by rfl, ?_⟩) (by assumption) ?_
  rotate_left
  · (intro w hSw; (try dsimp only at hSw); first | (go_simp; done) | (go_simp; with_reducible rfl))
  try simp only [Act.put, List.setIfInBounds_toArray, List.set_cons_zero, List.set_cons_succ]
  refine wpAnyH_take (i := 7) (oi := { dst := some 28, op := Go.Op.load 9 (Go.Operand.tmp 27), type := 9, pos := "l7_sets.go:105", after := #[{ on := 6, ground := Go.Ground.data }], guard := none }) (v := ?_) rfl (by kernel_rfl) (by kernel_rfl) (by kernel_rfl) (fun _ _ _ h => h) (Or.inl ⟨by rfl, ?_⟩) (by assumption) ?_
  rotate_left
  · (intro w hSw; (try dsimp only at hSw); first | (go_simp; done) | (go_simp; with_reducible rfl))
  try simp only [Act.put, List.setIfInBounds_toArray, List.set_cons_zero, List.set_cons_succ]
  refine wpAnyH_take (i := 8) (oi := { dst := some 29, op := Go.Op.call { callee := Go.Callee.builtin Go.Builtin.len, args := #[Go.Operand.tmp 28], argTypes := #[9] }, type := 3, pos := "l7_sets.go:105", after := #[{ on := 7, ground := Go.Ground.data }], guard := none }) (v := ?_) rfl (by kernel_rfl) (by kernel_rfl) (by kernel_rfl) (fun _ _ _ h => h) (Or.inl ⟨by rfl, ?_⟩) (by assumption) ?_
  rotate_left
  · (intro w hSw; (try dsimp only at hSw); first | (go_simp; done) | (go_simp; with_reducible rfl))
  try simp only [Act.put, List.setIfInBounds_toArray, List.set_cons_zero, List.set_cons_succ]
  refine wpAnyH_take (i := 11) (oi := { dst := some 32, op := Go.Op.fieldAddr 25 (Go.Operand.tmp 4) 1, type := 0, pos := "l7_sets.go:105", after := #[], guard := none }) (v := ?_) rfl (by kernel_rfl) (by kernel_rfl) (by kernel_rfl) (fun _ _ _ h => h) (Or.inl ⟨by rfl, ?_⟩) (by assumption) ?_
  rotate_left
  · (intro w hSw; (try dsimp only at hSw); first | (go_simp; done) | (go_simp; with_reducible rfl))
  try simp only [Act.put, List.setIfInBounds_toArray, List.set_cons_zero, List.set_cons_succ]
  refine wpAnyH_take (i := 12) (oi := { dst := some 33, op := Go.Op.load 9 (Go.Operand.tmp 32), type := 9, pos := "l7_sets.go:105", after := #[{ on := 11, ground := Go.Ground.data }], guard := none }) (v := ?_) rfl (by kernel_rfl) (by kernel_rfl) (by kernel_rfl) (fun _ _ _ h => h) (Or.inl ⟨by rfl, ?_⟩) (by assumption) ?_
  rotate_left
  · (intro w hSw; (try dsimp only at hSw); first | (go_simp; done) | (go_simp; with_reducible rfl))
  try simp only [Act.put, List.setIfInBounds_toArray, List.set_cons_zero, List.set_cons_succ]
  refine wpAnyH_take (i := 13) (oi := { dst := some 34, op := Go.Op.call { callee := Go.Callee.builtin Go.Builtin.len, args := #[Go.Operand.tmp 33], argTypes := #[9] }, type := 3, pos := "l7_sets.go:105", after := #[{ on := 12, ground := Go.Ground.data }], guard := none }) (v := ?_) rfl (by kernel_rfl) (by kernel_rfl) (by kernel_rfl) (fun _ _ _ h => h) (Or.inl ⟨by rfl, ?_⟩) (by assumption) ?_
  rotate_left
  · (intro w hSw; (try dsimp only at hSw); first | (go_simp; done) | (go_simp; with_reducible rfl))
  try simp only [Act.put, List.setIfInBounds_toArray, List.set_cons_zero, List.set_cons_succ]
  refine wpAnyH_ready (rs := [9]) (by kernel_rfl) (by simp) ?_
  refine AllReadyH.cons (o := { dst := some 30, op := Go.Op.call { callee := Go.Callee.value (Go.Operand.func 77), args := #[Go.Operand.tmp 26, Go.Operand.tmp 29], argTypes := #[3, 3] }, type := 3, pos := "l7_sets.go:105", after := #[{ on := 5, ground := Go.Ground.data }, { on := 8, ground := Go.Ground.data }], guard := none }) rfl (fun K hK => ?_) AllReadyH.nil
  go_simp
  (go_at_call 77; refine (HG.out _).mono ?_; rintro e w5 ⟨rfl, rfl⟩)
  (try go_wp2_with fail)
  refine hK.out _ _ ?_ (fun hHeld => ?_)
  · try dsimp only
    exact ⟨s2_keep X2.out (by go_grown), s2_keep Z2.out (by go_grown)⟩
  clear hK K
  try simp only [Act.put, List.setIfInBounds_toArray, List.set_cons_zero, List.set_cons_succ]
  refine wpAnyH_take (i := 10) (oi := { dst := some 31, op := Go.Op.binOp Go.BinOp.quo 3 (Go.Operand.tmp 23) (Go.Operand.tmp 30) 3, type := 3, pos := "l7_sets.go:105", after := #[{ on := 2, ground := Go.Ground.data }, { on := 9, ground := Go.Ground.data }], guard := none }) (v := ?_) rfl (by kernel_rfl) (by kernel_rfl) (by kernel_rfl) (fun _ _ _ h => h) (Or.inl ⟨by rfl, ?_⟩) (by assumption) ?_
  rotate_left
  · (intro w hSw; (try dsimp only at hSw); first | (go_simp; done) | (go_simp; with_reducible rfl))
  try simp only [Act.put, List.setIfInBounds_toArray, List.set_cons_zero, List.set_cons_succ]
  refine wpAnyH_take (i := 14) (oi := { dst := some 35, op := Go.Op.binOp Go.BinOp.mul 3 (Go.Operand.tmp 31) (Go.Operand.tmp 34) 3, type := 3, pos := "l7_sets.go:105", after := #[{ on := 10, ground := Go.Ground.data }, { on := 13, ground := Go.Ground.data }], guard := none }) (v := ?_) rfl (by kernel_rfl) (by kernel_rfl) (by kernel_rfl) (fun _ _ _ h => h) (Or.inl ⟨by rfl, ?_⟩) (by assumption) ?_
  rotate_left
  · (intro w hSw; (try dsimp only at hSw); first | (go_simp; done) | (go_simp; with_reducible rfl))
  try simp only [Act.put, List.setIfInBounds_toArray, List.set_cons_zero, List.set_cons_succ]
  refine wpAnyH_take (i := 15) (oi := { dst := some 9, op := Go.Op.assign (Go.Operand.tmp 35), type := 3, pos := "l7_sets.go:105", after := #[{ on := 14, ground := Go.Ground.data }, { on := 9, ground := Go.Ground.chain }, { on := 0, ground := Go.Ground.phase }, { on := 1, ground := Go.Ground.phase }, { on := 2, ground := Go.Ground.phase }, { on := 3, ground := Go.Ground.phase }, { on := 4, ground := Go.Ground.phase }, { on := 5, ground := Go.Ground.phase }, { on := 6, ground := Go.Ground.phase }, { on := 7, ground := Go.Ground.phase }, { on := 8, ground := Go.Ground.phase }, { on := 9, ground := Go.Ground.phase }, { on := 10, ground := Go.Ground.phase }, { on := 11, ground := Go.Ground.phase }, { on := 12, ground := Go.Ground.phase }, { on := 13, ground := Go.Ground.phase }, { on := 14, ground := Go.Ground.phase }], guard := none }) (v := ?_) rfl (by kernel_rfl) (by kernel_rfl) (by kernel_rfl) (fun _ _ _ h => h) (Or.inl ⟨by rfl, ?_⟩) (by assumption) ?_
  rotate_left
  · (intro w hSw; (try dsimp only at hSw); first | (go_simp; done) | (go_simp; with_reducible rfl))
  try simp only [Act.put, List.setIfInBounds_toArray, List.set_cons_zero, List.set_cons_succ]
  refine wpAnyH_done (by kernel_rfl) ?_ _
  generalize hWd : World.drew _ = Wd
  have hbd : Below W2.heap.size W2 Wd := by rw [← hWd]; go_grown
  have hsd : Wd.heap.size = w.heap.size + 1 + 1 + 1 := by rw [← hWd, ← S2s]; rfl
  clear hWd
  go_wp2_with fail
  generalize hW : World.alloc Wd _ = W3
  obtain ⟨hr0, hs3', hwW⟩ := heap_last hW
  rw [hsd] at hr0
  clear hW
  have X3 := Lib.hid (s2_on X2.out (below_on hbd hwW))
  have Z3 := Lib.hid (s2_on Z2.out (below_on hbd hwW))
  have R3 := Lib.hid (s2_on R2.out (below_on hbd hwW))
  have B3 := Lib.hid (below_on B2.out (below_on hbd hwW))
  have HBR : Hid (BR W3 (w.heap.size + 1 + 1 + 1) (fun i => bitS (f i)) m 0) := Lib.hid ⟨M, hr0, HMS.out, fun i h => absurd h (by omega)⟩
  clear hr0 hs3' hwW hbd hsd hmk
  go_loopw [11] (fun i wr => ∃ k : Nat, i = .int .i64 k ∧ k ≤ m ∧ BR wr (w.heap.size + 1 + 1 + 1) (fun i => bitS (f i)) m k ∧ S2 wr w.heap.size (bs h) (bs l) ∧ S2 wr (w.heap.size + 1) (bs h') (bs l') ∧ S2 wr (w.heap.size + 1 + 1) ⟨#[]⟩ ⟨#[]⟩ ∧ Below w.heap.size w wr) (fun i _ => m - (intOf i).toNat)
  case atStart => exact ⟨0, rfl, Nat.zero_le _, HBR.out, X3.out, Z3.out, R3.out, B3.out⟩
  case round =>
    obtain ⟨k, rfl, hk, hbr, hx, hz, hrz, hb⟩ := hrel
    by_cases hlt : k < m
    · have hk' : (k : Int) < (m : Int) := by omega
      have hwk : IntKind.i64.wrap ((k : Int) + 1) = ((k + 1 : Nat) : Int) := by rw [IntKind.wrap_i64]; omega
      have C1 := Lib.hid (HA.out k (by omega))
      have C2 := Lib.hid (HB0.out k (by omega))
      obtain ⟨x, hxe⟩ : ∃ x, inS (atS h l) k = x := ⟨_, rfl⟩
      obtain ⟨y, hye⟩ : ∃ x, inS (atS h' l') k = x := ⟨_, rfl⟩
      have HFK := Lib.hid (HAF.out k x y hxe hye)
      rw [hxe] at C1
      rw [hye] at C2
      clear hxe hye
      obtain ⟨x0, x1, x2, x3⟩ := id hx
      go_wp2_with fail
      refine (C1.out _).mono ?_
      rintro e w3 ⟨rfl, hb3⟩
      have hz3 := s2_on hz hb3
      clear x0 x1 x2 x3
      obtain ⟨z0, z1, z2, z3⟩ := id hz3
      go_wp2_with fail
      refine (C2.out _).mono ?_
      rintro e w4 ⟨rfl, hb4⟩
      have hb34 := below_on hb3 hb4
      have hbr4 := br_on hbr hb34
      have X4 := Lib.hid (s2_on hx hb34)
      have Z4 := Lib.hid (s2_on hz hb34)
      have R4 := Lib.hid (s2_on hrz hb34)
      have B4 := Lib.hid (below_on hb hb34)
      obtain ⟨⟨v1, hv1⟩, hf1, hbl1⟩ := br_cell hbr4 hlt
      have HBR4 := Lib.hid hbr4
      clear z0 z1 z2 z3 hz3 hb3 hb4 hb34 hbr hx hz hrz hb hbr4
      cases x <;> cases y <;> cases all
      all_goals
        go_wp2_with fail
        refine (l7Bit_any _ _).mono ?_
        rintro e w5 ⟨rfl, rfl⟩
        go_wp2
        go_roundw
        case rel =>
          refine ⟨k + 1, rfl, by omega, br_put HBR4.out hlt (by rw [HFK.out]; rfl), ?_, ?_, ?_, B4.out.setCell (by show w.heap.size ≤ w.heap.size + 1 + 1 + 1; omega) _⟩
          · exact s2_set X4.out (by omega)
          · exact s2_set Z4.out (by omega)
          · exact s2_set R4.out (by omega)
        case measure => simp [intOf]; omega
    · have hk' : ¬ (k : Int) < (m : Int) := by omega
      obtain rfl : k = m := by omega
      have hrow := br_row hbr
      rw [HLB.out] at hrow
      have HROW := Lib.hid hrow
      have hsl1 := slice_upto (w.heap.size + 1 + 1 + 1) N k (Nat.le_of_lt hNm)
      have hsl2 := slice_from (w.heap.size + 1 + 1 + 1) N k hNm
      rw [HMN.out] at hsl2
      have hcv1 : ∀ W, RowB W (w.heap.size + 1 + 1 + 1) lb → (convert 37 9 (.slice (some ⟨w.heap.size + 1 + 1 + 1, 0, none⟩) N k)).run Tryd.prog W = .ok (.string (bs A)) W := fun W hW => conv_upto hW (by rw [HLN.out]; omega) HHT.out
      have hcv2 : ∀ W, RowB W (w.heap.size + 1 + 1 + 1) lb → (convert 37 9 (.slice (some ⟨w.heap.size + 1 + 1 + 1, N, none⟩) p p)).run Tryd.prog W = .ok (.string (bs B)) W := fun W hW => conv_from hW (by rw [HLN.out, ← HMN.out]; omega) HLT.out
      have R5 := Lib.hid hrz
      have B5 := Lib.hid hb
      have hne : w.heap.size ≤ w.heap.size + 1 + 1 := by omega
      clear hbr hrow hx hz hrz hb
      go_wp2_with fail
      refine wp_region_held_drew (S := (fun w' => RowB w' (w.heap.size + 1 + 1 + 1) lb)) (by kernel_rfl) ?_ (fun hHeld => ?_)
      · try dsimp only
        first | (refine rowb_on HROW.out ?_; go_grown; done) | exact rowb_set (rowb_set (rowb_on HROW.out hb05) (by omega)) (by omega)
      refine wpAnyH_take (i := 0) (oi := { dst := some 70, op := Go.Op.move (Go.Operand.tmp 10), type := 37, pos := "l7_sets.go:112", after := #[], guard := none }) (v := ?_) rfl (by kernel_rfl) (by kernel_rfl) (by kernel_rfl) (fun _ _ _ h => h) (Or.inl ⟨by rfl, ?_⟩) (by assumption) ?_
      rotate_left
      · (intro w hSw; (try dsimp only at hSw); first | (go_simp; done) | (go_simp; with_reducible rfl))
      try simp only [Act.put, List.setIfInBounds_toArray, List.set_cons_zero, List.set_cons_succ]
      refine wpAnyH_take (i := 1) (oi := { dst := some 71, op := Go.Op.move (Go.Operand.tmp 8), type := 3, pos := "l7_sets.go:112", after := #[], guard := none }) (v := ?_) rfl (by kernel_rfl) (by kernel_rfl) (by kernel_rfl) (fun _ _ _ h => h) (Or.inl ⟨by rfl, ?_⟩) (by assumption) ?_
      rotate_left
      · (intro w hSw; (try dsimp only at hSw); first | (go_simp; done) | (go_simp; with_reducible rfl))
      try simp only [Act.put, List.setIfInBounds_toArray, List.set_cons_zero, List.set_cons_succ]
      refine wpAnyH_take (i := 2) (oi := { dst := some 72, op := Go.Op.slice 37 (Go.Operand.tmp 70) none (some (Go.Operand.tmp 71)) none, type := 37, pos := "l7_sets.go:112", after := #[{ on := 0, ground := Go.Ground.data }, { on := 1, ground := Go.Ground.data }], guard := none }) (v := ?_) rfl (by kernel_rfl) (by kernel_rfl) (by kernel_rfl) (fun _ _ _ h => h) (Or.inl ⟨by rfl, ?_⟩) (by assumption) ?_
      rotate_left
      · (intro w hSw; (try dsimp only at hSw); first | (go_simp; done) | (go_simp; with_reducible rfl))
      try simp only [Act.put, List.setIfInBounds_toArray, List.set_cons_zero, List.set_cons_succ]
      refine wpAnyH_take (i := 3) (oi := { dst := some 73, op := Go.Op.convert 37 9 (Go.Operand.tmp 72), type := 9, pos := "l7_sets.go:112", after := #[{ on := 2, ground := Go.Ground.data }], guard := none }) (v := ?_) rfl (by kernel_rfl) (by kernel_rfl) (by kernel_rfl) (fun _ _ _ h => h) (Or.inl ⟨by rfl, ?_⟩) (by assumption) ?_
      rotate_left
      · (intro w hSw; (try dsimp only at hSw); first | (go_simp; done) | (go_simp; with_reducible rfl))
      try simp only [Act.put, List.setIfInBounds_toArray, List.set_cons_zero, List.set_cons_succ]
      refine wpAnyH_take (i := 4) (oi := { dst := some 74, op := Go.Op.move (Go.Operand.tmp 10), type := 37, pos := "l7_sets.go:112", after := #[], guard := none }) (v := ?_) rfl (by kernel_rfl) (by kernel_rfl) (by kernel_rfl) (fun _ _ _ h => h) (Or.inl ⟨by rfl, ?_⟩) (by assumption) ?_
      rotate_left
      · (intro w hSw; (try dsimp only at hSw); first | (go_simp; done) | (go_simp; with_reducible rfl))
      try simp only [Act.put, List.setIfInBounds_toArray, List.set_cons_zero, List.set_cons_succ]
      refine wpAnyH_take (i := 5) (oi := { dst := some 75, op := Go.Op.move (Go.Operand.tmp 8), type := 3, pos := "l7_sets.go:112", after := #[], guard := none }) (v := ?_) rfl (by kernel_rfl) (by kernel_rfl) (by kernel_rfl) (fun _ _ _ h => h) (Or.inl ⟨by rfl, ?_⟩) (by assumption) ?_
      rotate_left
      · (intro w hSw; (try dsimp only at hSw); first | (go_simp; done) | (go_simp; with_reducible rfl))
      try simp only [Act.put, List.setIfInBounds_toArray, List.set_cons_zero, List.set_cons_succ]
      refine wpAnyH_take (i := 6) (oi := { dst := some 76, op := Go.Op.slice 37 (Go.Operand.tmp 74) (some (Go.Operand.tmp 75)) none none, type := 37, pos := "l7_sets.go:112", after := #[{ on := 4, ground := Go.Ground.data }, { on := 5, ground := Go.Ground.data }], guard := none }) (v := ?_) rfl (by kernel_rfl) (by kernel_rfl) (by kernel_rfl) (fun _ _ _ h => h) (Or.inl ⟨by rfl, ?_⟩) (by assumption) ?_
      rotate_left
      · (intro w hSw; (try dsimp only at hSw); first | (go_simp; done) | (go_simp; with_reducible rfl))
      try simp only [Act.put, List.setIfInBounds_toArray, List.set_cons_zero, List.set_cons_succ]
      refine wpAnyH_take (i := 7) (oi := { dst := some 77, op := Go.Op.convert 37 9 (Go.Operand.tmp 76), type := 9, pos := "l7_sets.go:112", after := #[{ on := 6, ground := Go.Ground.data }], guard := none }) (v := ?_) rfl (by kernel_rfl) (by kernel_rfl) (by kernel_rfl) (fun _ _ _ h => h) (Or.inl ⟨by rfl, ?_⟩) (by assumption) ?_
      rotate_left
      · (intro w hSw; (try dsimp only at hSw); first | (go_simp; done) | (go_simp; with_reducible rfl))
      try simp only [Act.put, List.setIfInBounds_toArray, List.set_cons_zero, List.set_cons_succ]
      refine wpAnyH_ready (rs := [8]) (by kernel_rfl) (by simp) ?_
      refine AllReadyH.cons (o := { dst := some 78, op := Go.Op.call { callee := Go.Callee.value (Go.Operand.func 46), args := #[Go.Operand.tmp 73, Go.Operand.tmp 77], argTypes := #[9, 9] }, type := 26, pos := "l7_sets.go:112", after := #[{ on := 3, ground := Go.Ground.data }, { on := 7, ground := Go.Ground.data }], guard := none }) rfl (fun K hK => ?_) AllReadyH.nil
      go_simp
      (go_at_call 46; refine (HRD.out _).mono ?_; rintro e w5 ⟨rfl, hb5⟩; have hb05 := below_on (w := wr) (by go_grown) hb5; have R6 := s2_on R5.out hb05; obtain ⟨a0, a1, a2, a3⟩ := id R6)
      (try go_wp2_with fail)
      refine hK.out _ _ ?_ (fun hHeld => ?_)
      · try dsimp only
        first | (refine rowb_on HROW.out ?_; go_grown; done) | exact rowb_set (rowb_set (rowb_on HROW.out hb05) (by omega)) (by omega)
      clear hK K
      try simp only [Act.put, List.setIfInBounds_toArray, List.set_cons_zero, List.set_cons_succ]
      refine wpAnyH_take (i := 9) (oi := { dst := some 79, op := Go.Op.extract (Go.Operand.tmp 78) 0, type := 25, pos := "l7_sets.go:112", after := #[{ on := 8, ground := Go.Ground.data }], guard := none }) (v := ?_) rfl (by kernel_rfl) (by kernel_rfl) (by kernel_rfl) (fun _ _ _ h => h) (Or.inl ⟨by rfl, ?_⟩) (by assumption) ?_
      rotate_left
      · (intro w hSw; (try dsimp only at hSw); first | (go_simp; done) | (go_simp; with_reducible rfl))
      try simp only [Act.put, List.setIfInBounds_toArray, List.set_cons_zero, List.set_cons_succ]
      refine wpAnyH_take (i := 10) (oi := { dst := some 80, op := Go.Op.extract (Go.Operand.tmp 78) 1, type := 4, pos := "l7_sets.go:112", after := #[{ on := 8, ground := Go.Ground.data }], guard := none }) (v := ?_) rfl (by kernel_rfl) (by kernel_rfl) (by kernel_rfl) (fun _ _ _ h => h) (Or.inl ⟨by rfl, ?_⟩) (by assumption) ?_
      rotate_left
      · (intro w hSw; (try dsimp only at hSw); first | (go_simp; done) | (go_simp; with_reducible rfl))
      try simp only [Act.put, List.setIfInBounds_toArray, List.set_cons_zero, List.set_cons_succ]
      refine wpAnyH_ready (rs := [11]) (by kernel_rfl) (by simp) ?_
      refine AllReadyH.cons (o := { dst := none, op := Go.Op.store 25 (Go.Operand.tmp 6) (Go.Operand.tmp 79), type := 0, pos := "l7_sets.go:112", after := #[{ on := 9, ground := Go.Ground.data }, { on := 8, ground := Go.Ground.chain }, { on := 0, ground := Go.Ground.phase }, { on := 1, ground := Go.Ground.phase }, { on := 2, ground := Go.Ground.phase }, { on := 3, ground := Go.Ground.phase }, { on := 4, ground := Go.Ground.phase }, { on := 5, ground := Go.Ground.phase }, { on := 6, ground := Go.Ground.phase }, { on := 7, ground := Go.Ground.phase }, { on := 8, ground := Go.Ground.phase }, { on := 9, ground := Go.Ground.phase }, { on := 10, ground := Go.Ground.phase }], guard := none }) rfl (fun K hK => ?_) AllReadyH.nil
      go_simp
      refine hK.out _ _ ?_ (fun hHeld => ?_)
      · try dsimp only
        first | (refine rowb_on HROW.out ?_; go_grown; done) | exact rowb_set (rowb_set (rowb_on HROW.out hb05) (by omega)) (by omega)
      clear hK K
      try simp only [Act.put, List.setIfInBounds_toArray, List.set_cons_zero, List.set_cons_succ]
      refine wpAnyH_take (i := 12) (oi := { dst := some 7, op := Go.Op.assign (Go.Operand.tmp 80), type := 4, pos := "l7_sets.go:112", after := #[{ on := 10, ground := Go.Ground.data }, { on := 11, ground := Go.Ground.chain }, { on := 0, ground := Go.Ground.phase }, { on := 1, ground := Go.Ground.phase }, { on := 2, ground := Go.Ground.phase }, { on := 3, ground := Go.Ground.phase }, { on := 4, ground := Go.Ground.phase }, { on := 5, ground := Go.Ground.phase }, { on := 6, ground := Go.Ground.phase }, { on := 7, ground := Go.Ground.phase }, { on := 8, ground := Go.Ground.phase }, { on := 9, ground := Go.Ground.phase }, { on := 10, ground := Go.Ground.phase }, { on := 11, ground := Go.Ground.phase }], guard := none }) (v := ?_) rfl (by kernel_rfl) (by kernel_rfl) (by kernel_rfl) (fun _ _ _ h => h) (Or.inl ⟨by rfl, ?_⟩) (by assumption) ?_
      rotate_left
      · (intro w hSw; (try dsimp only at hSw); first | (go_simp; done) | (go_simp; with_reducible rfl))
      try simp only [Act.put, List.setIfInBounds_toArray, List.set_cons_zero, List.set_cons_succ]
      refine wpAnyH_done (by kernel_rfl) ?_ _
      go_wp2
      generalize hW8 : World.setCell _ _ _ = W8
      obtain ⟨⟨_, r1, r2, _⟩, _, _, hb8⟩ := s2_put hW8 _ _ R6
      refine bodyPost_ret (v := .tuple #[.agg #[.string (bs r.1.1), .string (bs r.1.2)], .bool r.2]) (by simp [results, Tryd.results42, go_sem, r1, r2]) rfl ⟨rfl, ?_⟩
      exact below_on (hb8 w (below_on B5.out hb05) hne) (by go_grown)

end Go.Proofs.YtpheihejgnlanaaDoor

/- UnionSets and MeetSets of the model; its repetitions, its changed bits. -/
namespace Go.Proofs.YtpheihejgnlanaaDoor
open Go.RowKit

theorem both_or : bothB false = fun x y => x || y := by
  funext x y
  cases x <;> cases y <;> rfl

set_option maxRecDepth 10000 in
set_option maxHeartbeats 2000000 in
theorem specUnionSets_any (h l h' l' : List UInt8) (w : World) (hh : h.length ≤ 1000000000) (hl : l.length ≤ 1000000000) (hh' : h'.length ≤ 1000000000) (hl' : l'.length ≤ 1000000000) :
    Calls Tryd.prog 14 #[.agg #[.string (bs h), .string (bs l)], .agg #[.string (bs h'), .string (bs l')]] w fun e w' => e = .returned (.tuple #[.agg #[.string (bs (combR (fun x y => x || y) h l h' l').1.1), .string (bs (combR (fun x y => x || y) h l h' l').1.2)], .bool (combR (fun x y => x || y) h l h' l').2]) ∧ Below w.heap.size w w' := by
  have HV := Lib.hid fun w => specSetValid_b h l w hh hl
  have HV2 := Lib.hid fun w => specSetValid_b h' l' w hh' hl'
  have HL := Lib.hid (l7Both_any h l h' l' false)
  rw [both_or] at HL
  obtain ⟨v, hv⟩ : ∃ v, svS h l = v := ⟨_, rfl⟩
  obtain ⟨v2, hv2⟩ : ∃ v, svS h' l' = v := ⟨_, rfl⟩
  have HQ : Hid (svS h l = v) := Lib.hid hv
  have HQ2 : Hid (svS h' l' = v2) := Lib.hid hv2
  rw [hv] at HV
  rw [hv2] at HV2
  clear hv hv2 hh hl hh' hl'
  cases v with
  | false =>
    have HF : Hid (combR (fun x y => x || y) h l h' l' = (([], []), false)) := Lib.hid (by unfold combR; rw [HQ.out]; rfl)
    go_enter Tryd.func14, Tryd.ntmps14
    go_wp2_with fail
    generalize hW0 : World.alloc w _ = W0
    obtain ⟨hx, hsx, hwx⟩ := s2_new hW0
    clear hW0
    generalize hW : World.alloc W0 _ = W1
    obtain ⟨hz, hsz, hwz⟩ := s2_new hW
    rw [hsx] at hz
    clear hW
    generalize hW : World.alloc W1 _ = W2
    obtain ⟨hr, hsr, hwr⟩ := s2_new hW
    rw [hsz, hsx] at hr
    clear hW
    have X1 := s2_on hx (below_on hwz hwr)
    have Z1 := s2_on hz hwr
    have B1 := below_on hwx (below_on hwz hwr)
    have hne : w.heap.size ≤ w.heap.size + 1 + 1 := by omega
    clear hx hz hwx hwz hwr hsx hsz hsr
    refine (HV.out _).mono ?_
    rintro e w3 ⟨rfl, hb3⟩
    have X3 := s2_on X1 hb3
    have Z3 := s2_on Z1 hb3
    have R3 := s2_on hr hb3
    have B3 := below_on B1 hb3
    clear X1 Z1 hr B1 hb3
    obtain ⟨x0, x1, x2, x3⟩ := id X3
    obtain ⟨z0, z1, z2, z3⟩ := id Z3
    obtain ⟨a0, a1, a2, a3⟩ := id R3
    go_wp2
    generalize hW : World.setCell _ _ _ = W8
    obtain ⟨⟨_, r1, r2, _⟩, _, _, hb8⟩ := s2_put hW _ _ R3
    refine bodyPost_ret (v := .tuple #[.agg #[.string ⟨#[]⟩, .string ⟨#[]⟩], .bool false]) (by simp [results, Tryd.results14, go_sem, r1, r2]) rfl ⟨by rw [HF.out]; rfl, ?_⟩
    exact hb8 w B3 hne
  | true =>
    cases v2 with
    | false =>
      have HF : Hid (combR (fun x y => x || y) h l h' l' = (([], []), false)) := Lib.hid (by unfold combR; rw [HQ.out, HQ2.out]; rfl)
      go_enter Tryd.func14, Tryd.ntmps14
      go_wp2_with fail
      generalize hW0 : World.alloc w _ = W0
      obtain ⟨hx, hsx, hwx⟩ := s2_new hW0
      clear hW0
      generalize hW : World.alloc W0 _ = W1
      obtain ⟨hz, hsz, hwz⟩ := s2_new hW
      rw [hsx] at hz
      clear hW
      generalize hW : World.alloc W1 _ = W2
      obtain ⟨hr, hsr, hwr⟩ := s2_new hW
      rw [hsz, hsx] at hr
      clear hW
      have X1 := s2_on hx (below_on hwz hwr)
      have Z1 := s2_on hz hwr
      have B1 := below_on hwx (below_on hwz hwr)
      have hne : w.heap.size ≤ w.heap.size + 1 + 1 := by omega
      clear hx hz hwx hwz hwr hsx hsz hsr
      refine (HV.out _).mono ?_
      rintro e w3 ⟨rfl, hb3⟩
      have X3 := s2_on X1 hb3
      have Z3 := s2_on Z1 hb3
      have R3 := s2_on hr hb3
      have B3 := below_on B1 hb3
      clear X1 Z1 hr B1 hb3
      obtain ⟨x0, x1, x2, x3⟩ := id X3
      obtain ⟨z0, z1, z2, z3⟩ := id Z3
      obtain ⟨a0, a1, a2, a3⟩ := id R3
      go_wp2_with fail
      refine (HV2.out _).mono ?_
      rintro e w4 ⟨rfl, hb4⟩
      have X4 := s2_on X3 hb4
      have Z4 := s2_on Z3 hb4
      have R4 := s2_on R3 hb4
      have B4 := below_on B3 hb4
      clear X3 Z3 R3 B3 hb4 x0 x1 x2 x3 z0 z1 z2 z3 a0 a1 a2 a3
      obtain ⟨x0, x1, x2, x3⟩ := id X4
      obtain ⟨z0, z1, z2, z3⟩ := id Z4
      obtain ⟨a0, a1, a2, a3⟩ := id R4
      go_wp2
      generalize hW : World.setCell _ _ _ = W8
      obtain ⟨⟨_, r1, r2, _⟩, _, _, hb8⟩ := s2_put hW _ _ R4
      refine bodyPost_ret (v := .tuple #[.agg #[.string ⟨#[]⟩, .string ⟨#[]⟩], .bool false]) (by simp [results, Tryd.results14, go_sem, r1, r2]) rfl ⟨by rw [HF.out]; rfl, ?_⟩
      exact hb8 w B4 hne
    | true =>
      have HF : Hid (combR (fun x y => x || y) h l h' l' = resA (fun n => bitS ((fun x y => x || y) (inS (atS h l) n) (inS (atS h' l') n)))) := Lib.hid (by unfold combR; rw [HQ.out, HQ2.out]; rfl)
      have HR := Lib.hid fun w => HL.out w HQ.out HQ2.out
      obtain ⟨r, hr⟩ : ∃ r, resA (fun n => bitS ((fun x y => x || y) (inS (atS h l) n) (inS (atS h' l') n))) = r := ⟨_, rfl⟩
      rw [hr] at HF HR
      clear hr HL
      go_enter Tryd.func14, Tryd.ntmps14
      go_wp2_with fail
      generalize hW0 : World.alloc w _ = W0
      obtain ⟨hx, hsx, hwx⟩ := s2_new hW0
      clear hW0
      generalize hW : World.alloc W0 _ = W1
      obtain ⟨hz, hsz, hwz⟩ := s2_new hW
      rw [hsx] at hz
      clear hW
      generalize hW : World.alloc W1 _ = W2
      obtain ⟨hr, hsr, hwr⟩ := s2_new hW
      rw [hsz, hsx] at hr
      clear hW
      have X1 := s2_on hx (below_on hwz hwr)
      have Z1 := s2_on hz hwr
      have B1 := below_on hwx (below_on hwz hwr)
      have hne : w.heap.size ≤ w.heap.size + 1 + 1 := by omega
      clear hx hz hwx hwz hwr hsx hsz hsr
      refine (HV.out _).mono ?_
      rintro e w3 ⟨rfl, hb3⟩
      have X3 := s2_on X1 hb3
      have Z3 := s2_on Z1 hb3
      have R3 := s2_on hr hb3
      have B3 := below_on B1 hb3
      clear X1 Z1 hr B1 hb3
      obtain ⟨x0, x1, x2, x3⟩ := id X3
      obtain ⟨z0, z1, z2, z3⟩ := id Z3
      obtain ⟨a0, a1, a2, a3⟩ := id R3
      go_wp2_with fail
      refine (HV2.out _).mono ?_
      rintro e w4 ⟨rfl, hb4⟩
      have X4 := s2_on X3 hb4
      have Z4 := s2_on Z3 hb4
      have R4 := s2_on R3 hb4
      have B4 := below_on B3 hb4
      clear X3 Z3 R3 B3 hb4 x0 x1 x2 x3 z0 z1 z2 z3 a0 a1 a2 a3
      obtain ⟨x0, x1, x2, x3⟩ := id X4
      obtain ⟨z0, z1, z2, z3⟩ := id Z4
      obtain ⟨a0, a1, a2, a3⟩ := id R4
      go_wp2_with fail
      refine (HR.out _).mono ?_
      rintro e w5 ⟨rfl, hb5⟩
      have R5 := s2_on R4 hb5
      have B5 := below_on B4 hb5
      clear X4 Z4 R4 B4 hb5 x0 x1 x2 x3 z0 z1 z2 z3 a0 a1 a2 a3
      obtain ⟨a0, a1, a2, a3⟩ := id R5
      go_wp2
      generalize hW : World.setCell _ _ _ = W8
      obtain ⟨⟨_, r1, r2, _⟩, _, _, hb8⟩ := s2_put hW _ _ R5
      refine bodyPost_ret (v := .tuple #[.agg #[.string (bs r.1.1), .string (bs r.1.2)], .bool r.2]) (by simp [results, Tryd.results14, go_sem, r1, r2]) rfl ⟨by rw [HF.out], ?_⟩
      exact hb8 w B5 hne

theorem both_and : bothB true = fun x y => x && y := by
  funext x y
  cases x <;> cases y <;> rfl

set_option maxRecDepth 10000 in
set_option maxHeartbeats 2000000 in
theorem specMeetSets_any (h l h' l' : List UInt8) (w : World) (hh : h.length ≤ 1000000000) (hl : l.length ≤ 1000000000) (hh' : h'.length ≤ 1000000000) (hl' : l'.length ≤ 1000000000) :
    Calls Tryd.prog 18 #[.agg #[.string (bs h), .string (bs l)], .agg #[.string (bs h'), .string (bs l')]] w fun e w' => e = .returned (.tuple #[.agg #[.string (bs (combR (fun x y => x && y) h l h' l').1.1), .string (bs (combR (fun x y => x && y) h l h' l').1.2)], .bool (combR (fun x y => x && y) h l h' l').2]) ∧ Below w.heap.size w w' := by
  have HV := Lib.hid fun w => specSetValid_b h l w hh hl
  have HV2 := Lib.hid fun w => specSetValid_b h' l' w hh' hl'
  have HL := Lib.hid (l7Both_any h l h' l' true)
  rw [both_and] at HL
  obtain ⟨v, hv⟩ : ∃ v, svS h l = v := ⟨_, rfl⟩
  obtain ⟨v2, hv2⟩ : ∃ v, svS h' l' = v := ⟨_, rfl⟩
  have HQ : Hid (svS h l = v) := Lib.hid hv
  have HQ2 : Hid (svS h' l' = v2) := Lib.hid hv2
  rw [hv] at HV
  rw [hv2] at HV2
  clear hv hv2 hh hl hh' hl'
  cases v with
  | false =>
    have HF : Hid (combR (fun x y => x && y) h l h' l' = (([], []), false)) := Lib.hid (by unfold combR; rw [HQ.out]; rfl)
    go_enter Tryd.func18, Tryd.ntmps18
    go_wp2_with fail
    generalize hW0 : World.alloc w _ = W0
    obtain ⟨hx, hsx, hwx⟩ := s2_new hW0
    clear hW0
    generalize hW : World.alloc W0 _ = W1
    obtain ⟨hz, hsz, hwz⟩ := s2_new hW
    rw [hsx] at hz
    clear hW
    generalize hW : World.alloc W1 _ = W2
    obtain ⟨hr, hsr, hwr⟩ := s2_new hW
    rw [hsz, hsx] at hr
    clear hW
    have X1 := s2_on hx (below_on hwz hwr)
    have Z1 := s2_on hz hwr
    have B1 := below_on hwx (below_on hwz hwr)
    have hne : w.heap.size ≤ w.heap.size + 1 + 1 := by omega
    clear hx hz hwx hwz hwr hsx hsz hsr
    refine (HV.out _).mono ?_
    rintro e w3 ⟨rfl, hb3⟩
    have X3 := s2_on X1 hb3
    have Z3 := s2_on Z1 hb3
    have R3 := s2_on hr hb3
    have B3 := below_on B1 hb3
    clear X1 Z1 hr B1 hb3
    obtain ⟨x0, x1, x2, x3⟩ := id X3
    obtain ⟨z0, z1, z2, z3⟩ := id Z3
    obtain ⟨a0, a1, a2, a3⟩ := id R3
    go_wp2
    generalize hW : World.setCell _ _ _ = W8
    obtain ⟨⟨_, r1, r2, _⟩, _, _, hb8⟩ := s2_put hW _ _ R3
    refine bodyPost_ret (v := .tuple #[.agg #[.string ⟨#[]⟩, .string ⟨#[]⟩], .bool false]) (by simp [results, Tryd.results18, go_sem, r1, r2]) rfl ⟨by rw [HF.out]; rfl, ?_⟩
    exact hb8 w B3 hne
  | true =>
    cases v2 with
    | false =>
      have HF : Hid (combR (fun x y => x && y) h l h' l' = (([], []), false)) := Lib.hid (by unfold combR; rw [HQ.out, HQ2.out]; rfl)
      go_enter Tryd.func18, Tryd.ntmps18
      go_wp2_with fail
      generalize hW0 : World.alloc w _ = W0
      obtain ⟨hx, hsx, hwx⟩ := s2_new hW0
      clear hW0
      generalize hW : World.alloc W0 _ = W1
      obtain ⟨hz, hsz, hwz⟩ := s2_new hW
      rw [hsx] at hz
      clear hW
      generalize hW : World.alloc W1 _ = W2
      obtain ⟨hr, hsr, hwr⟩ := s2_new hW
      rw [hsz, hsx] at hr
      clear hW
      have X1 := s2_on hx (below_on hwz hwr)
      have Z1 := s2_on hz hwr
      have B1 := below_on hwx (below_on hwz hwr)
      have hne : w.heap.size ≤ w.heap.size + 1 + 1 := by omega
      clear hx hz hwx hwz hwr hsx hsz hsr
      refine (HV.out _).mono ?_
      rintro e w3 ⟨rfl, hb3⟩
      have X3 := s2_on X1 hb3
      have Z3 := s2_on Z1 hb3
      have R3 := s2_on hr hb3
      have B3 := below_on B1 hb3
      clear X1 Z1 hr B1 hb3
      obtain ⟨x0, x1, x2, x3⟩ := id X3
      obtain ⟨z0, z1, z2, z3⟩ := id Z3
      obtain ⟨a0, a1, a2, a3⟩ := id R3
      go_wp2_with fail
      refine (HV2.out _).mono ?_
      rintro e w4 ⟨rfl, hb4⟩
      have X4 := s2_on X3 hb4
      have Z4 := s2_on Z3 hb4
      have R4 := s2_on R3 hb4
      have B4 := below_on B3 hb4
      clear X3 Z3 R3 B3 hb4 x0 x1 x2 x3 z0 z1 z2 z3 a0 a1 a2 a3
      obtain ⟨x0, x1, x2, x3⟩ := id X4
      obtain ⟨z0, z1, z2, z3⟩ := id Z4
      obtain ⟨a0, a1, a2, a3⟩ := id R4
      go_wp2
      generalize hW : World.setCell _ _ _ = W8
      obtain ⟨⟨_, r1, r2, _⟩, _, _, hb8⟩ := s2_put hW _ _ R4
      refine bodyPost_ret (v := .tuple #[.agg #[.string ⟨#[]⟩, .string ⟨#[]⟩], .bool false]) (by simp [results, Tryd.results18, go_sem, r1, r2]) rfl ⟨by rw [HF.out]; rfl, ?_⟩
      exact hb8 w B4 hne
    | true =>
      have HF : Hid (combR (fun x y => x && y) h l h' l' = resA (fun n => bitS ((fun x y => x && y) (inS (atS h l) n) (inS (atS h' l') n)))) := Lib.hid (by unfold combR; rw [HQ.out, HQ2.out]; rfl)
      have HR := Lib.hid fun w => HL.out w HQ.out HQ2.out
      obtain ⟨r, hr⟩ : ∃ r, resA (fun n => bitS ((fun x y => x && y) (inS (atS h l) n) (inS (atS h' l') n))) = r := ⟨_, rfl⟩
      rw [hr] at HF HR
      clear hr HL
      go_enter Tryd.func18, Tryd.ntmps18
      go_wp2_with fail
      generalize hW0 : World.alloc w _ = W0
      obtain ⟨hx, hsx, hwx⟩ := s2_new hW0
      clear hW0
      generalize hW : World.alloc W0 _ = W1
      obtain ⟨hz, hsz, hwz⟩ := s2_new hW
      rw [hsx] at hz
      clear hW
      generalize hW : World.alloc W1 _ = W2
      obtain ⟨hr, hsr, hwr⟩ := s2_new hW
      rw [hsz, hsx] at hr
      clear hW
      have X1 := s2_on hx (below_on hwz hwr)
      have Z1 := s2_on hz hwr
      have B1 := below_on hwx (below_on hwz hwr)
      have hne : w.heap.size ≤ w.heap.size + 1 + 1 := by omega
      clear hx hz hwx hwz hwr hsx hsz hsr
      refine (HV.out _).mono ?_
      rintro e w3 ⟨rfl, hb3⟩
      have X3 := s2_on X1 hb3
      have Z3 := s2_on Z1 hb3
      have R3 := s2_on hr hb3
      have B3 := below_on B1 hb3
      clear X1 Z1 hr B1 hb3
      obtain ⟨x0, x1, x2, x3⟩ := id X3
      obtain ⟨z0, z1, z2, z3⟩ := id Z3
      obtain ⟨a0, a1, a2, a3⟩ := id R3
      go_wp2_with fail
      refine (HV2.out _).mono ?_
      rintro e w4 ⟨rfl, hb4⟩
      have X4 := s2_on X3 hb4
      have Z4 := s2_on Z3 hb4
      have R4 := s2_on R3 hb4
      have B4 := below_on B3 hb4
      clear X3 Z3 R3 B3 hb4 x0 x1 x2 x3 z0 z1 z2 z3 a0 a1 a2 a3
      obtain ⟨x0, x1, x2, x3⟩ := id X4
      obtain ⟨z0, z1, z2, z3⟩ := id Z4
      obtain ⟨a0, a1, a2, a3⟩ := id R4
      go_wp2_with fail
      refine (HR.out _).mono ?_
      rintro e w5 ⟨rfl, hb5⟩
      have R5 := s2_on R4 hb5
      have B5 := below_on B4 hb5
      clear X4 Z4 R4 B4 hb5 x0 x1 x2 x3 z0 z1 z2 z3 a0 a1 a2 a3
      obtain ⟨a0, a1, a2, a3⟩ := id R5
      go_wp2
      generalize hW : World.setCell _ _ _ = W8
      obtain ⟨⟨_, r1, r2, _⟩, _, _, hb8⟩ := s2_put hW _ _ R5
      refine bodyPost_ret (v := .tuple #[.agg #[.string (bs r.1.1), .string (bs r.1.2)], .bool r.2]) (by simp [results, Tryd.results18, go_sem, r1, r2]) rfl ⟨by rw [HF.out], ?_⟩
      exact hb8 w B5 hne

/-- A string again and again. -/
def repL (x : List UInt8) (n : Nat) : List UInt8 := (List.replicate n x).flatten
theorem rep_len (x : List UInt8) (n : Nat) : (repL x n).length = n * x.length := by
  unfold repL
  simp [List.length_flatten]
theorem rep_two (x : List UInt8) (n : Nat) : repL (x ++ x) n = repL x (n + n) := by
  induction n with
  | zero => rfl
  | succ n ih =>
    have e1 : repL (x ++ x) (n + 1) = (x ++ x) ++ repL (x ++ x) n := by unfold repL; rw [List.replicate_succ, List.flatten_cons]
    have e2 : repL x (n + 1 + (n + 1)) = x ++ (x ++ repL x (n + n)) := by
      rw [show n + 1 + (n + 1) = (n + n) + 1 + 1 by omega]
      unfold repL
      rw [List.replicate_succ, List.replicate_succ, List.flatten_cons, List.flatten_cons]
    rw [e1, ih, e2, List.append_assoc]
theorem rep_odd (x : List UInt8) (n : Nat) : x ++ repL (x ++ x) n = repL x (n + n + 1) := by
  rw [rep_two]
  unfold repL
  rw [List.replicate_succ, List.flatten_cons]
theorem rep_zero (n : Nat) : repL [48] n = List.replicate n 48 := by
  unfold repL
  induction n with
  | zero => rfl
  | succ n ih => rw [List.replicate_succ, List.flatten_cons, ih, List.replicate_succ]; rfl

set_option maxHeartbeats 2000000 in
theorem l17Many_any (x0 : List UInt8) (n0 : Nat) (w : World) (hx0 : x0.length ≤ 1000) (hn0 : n0 ≤ 100000) :
    Calls Tryd.prog 50 #[.string (bs x0), .int .i64 n0] w fun e w' => e = .returned (.string (bs (repL x0 n0))) ∧ w = w' := by
  have happ := bs_app
  have hb0 : ({ data := #[] } : ByteArray) = bs [] := rfl
  obtain ⟨T, hT⟩ : ∃ T, repL x0 n0 = T := ⟨_, rfl⟩
  have HTL : Hid (T.length ≤ 100000000) := Lib.hid (by rw [← hT, rep_len]; exact Nat.le_trans (Nat.mul_le_mul hn0 hx0) (by omega))
  have hst : Hid ([] ++ repL x0 n0 = T) := Lib.hid (by rw [← hT]; rfl)
  rw [hT]
  clear hT
  go_enter Tryd.func50, Tryd.ntmps50
  go_wp2
  go_loopw [0, 1, 5] (fun s i o wr => ∃ (X O : List UInt8) (n : Nat), s = .string (bs X) ∧ i = .int .i64 n ∧ o = .string (bs O) ∧ wr = w ∧ n ≤ 100000 ∧ X.length ≤ 1000000000 ∧ O ++ repL X n = T) (fun _ i _ _ => (intOf i).toNat)
  case atStart => exact ⟨x0, [], n0, rfl, rfl, rfl, rfl, hn0, by omega, hst.out⟩
  case round =>
    obtain ⟨X, O, n, rfl, rfl, rfl, rfl, hn, hX, ht⟩ := hrel
    have HT := Lib.hid ht
    have hz1 := bs_size X
    have hz2 := bs_size O
    have hO : O.length ≤ 100000000 := by have := HTL.out; rw [← ht, List.length_append] at this; omega
    obtain ⟨m, hm⟩ : ∃ m, n / 2 = m := ⟨_, rfl⟩
    have hd : (n : Int).tdiv 2 = (m : Int) := by rw [Int.tdiv_eq_ediv_of_nonneg (by omega)]; omega
    have hwm : IntKind.i64.wrap (m : Int) = (m : Int) := by rw [IntKind.wrap_i64]; omega
    have hmn : m ≤ n ∧ (0 < n → m < n) := by omega
    by_cases h0 : 0 < n
    · have g0 : decide ((0 : Int) < (n : Int)) = true := decide_eq_true (by omega)
      have g1 : decide (0 < n) = true := decide_eq_true h0
      have hXT : X.length * n ≤ 100000000 := by
        have := HTL.out
        rw [← ht, List.length_append, rep_len] at this
        rw [Nat.mul_comm]
        omega
      have hXb : X.length ≤ 100000000 := Nat.le_trans (Nat.le_mul_of_pos_right _ h0) hXT
      have hX2 : (X ++ X).length ≤ 1000000000 := by rw [List.length_append]; omega
      obtain ⟨r, hr⟩ : ∃ r, n % 2 = r := ⟨_, rfl⟩
      have ht2 : (n : Int).tmod 2 = (r : Int) := by rw [Int.tmod_eq_emod_of_nonneg (by omega)]; omega
      have HX2 := Lib.hid hX2
      obtain ⟨a, ha⟩ : ∃ a, X.length = a := ⟨_, rfl⟩
      obtain ⟨b, hb⟩ : ∃ a, O.length = a := ⟨_, rfl⟩
      rw [ha] at hz1 hXb
      rw [hb] at hz2 hO
      by_cases hodd : r = 1
      · have e1 : ((r : Int) == 1) = true := by rw [hodd]; rfl
        have HN : Hid ((O ++ X) ++ repL (X ++ X) m = T) := Lib.hid (by rw [List.append_assoc, rep_odd, ← HT.out]; congr 2; omega)
        clear ht hXT hX2 hodd hr hm ha hb
        go_wp2
        go_roundw
        case rel => exact ⟨X ++ X, O ++ X, m, rfl, rfl, rfl, trivial, by omega, HX2.out, HN.out⟩
        case measure => simp [intOf]; omega
      · have e1 : ((r : Int) == 1) = false := by rw [beq_eq_false_iff_ne]; omega
        have HN : Hid (O ++ repL (X ++ X) m = T) := Lib.hid (by rw [rep_two, ← HT.out]; congr 2; omega)
        clear ht hXT hX2 hodd hr hm ha hb
        go_wp2
        go_roundw
        case rel => exact ⟨X ++ X, O, m, rfl, rfl, rfl, trivial, by omega, HX2.out, HN.out⟩
        case measure => simp [intOf]; omega
    · have g0 : decide ((0 : Int) < (n : Int)) = false := decide_eq_false (by omega)
      have g1 : decide (0 < n) = false := decide_eq_false h0
      have hF : Hid (O = T) := Lib.hid (by rw [← ht, show n = 0 by omega]; simp [repL])
      clear ht hd hwm hm
      go_wp2
      go_ret
      exact ⟨by rw [hF.out]; rfl, rfl⟩

end Go.Proofs.YtpheihejgnlanaaDoor

/- The model's changed bits and OtherSet; its stretched strings. -/
namespace Go.Proofs.YtpheihejgnlanaaDoor
open Go.RowKit

/-- Bytes in a block, none of them frozen. -/
def CB (W : World) (b : Nat) (l : List UInt8) : Prop := b < W.heap.size ∧ (∀ (i : Nat) x, l[i]? = some x → W.cell? ⟨b, i, none⟩ = some (.int .u8 (x.toNat : Int))) ∧ ∀ i, i < l.length → W.frozen? ⟨b, i, none⟩ = false
theorem cb_set {W : World} {b k : Nat} {l : List UInt8} {y : UInt8} {z : Int} (h : CB W b l) (hk : k < l.length) (hz : z = (y.toNat : Int)) : CB (W.setCell ⟨b, k, none⟩ (.int .u8 z)) b (l.set k y) := by
  obtain ⟨h1, h2, h3⟩ := h
  refine ⟨by simpa [World.setCell] using h1, fun i x hx => ?_, fun i hi => ?_⟩
  · by_cases e : i = k
    · subst e
      rw [List.getElem?_set_self hk] at hx
      rw [World.cell?_setCell_same' _ _ _ (by rw [h2 i l[i] (List.getElem?_eq_getElem hk)]; rfl), hz, ← Option.some.inj hx]
    · rw [List.getElem?_set_ne (fun e2 => e e2.symm)] at hx
      rw [World.cell?_setCell_other (h := by intro e2; exact e (by injection e2 with _ e3 _; exact e3.symm))]
      exact h2 i x hx
  · rw [World.frozen?_setCell]
    exact h3 i (by simpa using hi)
/-- The bits, k of them changed. -/
def flK (l : List UInt8) (k : Nat) : List UInt8 := (l.take k).map (fun x => 97 - x) ++ l.drop k
theorem flK_zero (l : List UInt8) : flK l 0 = l := by simp [flK]
theorem flK_all (l : List UInt8) : flK l l.length = l.map fun x => 97 - x := by simp [flK]
theorem flK_len (l : List UInt8) (k : Nat) : (flK l k).length = l.length := by simp [flK]; omega
theorem flK_at {l : List UInt8} {k : Nat} {x : UInt8} (hx : l[k]? = some x) : (flK l k)[k]? = some x := by
  have hk := (List.getElem?_eq_some_iff.1 hx).1
  unfold flK
  rw [List.getElem?_append_right (by simp; omega)]
  simp [Nat.min_eq_left (Nat.le_of_lt hk), hx]
theorem flK_next {l : List UInt8} {k : Nat} {x : UInt8} (hx : l[k]? = some x) : (flK l k).set k (97 - x) = flK l (k + 1) := by
  have hk := (List.getElem?_eq_some_iff.1 hx).1
  unfold flK
  rw [List.set_append_right _ _ (by simp; omega)]
  rw [List.take_add_one, hx, List.map_append, List.append_assoc]
  congr 1
  have e : l.drop k = x :: l.drop (k + 1) := by
    rw [List.drop_eq_getElem_cons hk, (List.getElem?_eq_some_iff.1 hx).2]
  rw [e]
  simp [Nat.min_eq_left (Nat.le_of_lt hk)]
theorem flip_bits {l : List UInt8} (h : ∀ x ∈ l, x = 48 ∨ x = 49) : ∀ x ∈ l.map (fun x => 97 - x), x = 48 ∨ x = 49 := by
  intro x hx
  obtain ⟨y, hy, rfl⟩ := List.mem_map.1 hx
  rcases h y hy with rfl | rfl
  · exact .inr rfl
  · exact .inl rfl

set_option maxHeartbeats 2000000 in
theorem l7Flip_any (l : List UInt8) (w : World) (hb : ∀ x ∈ l, x = 48 ∨ x = 49) (hl : l.length ≤ 1000000) :
    Calls Tryd.prog 47 #[.string (bs l)] w fun e w' => e = .returned (.string (bs (l.map fun x => 97 - x))) ∧ Below w.heap.size w w' := by
  have hcv := run_bytes_of_string (P := Tryd.prog) w 9 37 5 (bs l) Tryd.underlying9 Tryd.underlying37 Tryd.underlying5
  have hsz := bs_size l
  obtain ⟨c, hc⟩ : ∃ c, grownCap w (bs l).size 0 5 = c := ⟨_, rfl⟩
  rw [hc] at hcv
  generalize hW : w.drew.alloc _ = W1 at hcv
  have hdw : w.drew.heap.size = w.heap.size := rfl
  have hcb : CB W1 w.heap.size l := by
    subst hW
    refine ⟨by simp, fun i x hx => ?_, fun i hi => ?_⟩
    · have hil := (List.getElem?_eq_some_iff.1 hx).1
      rw [← hdw, World.cell?_alloc_mark, bytesRow_at _ _ _ (by simpa [bs] using hil)]
      have := (List.getElem?_eq_some_iff.1 hx).2
      simp [bs, this]
    · rw [← hdw, World.frozen?_alloc_mark]
      have hge : (bs l).data.size ≤ (bytesRow (bs l) c).size := by unfold bytesRow; rw [Array.size_append]; simp
      have : (bs l).data.size = l.length := by simp [bs]
      rw [decide_eq_false (by omega), Bool.false_and]
  have hbw : Below w.heap.size w W1 := by
    subst hW
    exact ((Below.refl w.heap.size w).drew).alloc (by rw [hdw]; exact Nat.le_refl _) _
  clear hW hc hdw
  obtain ⟨n, hn⟩ : ∃ n, l.length = n := ⟨_, rfl⟩
  have HN := Lib.hid hn
  rw [hsz, hn] at hcv
  have HCB := Lib.hid (show CB W1 w.heap.size (flK l 0) by rw [flK_zero]; exact hcb)
  have HBW := Lib.hid hbw
  have HBT := Lib.hid hb
  rw [hn] at hl hsz
  clear hcb hbw hb hn
  go_enter Tryd.func47, Tryd.ntmps47
  go_wp2
  go_loopw [4] (fun i wr => ∃ k : Nat, i = .int .i64 k ∧ k ≤ n ∧ CB wr w.heap.size (flK l k) ∧ Below w.heap.size w wr) (fun i _ => n - (intOf i).toNat)
  case atStart => exact ⟨0, rfl, Nat.zero_le _, HCB.out, HBW.out⟩
  case round =>
    obtain ⟨k, rfl, hk, hcb, hbw⟩ := hrel
    have HC2 := Lib.hid hcb
    have HB2 := Lib.hid hbw
    clear hbw hcv
    by_cases hlt : k < n
    · have hk' : (k : Int) < (n : Int) := by omega
      have hwk : IntKind.i64.wrap ((k : Int) + 1) = ((k + 1 : Nat) : Int) := by rw [IntKind.wrap_i64]; omega
      obtain ⟨x, hx⟩ : ∃ x, l[k]? = some x := ⟨_, List.getElem?_eq_getElem (by rw [HN.out]; exact hlt)⟩
      have hcl := hcb.2.1 k x (flK_at hx)
      have hfz := hcb.2.2 k (by rw [flK_len, HN.out]; exact hlt)
      have hxb := HBT.out x (List.mem_of_getElem? hx)
      have HNX := Lib.hid (flK_next hx)
      clear hcb hx
      rcases hxb with rfl | rfl
      · have h48 : ((48 : UInt8).toNat : Int) = 48 := rfl
        rw [h48] at hcl
        clear h48
        go_wp2
        go_roundw
        case rel => exact ⟨k + 1, rfl, by omega, by rw [← HNX.out]; exact cb_set HC2.out (by rw [flK_len, HN.out]; exact hlt) (by rfl), HB2.out.setCell (Nat.le_refl _) _⟩
        case measure => simp [intOf]; omega
      · have h48 : ((49 : UInt8).toNat : Int) = 49 := rfl
        rw [h48] at hcl
        clear h48
        go_wp2
        go_roundw
        case rel => exact ⟨k + 1, rfl, by omega, by rw [← HNX.out]; exact cb_set HC2.out (by rw [flK_len, HN.out]; exact hlt) (by rfl), HB2.out.setCell (Nat.le_refl _) _⟩
        case measure => simp [intOf]; omega
    · have hk' : ¬ (k : Int) < (n : Int) := by omega
      obtain rfl : k = n := by omega
      have hcv2 : (convert 37 9 (.slice (some ⟨w.heap.size, 0, none⟩) k c)).run Tryd.prog wr = .ok (.string (bs (l.map fun x => 97 - x))) wr := by
        have e := flK_all l
        rw [HN.out] at e
        rw [e] at hcb
        exact conv_upto (l := l.map fun x => 97 - x) ⟨hcb.1, hcb.2.1⟩ (by simp [HN.out]) (by rw [List.take_of_length_le (by simp [HN.out])])
      clear hcb
      obtain ⟨X, hX⟩ : ∃ X, (l.map fun x => 97 - x) = X := ⟨_, rfl⟩
      have HXX := Lib.hid hX
      rw [hX] at hcv2
      clear hX
      go_wp2
      go_ret
      exact ⟨by rw [HXX.out]; rfl, HB2.out⟩

set_option maxRecDepth 10000 in
set_option maxHeartbeats 2000000 in
theorem specOtherSet_any (h l : List UInt8) (w : World) (hh : h.length ≤ 1000000000) (hl : l.length ≤ 1000000000) :
    Calls Tryd.prog 20 #[.agg #[.string (bs h), .string (bs l)]] w fun e w' => e = .returned (.tuple #[.agg #[.string (bs (combR (fun x _ => !x) h l h l).1.1), .string (bs (combR (fun x _ => !x) h l h l).1.2)], .bool (combR (fun x _ => !x) h l h l).2]) ∧ Below w.heap.size w w' := by
  have HV := Lib.hid fun w => specSetValid_b h l w hh hl
  have HS := Lib.hid (svS_parts (h := h) (l := l))
  obtain ⟨v, hv⟩ : ∃ v, svS h l = v := ⟨_, rfl⟩
  have HQ : Hid (svS h l = v) := Lib.hid hv
  rw [hv] at HV
  clear hv
  cases v with
  | false =>
    have HF : Hid (combR (fun x _ => !x) h l h l = (([], []), false)) := Lib.hid (by unfold combR; rw [HQ.out]; rfl)
    go_enter Tryd.func20, Tryd.ntmps20
    go_wp2_with fail
    generalize hW0 : World.alloc w _ = W0
    obtain ⟨hx, hsx, hwx⟩ := s2_new hW0
    clear hW0
    generalize hW : World.alloc W0 _ = W2
    obtain ⟨hr, hsr, hwr⟩ := s2_new hW
    rw [hsx] at hr
    clear hW
    have X1 := s2_on hx hwr
    have B1 := below_on hwx hwr
    have hne : w.heap.size ≤ w.heap.size + 1 := by omega
    clear hx hwx hwr hsx hsr
    refine (HV.out _).mono ?_
    rintro e w3 ⟨rfl, hb3⟩
    have X3 := s2_on X1 hb3
    have R3 := s2_on hr hb3
    have B3 := below_on B1 hb3
    clear X1 hr B1 hb3
    obtain ⟨x0, x1, x2, x3⟩ := id X3
    obtain ⟨a0, a1, a2, a3⟩ := id R3
    go_wp2
    generalize hW : World.setCell _ _ _ = W8
    obtain ⟨⟨_, r1, r2, _⟩, _, _, hb8⟩ := s2_put hW _ _ R3
    refine bodyPost_ret (v := .tuple #[.agg #[.string ⟨#[]⟩, .string ⟨#[]⟩], .bool false]) (by simp [results, Tryd.results20, go_sem, r1, r2]) rfl ⟨by rw [HF.out]; rfl, ?_⟩
    exact hb8 w B3 hne
  | true =>
    obtain ⟨q1, q2, q3, q4, q5, q6⟩ := HS.out HQ.out
    have e : atS (h.map fun x => 97 - x) (l.map fun x => 97 - x) = fun n => bitS (!inS (atS h l) n) := funext fun n => not_at h l q6 q1 q2 n
    have HF : Hid (combR (fun x _ => !x) h l h l = resA (atS (h.map fun x => 97 - x) (l.map fun x => 97 - x))) := Lib.hid (by unfold combR; rw [HQ.out, e]; rfl)
    have H1 := Lib.hid fun w => l7Flip_any h w q1 (by omega)
    have H2 := Lib.hid fun w => l7Flip_any l w q2 (by omega)
    have HR := Lib.hid fun w => l7Result_any (h.map fun x => 97 - x) (l.map fun x => 97 - x) w (by simp; exact q6) (flip_bits q1) (flip_bits q2) (by simp; omega) (by simp; omega)
    obtain ⟨A, hA⟩ : ∃ X, (h.map fun x => 97 - x) = X := ⟨_, rfl⟩
    obtain ⟨B, hB⟩ : ∃ X, (l.map fun x => 97 - x) = X := ⟨_, rfl⟩
    rw [hA] at H1
    rw [hB] at H2
    rw [hA, hB] at HR HF
    obtain ⟨r, hr⟩ : ∃ r, resA (atS A B) = r := ⟨_, rfl⟩
    rw [hr] at HF HR
    clear q1 q2 q3 q4 q5 q6 e hA hB hr hh hl
    go_enter Tryd.func20, Tryd.ntmps20
    go_wp2_with fail
    generalize hW0 : World.alloc w _ = W0
    obtain ⟨hx, hsx, hwx⟩ := s2_new hW0
    clear hW0
    generalize hW : World.alloc W0 _ = W2
    obtain ⟨hr, hsr, hwr⟩ := s2_new hW
    rw [hsx] at hr
    clear hW
    have X1 := s2_on hx hwr
    have B1 := below_on hwx hwr
    have hne : w.heap.size ≤ w.heap.size + 1 := by omega
    clear hx hwx hwr hsx hsr
    refine (HV.out _).mono ?_
    rintro e w3 ⟨rfl, hb3⟩
    have X3 := s2_on X1 hb3
    have R3 := s2_on hr hb3
    have B3 := below_on B1 hb3
    clear X1 hr B1 hb3
    obtain ⟨x0, x1, x2, x3⟩ := id X3
    obtain ⟨a0, a1, a2, a3⟩ := id R3
    have X := Lib.hid X3
    have R := Lib.hid R3
    have B := Lib.hid B3
    clear X3 R3 B3
    go_upto_region 3 with fail
    clear x0 x1 x2 x3 a0 a1 a2 a3
    refine wp_region_held_drew (S := (fun w' => w'.cell? ⟨w.heap.size, 0, none⟩ = some (.string (bs h)) ∧ w'.cell? ⟨w.heap.size, 1, none⟩ = some (.string (bs l)))) (by kernel_rfl) ?_ (fun hHeld => ?_)
    · try dsimp only
      first | (refine s2_keep X.out ?_; go_grown; done) | exact ⟨(s2_set (s2_set (s2_on X.out hbW7) (by omega)) (by omega)).2.1, (s2_set (s2_set (s2_on X.out hbW7) (by omega)) (by omega)).2.2.1⟩
    refine wpAnyH_take (i := 0) (oi := { dst := some 8, op := Go.Op.fieldAddr 25 (Go.Operand.tmp 1) 0, type := 0, pos := "l7_sets.go:145", after := #[], guard := none }) (v := ?_) rfl (by kernel_rfl) (by kernel_rfl) (by kernel_rfl) (fun _ _ _ h => h) (Or.inl ⟨by rfl, ?_⟩) (by assumption) ?_
    rotate_left
    · (intro w hSw; (try dsimp only at hSw); first | (go_simp; done) | (go_simp; with_reducible rfl))
    try simp only [Act.put, List.setIfInBounds_toArray, List.set_cons_zero, List.set_cons_succ]
    refine wpAnyH_take (i := 1) (oi := { dst := some 9, op := Go.Op.load 9 (Go.Operand.tmp 8), type := 9, pos := "l7_sets.go:145", after := #[{ on := 0, ground := Go.Ground.data }], guard := none }) (v := ?_) rfl (by kernel_rfl) (by kernel_rfl) (by kernel_rfl) (fun _ _ _ h => h) (Or.inl ⟨by rfl, ?_⟩) (by assumption) ?_
    rotate_left
    · (intro w hSw; (try dsimp only at hSw); first | (go_simp; done) | (go_simp; with_reducible rfl))
    try simp only [Act.put, List.setIfInBounds_toArray, List.set_cons_zero, List.set_cons_succ]
    refine wpAnyH_take (i := 3) (oi := { dst := some 11, op := Go.Op.fieldAddr 25 (Go.Operand.tmp 1) 1, type := 0, pos := "l7_sets.go:145", after := #[], guard := none }) (v := ?_) rfl (by kernel_rfl) (by kernel_rfl) (by kernel_rfl) (fun _ _ _ h => h) (Or.inl ⟨by rfl, ?_⟩) (by assumption) ?_
    rotate_left
    · (intro w hSw; (try dsimp only at hSw); first | (go_simp; done) | (go_simp; with_reducible rfl))
    try simp only [Act.put, List.setIfInBounds_toArray, List.set_cons_zero, List.set_cons_succ]
    refine wpAnyH_take (i := 4) (oi := { dst := some 12, op := Go.Op.load 9 (Go.Operand.tmp 11), type := 9, pos := "l7_sets.go:145", after := #[{ on := 3, ground := Go.Ground.data }], guard := none }) (v := ?_) rfl (by kernel_rfl) (by kernel_rfl) (by kernel_rfl) (fun _ _ _ h => h) (Or.inl ⟨by rfl, ?_⟩) (by assumption) ?_
    rotate_left
    · (intro w hSw; (try dsimp only at hSw); first | (go_simp; done) | (go_simp; with_reducible rfl))
    try simp only [Act.put, List.setIfInBounds_toArray, List.set_cons_zero, List.set_cons_succ]
    refine wpAnyH_ready (rs := [2]) (by kernel_rfl) (by simp) ?_
    refine AllReadyH.cons (o := { dst := some 10, op := Go.Op.call { callee := Go.Callee.value (Go.Operand.func 47), args := #[Go.Operand.tmp 9], argTypes := #[9] }, type := 9, pos := "l7_sets.go:145", after := #[{ on := 1, ground := Go.Ground.data }], guard := none }) rfl (fun K hK => ?_) AllReadyH.nil
    go_simp
    (go_at_call 47; refine (H1.out _).mono ?_; rintro e w5 ⟨rfl, hb5⟩; have hbW5 := below_on (w := w3) (by go_grown) hb5)
    (try go_wp2_with fail)
    refine hK.out _ _ ?_ (fun hHeld => ?_)
    · try dsimp only
      first | (refine s2_keep X.out ?_; go_grown; done) | exact ⟨(s2_set (s2_set (s2_on X.out hbW7) (by omega)) (by omega)).2.1, (s2_set (s2_set (s2_on X.out hbW7) (by omega)) (by omega)).2.2.1⟩
    clear hK K
    try simp only [Act.put, List.setIfInBounds_toArray, List.set_cons_zero, List.set_cons_succ]
    refine wpAnyH_ready (rs := [5]) (by kernel_rfl) (by simp) ?_
    refine AllReadyH.cons (o := { dst := some 13, op := Go.Op.call { callee := Go.Callee.value (Go.Operand.func 47), args := #[Go.Operand.tmp 12], argTypes := #[9] }, type := 9, pos := "l7_sets.go:145", after := #[{ on := 4, ground := Go.Ground.data }, { on := 2, ground := Go.Ground.chain }], guard := none }) rfl (fun K hK => ?_) AllReadyH.nil
    go_simp
    (go_at_call 47; refine (H2.out _).mono ?_; rintro e w6 ⟨rfl, hb6⟩; have hbW6 := below_on (w := w3) (by go_grown) hb6)
    (try go_wp2_with fail)
    refine hK.out _ _ ?_ (fun hHeld => ?_)
    · try dsimp only
      first | (refine s2_keep X.out ?_; go_grown; done) | exact ⟨(s2_set (s2_set (s2_on X.out hbW7) (by omega)) (by omega)).2.1, (s2_set (s2_set (s2_on X.out hbW7) (by omega)) (by omega)).2.2.1⟩
    clear hK K
    try simp only [Act.put, List.setIfInBounds_toArray, List.set_cons_zero, List.set_cons_succ]
    refine wpAnyH_ready (rs := [6]) (by kernel_rfl) (by simp) ?_
    refine AllReadyH.cons (o := { dst := some 14, op := Go.Op.call { callee := Go.Callee.value (Go.Operand.func 46), args := #[Go.Operand.tmp 10, Go.Operand.tmp 13], argTypes := #[9, 9] }, type := 26, pos := "l7_sets.go:145", after := #[{ on := 2, ground := Go.Ground.data }, { on := 5, ground := Go.Ground.data }, { on := 5, ground := Go.Ground.chain }], guard := none }) rfl (fun K hK => ?_) AllReadyH.nil
    go_simp
    (go_at_call 46; refine (HR.out _).mono ?_; rintro e w7 ⟨rfl, hb7⟩; have hbW7 := below_on (w := w3) (by go_grown) hb7; have R7 := s2_on R.out hbW7; obtain ⟨a0, a1, a2, a3⟩ := id R7)
    (try go_wp2_with fail)
    refine hK.out _ _ ?_ (fun hHeld => ?_)
    · try dsimp only
      first | (refine s2_keep X.out ?_; go_grown; done) | exact ⟨(s2_set (s2_set (s2_on X.out hbW7) (by omega)) (by omega)).2.1, (s2_set (s2_set (s2_on X.out hbW7) (by omega)) (by omega)).2.2.1⟩
    clear hK K
    try simp only [Act.put, List.setIfInBounds_toArray, List.set_cons_zero, List.set_cons_succ]
    refine wpAnyH_take (i := 7) (oi := { dst := some 15, op := Go.Op.extract (Go.Operand.tmp 14) 0, type := 25, pos := "l7_sets.go:145", after := #[{ on := 6, ground := Go.Ground.data }], guard := none }) (v := ?_) rfl (by kernel_rfl) (by kernel_rfl) (by kernel_rfl) (fun _ _ _ h => h) (Or.inl ⟨by rfl, ?_⟩) (by assumption) ?_
    rotate_left
    · (intro w hSw; (try dsimp only at hSw); first | (go_simp; done) | (go_simp; with_reducible rfl))
    try simp only [Act.put, List.setIfInBounds_toArray, List.set_cons_zero, List.set_cons_succ]
    refine wpAnyH_take (i := 8) (oi := { dst := some 16, op := Go.Op.extract (Go.Operand.tmp 14) 1, type := 4, pos := "l7_sets.go:145", after := #[{ on := 6, ground := Go.Ground.data }], guard := none }) (v := ?_) rfl (by kernel_rfl) (by kernel_rfl) (by kernel_rfl) (fun _ _ _ h => h) (Or.inl ⟨by rfl, ?_⟩) (by assumption) ?_
    rotate_left
    · (intro w hSw; (try dsimp only at hSw); first | (go_simp; done) | (go_simp; with_reducible rfl))
    try simp only [Act.put, List.setIfInBounds_toArray, List.set_cons_zero, List.set_cons_succ]
    refine wpAnyH_ready (rs := [9]) (by kernel_rfl) (by simp) ?_
    refine AllReadyH.cons (o := { dst := none, op := Go.Op.store 25 (Go.Operand.tmp 2) (Go.Operand.tmp 15), type := 0, pos := "l7_sets.go:145", after := #[{ on := 7, ground := Go.Ground.data }, { on := 6, ground := Go.Ground.chain }, { on := 0, ground := Go.Ground.phase }, { on := 1, ground := Go.Ground.phase }, { on := 2, ground := Go.Ground.phase }, { on := 3, ground := Go.Ground.phase }, { on := 4, ground := Go.Ground.phase }, { on := 5, ground := Go.Ground.phase }, { on := 6, ground := Go.Ground.phase }, { on := 7, ground := Go.Ground.phase }, { on := 8, ground := Go.Ground.phase }], guard := none }) rfl (fun K hK => ?_) AllReadyH.nil
    go_simp
    refine hK.out _ _ ?_ (fun hHeld => ?_)
    · try dsimp only
      first | (refine s2_keep X.out ?_; go_grown; done) | exact ⟨(s2_set (s2_set (s2_on X.out hbW7) (by omega)) (by omega)).2.1, (s2_set (s2_set (s2_on X.out hbW7) (by omega)) (by omega)).2.2.1⟩
    clear hK K
    try simp only [Act.put, List.setIfInBounds_toArray, List.set_cons_zero, List.set_cons_succ]
    refine wpAnyH_take (i := 10) (oi := { dst := some 3, op := Go.Op.assign (Go.Operand.tmp 16), type := 4, pos := "l7_sets.go:145", after := #[{ on := 8, ground := Go.Ground.data }, { on := 9, ground := Go.Ground.chain }, { on := 0, ground := Go.Ground.phase }, { on := 1, ground := Go.Ground.phase }, { on := 2, ground := Go.Ground.phase }, { on := 3, ground := Go.Ground.phase }, { on := 4, ground := Go.Ground.phase }, { on := 5, ground := Go.Ground.phase }, { on := 6, ground := Go.Ground.phase }, { on := 7, ground := Go.Ground.phase }, { on := 8, ground := Go.Ground.phase }, { on := 9, ground := Go.Ground.phase }], guard := none }) (v := ?_) rfl (by kernel_rfl) (by kernel_rfl) (by kernel_rfl) (fun _ _ _ h => h) (Or.inl ⟨by rfl, ?_⟩) (by assumption) ?_
    rotate_left
    · (intro w hSw; (try dsimp only at hSw); first | (go_simp; done) | (go_simp; with_reducible rfl))
    try simp only [Act.put, List.setIfInBounds_toArray, List.set_cons_zero, List.set_cons_succ]
    refine wpAnyH_done (by kernel_rfl) ?_ _
    go_wp2
    generalize hW8 : World.setCell _ _ _ = W8
    obtain ⟨⟨_, r1, r2, _⟩, _, _, hb8⟩ := s2_put hW8 _ _ R7
    refine bodyPost_ret (v := .tuple #[.agg #[.string (bs r.1.1), .string (bs r.1.2)], .bool r.2]) (by simp [results, Tryd.results20, go_sem, r1, r2]) rfl ⟨by rw [HF.out], ?_⟩
    exact below_on (hb8 w (below_on B.out hbW7) hne) (by go_grown)

/-- Bits with zeros behind each, one more. -/
theorem str_next {l : List UInt8} {i k : Nat} {x : UInt8} (hx : l[i]? = some x) : strL (l.take (i + 1)) k = strL (l.take i) k ++ (x :: List.replicate (k - 1) 48) := by
  unfold strL
  rw [List.take_add_one, hx]
  simp

set_option maxHeartbeats 2000000 in
theorem l7Stretch_any (l : List UInt8) (k : Nat) (w : World) (hl : l.length ≤ 1000) (hk0 : 1 ≤ k) (hk : k ≤ 1000) :
    Calls Tryd.prog 57 #[.string (bs l), .int .i64 k] w fun e w' => e = .returned (.string (bs (strL l k))) ∧ Below w.heap.size w w' := by
  have hs := bs_size l
  have happ := bs_app
  have HM := Lib.hid fun w => l17Many_any [48] (k - 1) w (by simp) (by omega)
  rw [rep_zero] at HM
  obtain ⟨Z, hZ⟩ : ∃ Z, List.replicate (k - 1) (48 : UInt8) = Z := ⟨_, rfl⟩
  have hZl : Z.length = k - 1 := by rw [← hZ]; simp
  have hzs := bs_size Z
  obtain ⟨k1, hk1⟩ : ∃ k1, k - 1 = k1 := ⟨_, rfl⟩
  rw [hZ, hk1] at HM
  rw [hZl, hk1] at hzs
  have hwk : IntKind.i64.wrap ((k : Int) - 1) = (k1 : Int) := by rw [IntKind.wrap_i64]; omega
  obtain ⟨n, hn⟩ : ∃ n, l.length = n := ⟨_, rfl⟩
  have HN := Lib.hid hn
  have HSN : Hid (∀ i x, l[i]? = some x → strL (l.take (i + 1)) k = (strL (l.take i) k ++ [x]) ++ Z) := Lib.hid fun i x hx => by rw [str_next hx, hZ, List.append_assoc]; rfl
  have HSL : Hid (∀ i, i ≤ n → (strL (l.take i) k).length ≤ 1000000) := Lib.hid fun i hi => by
    rw [str_len _ hk0, List.length_take]
    exact Nat.le_trans (Nat.mul_le_mul (show min i l.length ≤ 1000 by omega) hk) (by omega)
  rw [hn] at hs hl
  have hk1b : k1 ≤ 1000 := by omega
  clear hn hZ hZl hk1
  go_enter Tryd.func57, Tryd.ntmps57
  go_wp2
  go_loopw [5, 6] (fun o i wr => ∃ (j : Nat) (O : List UInt8), o = .string (bs O) ∧ i = .int .i64 j ∧ j ≤ n ∧ O = strL (l.take j) k ∧ Below w.heap.size w wr) (fun _ i _ => n - (intOf i).toNat)
  case atStart => exact ⟨0, [], rfl, rfl, Nat.zero_le _, by simp [strL], Below.refl _ _⟩
  case round =>
    obtain ⟨j, O, rfl, rfl, hj, hO, hb⟩ := hrel
    have HO := Lib.hid hO
    have HB := Lib.hid hb
    have hOl : O.length ≤ 1000000 := by rw [hO]; exact HSL.out j hj
    have hos := bs_size O
    clear hO hb
    by_cases hlt : j < n
    · have hj' : (j : Int) < (n : Int) := by omega
      have hwj : IntKind.i64.wrap ((j : Int) + 1) = ((j + 1 : Nat) : Int) := by rw [IntKind.wrap_i64]; omega
      obtain ⟨j1, hj1⟩ : ∃ j1, j + 1 = j1 := ⟨_, rfl⟩
      rw [hj1] at hwj
      obtain ⟨x, hx⟩ : ∃ x, l[j]? = some x := ⟨_, List.getElem?_eq_getElem (by rw [HN.out]; exact hlt)⟩
      have hsl := run_part (P := Tryd.prog) Tryd.underlying9 (l := l) (x := [x]) (i := j) (j := j1) (by omega) (by rw [HN.out]; omega) (by
        have h1 := List.getElem?_eq_some_iff.1 hx
        rw [← hj1, Nat.add_sub_cancel_left, List.drop_eq_getElem_cons h1.1, h1.2]
        rfl) .i64 .i64
      have hx1 : (bs [x]).size = 1 := bs_size [x]
      have hox : (bs (O ++ [x])).size = O.length + 1 := by rw [bs_size]; simp
      have HNX : Hid ((O ++ [x]) ++ Z = strL (l.take j1) k) := Lib.hid (by rw [HO.out, ← hj1]; exact (HSN.out j x hx).symm)
      obtain ⟨q, hq⟩ : ∃ q, O.length = q := ⟨_, rfl⟩
      rw [hq] at hos hox hOl
      have hq1 : ¬ 9223372036854775807 < q + 1 := by omega
      have hq2 : ¬ 9223372036854775807 < q + 1 + k1 := by omega
      have hjn : Hid (j1 ≤ n) := Lib.hid (by omega)
      have hmeas : Hid (n - j1 < n - j) := Lib.hid (by omega)
      clear hx hq hj1
      go_wp2
      refine wp_region_held_drew (S := (fun _ => True)) (by kernel_rfl) ?_ (fun hHeld => ?_)
      · try dsimp only
        all_goals trivial
      refine wpAnyH_take (i := 0) (oi := { dst := some 13, op := Go.Op.move (Go.Operand.tmp 5), type := 9, pos := "l7_sets.go:210", after := #[], guard := none }) (v := ?_) rfl (by kernel_rfl) (by kernel_rfl) (by kernel_rfl) (fun _ _ _ h => h) (Or.inl ⟨by rfl, ?_⟩) (by assumption) ?_
      rotate_left
      · (intro w hSw; (try dsimp only at hSw); first | (go_simp; done) | (go_simp; with_reducible rfl))
      try simp only [Act.put, List.setIfInBounds_toArray, List.set_cons_zero, List.set_cons_succ]
      refine wpAnyH_take (i := 1) (oi := { dst := some 14, op := Go.Op.move (Go.Operand.tmp 0), type := 9, pos := "l7_sets.go:210", after := #[], guard := none }) (v := ?_) rfl (by kernel_rfl) (by kernel_rfl) (by kernel_rfl) (fun _ _ _ h => h) (Or.inl ⟨by rfl, ?_⟩) (by assumption) ?_
      rotate_left
      · (intro w hSw; (try dsimp only at hSw); first | (go_simp; done) | (go_simp; with_reducible rfl))
      try simp only [Act.put, List.setIfInBounds_toArray, List.set_cons_zero, List.set_cons_succ]
      refine wpAnyH_take (i := 2) (oi := { dst := some 15, op := Go.Op.move (Go.Operand.tmp 6), type := 3, pos := "l7_sets.go:210", after := #[], guard := none }) (v := ?_) rfl (by kernel_rfl) (by kernel_rfl) (by kernel_rfl) (fun _ _ _ h => h) (Or.inl ⟨by rfl, ?_⟩) (by assumption) ?_
      rotate_left
      · (intro w hSw; (try dsimp only at hSw); first | (go_simp; done) | (go_simp; with_reducible rfl))
      try simp only [Act.put, List.setIfInBounds_toArray, List.set_cons_zero, List.set_cons_succ]
      refine wpAnyH_take (i := 3) (oi := { dst := some 16, op := Go.Op.move (Go.Operand.tmp 6), type := 3, pos := "l7_sets.go:210", after := #[], guard := none }) (v := ?_) rfl (by kernel_rfl) (by kernel_rfl) (by kernel_rfl) (fun _ _ _ h => h) (Or.inl ⟨by rfl, ?_⟩) (by assumption) ?_
      rotate_left
      · (intro w hSw; (try dsimp only at hSw); first | (go_simp; done) | (go_simp; with_reducible rfl))
      try simp only [Act.put, List.setIfInBounds_toArray, List.set_cons_zero, List.set_cons_succ]
      refine wpAnyH_take (i := 4) (oi := { dst := some 17, op := Go.Op.binOp Go.BinOp.add 3 (Go.Operand.tmp 16) (Go.Operand.const (Go.Value.int Go.IntKind.i64 1)) 3, type := 3, pos := "l7_sets.go:210", after := #[{ on := 3, ground := Go.Ground.data }], guard := none }) (v := ?_) rfl (by kernel_rfl) (by kernel_rfl) (by kernel_rfl) (fun _ _ _ h => h) (Or.inl ⟨by rfl, ?_⟩) (by assumption) ?_
      rotate_left
      · (intro w hSw; (try dsimp only at hSw); first | (go_simp; done) | (go_simp; with_reducible rfl))
      try simp only [Act.put, List.setIfInBounds_toArray, List.set_cons_zero, List.set_cons_succ]
      refine wpAnyH_take (i := 5) (oi := { dst := some 18, op := Go.Op.slice 9 (Go.Operand.tmp 14) (some (Go.Operand.tmp 15)) (some (Go.Operand.tmp 17)) none, type := 9, pos := "l7_sets.go:210", after := #[{ on := 1, ground := Go.Ground.data }, { on := 2, ground := Go.Ground.data }, { on := 4, ground := Go.Ground.data }], guard := none }) (v := ?_) rfl (by kernel_rfl) (by kernel_rfl) (by kernel_rfl) (fun _ _ _ h => h) (Or.inl ⟨by rfl, ?_⟩) (by assumption) ?_
      rotate_left
      · (intro w hSw; (try dsimp only at hSw); first | (go_simp; done) | (go_simp; with_reducible rfl))
      try simp only [Act.put, List.setIfInBounds_toArray, List.set_cons_zero, List.set_cons_succ]
      refine wpAnyH_take (i := 6) (oi := { dst := some 19, op := Go.Op.binOp Go.BinOp.add 9 (Go.Operand.tmp 13) (Go.Operand.tmp 18) 9, type := 9, pos := "l7_sets.go:210", after := #[{ on := 0, ground := Go.Ground.data }, { on := 5, ground := Go.Ground.data }], guard := none }) (v := ?_) rfl (by kernel_rfl) (by kernel_rfl) (by kernel_rfl) (fun _ _ _ h => h) (Or.inl ⟨by rfl, ?_⟩) (by assumption) ?_
      rotate_left
      · (intro w hSw; (try dsimp only at hSw); first | (go_simp; done) | (go_simp; with_reducible rfl))
      try simp only [Act.put, List.setIfInBounds_toArray, List.set_cons_zero, List.set_cons_succ]
      refine wpAnyH_take (i := 7) (oi := { dst := some 20, op := Go.Op.move (Go.Operand.tmp 1), type := 3, pos := "l7_sets.go:210", after := #[], guard := none }) (v := ?_) rfl (by kernel_rfl) (by kernel_rfl) (by kernel_rfl) (fun _ _ _ h => h) (Or.inl ⟨by rfl, ?_⟩) (by assumption) ?_
      rotate_left
      · (intro w hSw; (try dsimp only at hSw); first | (go_simp; done) | (go_simp; with_reducible rfl))
      try simp only [Act.put, List.setIfInBounds_toArray, List.set_cons_zero, List.set_cons_succ]
      refine wpAnyH_take (i := 8) (oi := { dst := some 21, op := Go.Op.binOp Go.BinOp.sub 3 (Go.Operand.tmp 20) (Go.Operand.const (Go.Value.int Go.IntKind.i64 1)) 3, type := 3, pos := "l7_sets.go:210", after := #[{ on := 7, ground := Go.Ground.data }], guard := none }) (v := ?_) rfl (by kernel_rfl) (by kernel_rfl) (by kernel_rfl) (fun _ _ _ h => h) (Or.inl ⟨by rfl, ?_⟩) (by assumption) ?_
      rotate_left
      · (intro w hSw; (try dsimp only at hSw); first | (go_simp; done) | (go_simp; with_reducible rfl))
      try simp only [Act.put, List.setIfInBounds_toArray, List.set_cons_zero, List.set_cons_succ]
      refine wpAnyH_ready (rs := [9]) (by kernel_rfl) (by simp) ?_
      refine AllReadyH.cons (o := { dst := some 22, op := Go.Op.call { callee := Go.Callee.value (Go.Operand.func 50), args := #[Go.Operand.const (Go.Value.string { data := #[48] }), Go.Operand.tmp 21], argTypes := #[9, 3] }, type := 9, pos := "l7_sets.go:210", after := #[{ on := 8, ground := Go.Ground.data }], guard := none }) rfl (fun K hK => ?_) AllReadyH.nil
      go_simp
      (go_at_call 50; refine (HM.out _).mono ?_; rintro e w5 ⟨rfl, rfl⟩)
      (try go_wp2_with fail)
      refine hK.out _ _ ?_ (fun hHeld => ?_)
      · try dsimp only
        all_goals trivial
      clear hK K
      try simp only [Act.put, List.setIfInBounds_toArray, List.set_cons_zero, List.set_cons_succ]
      refine wpAnyH_take (i := 10) (oi := { dst := some 23, op := Go.Op.binOp Go.BinOp.add 9 (Go.Operand.tmp 19) (Go.Operand.tmp 22) 9, type := 9, pos := "l7_sets.go:210", after := #[{ on := 6, ground := Go.Ground.data }, { on := 9, ground := Go.Ground.data }], guard := none }) (v := ?_) rfl (by kernel_rfl) (by kernel_rfl) (by kernel_rfl) (fun _ _ _ h => h) (Or.inl ⟨by rfl, ?_⟩) (by assumption) ?_
      rotate_left
      · (intro w hSw; (try dsimp only at hSw); first | (go_simp; done) | (go_simp; with_reducible rfl))
      try simp only [Act.put, List.setIfInBounds_toArray, List.set_cons_zero, List.set_cons_succ]
      refine wpAnyH_take (i := 11) (oi := { dst := some 5, op := Go.Op.assign (Go.Operand.tmp 23), type := 9, pos := "l7_sets.go:210", after := #[{ on := 10, ground := Go.Ground.data }, { on := 9, ground := Go.Ground.chain }, { on := 0, ground := Go.Ground.phase }, { on := 1, ground := Go.Ground.phase }, { on := 2, ground := Go.Ground.phase }, { on := 3, ground := Go.Ground.phase }, { on := 4, ground := Go.Ground.phase }, { on := 5, ground := Go.Ground.phase }, { on := 6, ground := Go.Ground.phase }, { on := 7, ground := Go.Ground.phase }, { on := 8, ground := Go.Ground.phase }, { on := 9, ground := Go.Ground.phase }, { on := 10, ground := Go.Ground.phase }], guard := none }) (v := ?_) rfl (by kernel_rfl) (by kernel_rfl) (by kernel_rfl) (fun _ _ _ h => h) (Or.inl ⟨by rfl, ?_⟩) (by assumption) ?_
      rotate_left
      · (intro w hSw; (try dsimp only at hSw); first | (go_simp; done) | (go_simp; with_reducible rfl))
      try simp only [Act.put, List.setIfInBounds_toArray, List.set_cons_zero, List.set_cons_succ]
      refine wpAnyH_done (by kernel_rfl) ?_ _
      go_wp2
      go_roundw
      case rel => exact ⟨j1, (O ++ [x]) ++ Z, by simp, rfl, hjn.out, HNX.out, below_on HB.out (by go_grown)⟩
      case measure => simp [intOf]; exact hmeas.out
    · have hj' : ¬ (j : Int) < (n : Int) := by omega
      obtain rfl : j = n := by omega
      have HF : Hid (O = strL l k) := Lib.hid (by rw [HO.out, List.take_of_length_le (by rw [HN.out]; exact Nat.le_refl _)])
      go_wp2
      go_ret
      exact ⟨by rw [← HF.out]; rfl, HB.out⟩

end Go.Proofs.YtpheihejgnlanaaDoor

/- ProgressionSet, ShiftSet, StretchSet of the model. -/
namespace Go.Proofs.YtpheihejgnlanaaDoor
open Go.RowKit

theorem bits_rep (n : Nat) : ∀ x ∈ List.replicate n (48 : UInt8), x = 48 ∨ x = 49 := fun _ hx => .inl (List.eq_of_mem_replicate hx)
theorem bits_cat {a b : List UInt8} (h1 : ∀ x ∈ a, x = 48 ∨ x = 49) (h2 : ∀ x ∈ b, x = 48 ∨ x = 49) : ∀ x ∈ a ++ b, x = 48 ∨ x = 49 := fun x hx => by
  rcases List.mem_append.1 hx with h | h
  · exact h1 x h
  · exact h2 x h
theorem bits_str {l : List UInt8} {k : Nat} (h : ∀ x ∈ l, x = 48 ∨ x = 49) : ∀ x ∈ strL l k, x = 48 ∨ x = 49 := fun x hx => by
  unfold strL at hx
  obtain ⟨y, hy, hx⟩ := List.mem_flatMap.1 hx
  rcases List.mem_cons.1 hx with rfl | hx
  · exact h x hy
  · exact .inl (List.eq_of_mem_replicate hx)

set_option maxRecDepth 10000 in
set_option maxHeartbeats 4000000 in
theorem specProgressionSet_any (f s : Int) (w : World) (f0 : -9223372036854775808 ≤ f) (f1 : f ≤ 9223372036854775807) (s0 : -9223372036854775808 ≤ s) (s1 : s ≤ 9223372036854775807) :
    Calls Tryd.prog 22 #[.int .i64 f, .int .i64 s] w fun e w' => e = .returned (.tuple #[.agg #[.string (bs (prR f s).1.1), .string (bs (prR f s).1.2)], .bool (prR f s).2]) ∧ Below w.heap.size w w' := by
  have H1 := Lib.hid fun w => l1In_any f 0 400 w
  have H2 := Lib.hid fun w => l1In_any s 0 240 w
  by_cases hf : 0 ≤ f ∧ f ≤ 400
  case neg =>
    have HF : Hid (prR f s = (([], []), false)) := Lib.hid (by unfold prR; rw [decide_eq_false hf]; rfl)
    have e1 : inB f 0 400 = false := by unfold inB; exact decide_eq_false hf
    rw [e1] at H1
    clear hf e1
    go_enter Tryd.func22, Tryd.ntmps22
    go_wp2_with fail
    generalize hW0 : World.alloc w _ = W0
    obtain ⟨hr, hsr, hwr⟩ := s2_new hW0
    clear hW0
    have R3 := hr
    have B3 := hwr
    have hne : w.heap.size ≤ w.heap.size := Nat.le_refl _
    obtain ⟨a0, a1, a2, a3⟩ := id R3
    refine (H1.out _).mono ?_
    rintro e w' ⟨rfl, rfl⟩
    go_wp2
    generalize hW : World.setCell _ _ _ = W8
    obtain ⟨⟨_, r1, r2, _⟩, _, _, hb8⟩ := s2_put hW _ _ R3
    refine bodyPost_ret (v := .tuple #[.agg #[.string ⟨#[]⟩, .string ⟨#[]⟩], .bool false]) (by simp [results, Tryd.results22, go_sem, r1, r2]) rfl ⟨by rw [HF.out]; rfl, ?_⟩
    exact hb8 w B3 hne
  by_cases hs : 0 ≤ s ∧ s ≤ 240
  case neg =>
    have HF : Hid (prR f s = (([], []), false)) := Lib.hid (by unfold prR; rw [decide_eq_false hs, Bool.and_false]; rfl)
    have e1 : inB f 0 400 = true := by unfold inB; exact decide_eq_true hf
    have e2 : inB s 0 240 = false := by unfold inB; exact decide_eq_false hs
    rw [e1] at H1
    rw [e2] at H2
    clear hf hs e1 e2
    go_enter Tryd.func22, Tryd.ntmps22
    go_wp2_with fail
    generalize hW0 : World.alloc w _ = W0
    obtain ⟨hr, hsr, hwr⟩ := s2_new hW0
    clear hW0
    have R3 := hr
    have B3 := hwr
    have hne : w.heap.size ≤ w.heap.size := Nat.le_refl _
    obtain ⟨a0, a1, a2, a3⟩ := id R3
    refine (H1.out _).mono ?_
    rintro e w' ⟨rfl, rfl⟩
    go_wp2_with fail
    refine (H2.out _).mono ?_
    rintro e w' ⟨rfl, rfl⟩
    go_wp2
    generalize hW : World.setCell _ _ _ = W8
    obtain ⟨⟨_, r1, r2, _⟩, _, _, hb8⟩ := s2_put hW _ _ R3
    refine bodyPost_ret (v := .tuple #[.agg #[.string ⟨#[]⟩, .string ⟨#[]⟩], .bool false]) (by simp [results, Tryd.results22, go_sem, r1, r2]) rfl ⟨by rw [HF.out]; rfl, ?_⟩
    exact hb8 w B3 hne
  have HF0 : Hid (prR f s = resA (prA f.toNat s.toNat)) := Lib.hid (by unfold prR; rw [decide_eq_true hf, decide_eq_true hs]; rfl)
  have e1 : inB f 0 400 = true := by unfold inB; exact decide_eq_true hf
  have e2 : inB s 0 240 = true := by unfold inB; exact decide_eq_true hs
  rw [e1] at H1
  rw [e2] at H2
  obtain ⟨F, rfl⟩ : ∃ F : Nat, f = F := ⟨f.toNat, by omega⟩
  obtain ⟨S, rfl⟩ : ∃ S : Nat, s = S := ⟨s.toNat, by omega⟩
  have hF : F ≤ 400 := by omega
  have hS : S ≤ 240 := by omega
  have happ := bs_app
  have hb49 : ({ data := #[49] } : ByteArray) = bs [49] := rfl
  have HM := Lib.hid fun w => l17Many_any [48] F w (by simp) (by omega)
  rw [rep_zero] at HM
  clear hf hs e1 e2 f0 f1 s0 s1
  by_cases hS0 : S = 0
  · subst hS0
    have HR := Lib.hid fun w => l7Result_any (List.replicate F 48 ++ [49]) [48] w (by simp) (bits_cat (bits_rep F) (by simp)) (by simp) (by simp; omega) (by simp)
    have e : atS (List.replicate F 48 ++ [49]) [48] = prA F 0 := funext fun n => pr_at0 F n
    rw [e] at HR
    obtain ⟨r, hr0⟩ : ∃ r, resA (prA F 0) = r := ⟨_, rfl⟩
    have HF : Hid (prR F (0 : Nat) = r) := Lib.hid (by rw [HF0.out, ← hr0]; rfl)
    rw [hr0] at HR
    obtain ⟨Z, hZ⟩ : ∃ Z, List.replicate F (48 : UInt8) = Z := ⟨_, rfl⟩
    have hz1 := bs_size Z
    have hzl : Z.length = F := by rw [← hZ]; simp
    rw [hzl] at hz1
    have hz2 : (bs ([49] : List UInt8)).size = 1 := bs_size [49]
    rw [hZ] at HM HR
    have ge : (((0 : Nat) : Int) == 0) = true := rfl
    clear e hr0 hZ hzl HF0
    go_enter Tryd.func22, Tryd.ntmps22
    go_wp2_with fail
    generalize hW0 : World.alloc w _ = W0
    obtain ⟨hr, hsr, hwr⟩ := s2_new hW0
    clear hW0
    have R3 := hr
    have B3 := hwr
    have hne : w.heap.size ≤ w.heap.size := Nat.le_refl _
    obtain ⟨a0, a1, a2, a3⟩ := id R3
    refine (H1.out _).mono ?_
    rintro e w' ⟨rfl, rfl⟩
    go_wp2_with fail
    refine (H2.out _).mono ?_
    rintro e w' ⟨rfl, rfl⟩
    go_wp2_with fail
    refine (HM.out _).mono ?_
    rintro e w' ⟨rfl, rfl⟩
    go_wp2_with fail
    refine (HR.out _).mono ?_
    rintro e w5 ⟨rfl, hb5⟩
    have R5 := s2_on R3 hb5
    have B5 := below_on B3 hb5
    clear a0 a1 a2 a3
    obtain ⟨a0, a1, a2, a3⟩ := id R5
    go_wp2
    generalize hW : World.setCell _ _ _ = W8
    obtain ⟨⟨_, r1, r2, _⟩, _, _, hb8⟩ := s2_put hW _ _ R5
    refine bodyPost_ret (v := .tuple #[.agg #[.string (bs r.1.1), .string (bs r.1.2)], .bool r.2]) (by simp [results, Tryd.results22, go_sem, r1, r2]) rfl ⟨by rw [HF.out], ?_⟩
    exact hb8 w B5 hne
  · have HR := Lib.hid fun w => l7Result_any (List.replicate F 48) (49 :: List.replicate (S - 1) 48) w (by simp) (bits_rep F) (bits_cat (a := [49]) (by simp) (bits_rep (S - 1))) (by simp; omega) (by simp; omega)
    have e : atS (List.replicate F 48) (49 :: List.replicate (S - 1) 48) = prA F S := funext fun n => pr_at1 F S n (by omega)
    rw [e] at HR
    obtain ⟨r, hr0⟩ : ∃ r, resA (prA F S) = r := ⟨_, rfl⟩
    have HF : Hid (prR F S = r) := Lib.hid (by rw [HF0.out, ← hr0]; rfl)
    rw [hr0] at HR
    have HM2 := Lib.hid fun w => l17Many_any [48] (S - 1) w (by simp) (by omega)
    rw [rep_zero] at HM2
    obtain ⟨S1, hS1⟩ : ∃ k, S - 1 = k := ⟨_, rfl⟩
    rw [hS1] at HM2 HR
    have hws : IntKind.i64.wrap ((S : Int) - 1) = (S1 : Int) := by rw [IntKind.wrap_i64]; omega
    obtain ⟨Z, hZ⟩ : ∃ Z, List.replicate F (48 : UInt8) = Z := ⟨_, rfl⟩
    obtain ⟨Y, hY⟩ : ∃ Z, List.replicate S1 (48 : UInt8) = Z := ⟨_, rfl⟩
    have hz1 := bs_size Y
    have hzl : Y.length = S1 := by rw [← hY]; simp
    rw [hzl] at hz1
    have hz2 : (bs ([49] : List UInt8)).size = 1 := bs_size [49]
    have hcat : bs [49] ++ bs Y = bs (49 :: Y) := happ [49] Y
    rw [hZ] at HM HR
    rw [hY] at HM2 HR
    have hS1b : S1 ≤ 1000 := by omega
    have ge : ((S : Int) == 0) = false := by rw [beq_eq_false_iff_ne]; omega
    clear e hr0 hZ hY hzl HF0 hS1 hS0 happ
    go_enter Tryd.func22, Tryd.ntmps22
    go_wp2_with fail
    generalize hW0 : World.alloc w _ = W0
    obtain ⟨hr, hsr, hwr⟩ := s2_new hW0
    clear hW0
    have R3 := hr
    have B3 := hwr
    have hne : w.heap.size ≤ w.heap.size := Nat.le_refl _
    obtain ⟨a0, a1, a2, a3⟩ := id R3
    refine (H1.out _).mono ?_
    rintro e w' ⟨rfl, rfl⟩
    go_wp2_with fail
    refine (H2.out _).mono ?_
    rintro e w' ⟨rfl, rfl⟩
    go_wp2_with fail
    refine (HM.out _).mono ?_
    rintro e w' ⟨rfl, rfl⟩
    go_wp2_with fail
    refine (HM2.out _).mono ?_
    rintro e w' ⟨rfl, rfl⟩
    go_wp2_with fail
    refine (HR.out _).mono ?_
    rintro e w5 ⟨rfl, hb5⟩
    have R5 := s2_on R3 hb5
    have B5 := below_on B3 hb5
    clear a0 a1 a2 a3
    obtain ⟨a0, a1, a2, a3⟩ := id R5
    go_wp2
    generalize hW : World.setCell _ _ _ = W8
    obtain ⟨⟨_, r1, r2, _⟩, _, _, hb8⟩ := s2_put hW _ _ R5
    refine bodyPost_ret (v := .tuple #[.agg #[.string (bs r.1.1), .string (bs r.1.2)], .bool r.2]) (by simp [results, Tryd.results22, go_sem, r1, r2]) rfl ⟨by rw [HF.out], ?_⟩
    exact hb8 w B5 hne

set_option maxRecDepth 10000 in
set_option maxHeartbeats 4000000 in
theorem specShiftSet_any (h l : List UInt8) (k : Int) (w : World) (hh : h.length ≤ 1000000000) (hl : l.length ≤ 1000000000) (k0 : -9223372036854775808 ≤ k) (k1 : k ≤ 9223372036854775807) :
    Calls Tryd.prog 24 #[.agg #[.string (bs h), .string (bs l)], .int .i64 k] w fun e w' => e = .returned (.tuple #[.agg #[.string (bs (shR h l k).1.1), .string (bs (shR h l k).1.2)], .bool (shR h l k).2]) ∧ Below w.heap.size w w' := by
  have HV := Lib.hid fun w => specSetValid_b h l w hh hl
  have HS := Lib.hid (svS_parts (h := h) (l := l))
  have H2 := Lib.hid fun w => l1In_any k 0 400 w
  obtain ⟨v, hv⟩ : ∃ v, svS h l = v := ⟨_, rfl⟩
  have HQ : Hid (svS h l = v) := Lib.hid hv
  rw [hv] at HV
  clear hv
  cases v with
  | false =>
    have HF : Hid (shR h l k = (([], []), false)) := Lib.hid (by unfold shR; rw [HQ.out]; rfl)
    go_enter Tryd.func24, Tryd.ntmps24
    go_wp2_with fail
    generalize hW0 : World.alloc w _ = W0
    obtain ⟨hx, hsx, hwx⟩ := s2_new hW0
    clear hW0
    generalize hW : World.alloc W0 _ = W2
    obtain ⟨hr, hsr, hwr⟩ := s2_new hW
    rw [hsx] at hr
    clear hW
    have X1 := s2_on hx hwr
    have B1 := below_on hwx hwr
    have hne : w.heap.size ≤ w.heap.size + 1 := by omega
    clear hx hwx hwr hsx hsr
    refine (HV.out _).mono ?_
    rintro e w3 ⟨rfl, hb3⟩
    have X3 := s2_on X1 hb3
    have R3 := s2_on hr hb3
    have B3 := below_on B1 hb3
    clear X1 hr B1 hb3
    obtain ⟨x0, x1, x2, x3⟩ := id X3
    obtain ⟨a0, a1, a2, a3⟩ := id R3
    go_wp2
    generalize hW : World.setCell _ _ _ = W8
    obtain ⟨⟨_, r1, r2, _⟩, _, _, hb8⟩ := s2_put hW _ _ R3
    refine bodyPost_ret (v := .tuple #[.agg #[.string ⟨#[]⟩, .string ⟨#[]⟩], .bool false]) (by simp [results, Tryd.results24, go_sem, r1, r2]) rfl ⟨by rw [HF.out]; rfl, ?_⟩
    exact hb8 w B3 hne
  | true =>
    by_cases hc : 0 ≤ k ∧ k ≤ 400
    case neg =>
      have HF : Hid (shR h l k = (([], []), false)) := Lib.hid (by unfold shR; rw [HQ.out, decide_eq_false hc]; rfl)
      have e2 : inB k 0 400 = false := by unfold inB; exact decide_eq_false hc
      rw [e2] at H2
      clear hc e2
      go_enter Tryd.func24, Tryd.ntmps24
      go_wp2_with fail
      generalize hW0 : World.alloc w _ = W0
      obtain ⟨hx, hsx, hwx⟩ := s2_new hW0
      clear hW0
      generalize hW : World.alloc W0 _ = W2
      obtain ⟨hr, hsr, hwr⟩ := s2_new hW
      rw [hsx] at hr
      clear hW
      have X1 := s2_on hx hwr
      have B1 := below_on hwx hwr
      have hne : w.heap.size ≤ w.heap.size + 1 := by omega
      clear hx hwx hwr hsx hsr
      refine (HV.out _).mono ?_
      rintro e w3 ⟨rfl, hb3⟩
      have X3 := s2_on X1 hb3
      have R3 := s2_on hr hb3
      have B3 := below_on B1 hb3
      clear X1 hr B1 hb3
      obtain ⟨x0, x1, x2, x3⟩ := id X3
      obtain ⟨a0, a1, a2, a3⟩ := id R3
      go_wp2_with fail
      refine (H2.out _).mono ?_
      rintro e w' ⟨rfl, rfl⟩
      go_wp2
      generalize hW : World.setCell _ _ _ = W8
      obtain ⟨⟨_, r1, r2, _⟩, _, _, hb8⟩ := s2_put hW _ _ R3
      refine bodyPost_ret (v := .tuple #[.agg #[.string ⟨#[]⟩, .string ⟨#[]⟩], .bool false]) (by simp [results, Tryd.results24, go_sem, r1, r2]) rfl ⟨by rw [HF.out]; rfl, ?_⟩
      exact hb8 w B3 hne
    have e2 : inB k 0 400 = true := by unfold inB; exact decide_eq_true hc
    rw [e2] at H2
    obtain ⟨K, rfl⟩ : ∃ K : Nat, k = K := ⟨k.toNat, by omega⟩
    have hK : K ≤ 400 := by omega
    obtain ⟨q1, q2, q3, q4, q5, q6⟩ := HS.out HQ.out
    have e : atS (List.replicate K 48 ++ h) l = shA (atS h l) K := funext fun n => sh_at h l K n
    have HR := Lib.hid fun w => l7Result_any (List.replicate K 48 ++ h) l w q6 (bits_cat (bits_rep K) q1) q2 (by simp; omega) (by omega)
    rw [e] at HR
    obtain ⟨r, hr0⟩ : ∃ r, resA (shA (atS h l) K) = r := ⟨_, rfl⟩
    have HF : Hid (shR h l K = r) := Lib.hid (by unfold shR; rw [HQ.out, decide_eq_true hc, ← hr0]; rfl)
    rw [hr0] at HR
    have HM := Lib.hid fun w => l17Many_any [48] K w (by simp) (by omega)
    rw [rep_zero] at HM
    have happ := bs_app
    obtain ⟨Z, hZ⟩ : ∃ Z, List.replicate K (48 : UInt8) = Z := ⟨_, rfl⟩
    have hz1 := bs_size Z
    have hzl : Z.length = K := by rw [← hZ]; simp
    rw [hzl] at hz1
    have hz2 := bs_size h
    obtain ⟨H, hH⟩ : ∃ H, h.length = H := ⟨_, rfl⟩
    rw [hH] at hz2
    rw [hZ] at HM HR
    have hbg : ¬ 9223372036854775807 < K + H := by omega
    clear e hr0 hZ hzl hc e2 k0 k1 q1 q2 q3 q4 q5 q6 hH hh hl
    go_enter Tryd.func24, Tryd.ntmps24
    go_wp2_with fail
    generalize hW0 : World.alloc w _ = W0
    obtain ⟨hx, hsx, hwx⟩ := s2_new hW0
    clear hW0
    generalize hW : World.alloc W0 _ = W2
    obtain ⟨hr, hsr, hwr⟩ := s2_new hW
    rw [hsx] at hr
    clear hW
    have X1 := s2_on hx hwr
    have B1 := below_on hwx hwr
    have hne : w.heap.size ≤ w.heap.size + 1 := by omega
    clear hx hwx hwr hsx hsr
    refine (HV.out _).mono ?_
    rintro e w3 ⟨rfl, hb3⟩
    have X3 := s2_on X1 hb3
    have R3 := s2_on hr hb3
    have B3 := below_on B1 hb3
    clear X1 hr B1 hb3
    obtain ⟨x0, x1, x2, x3⟩ := id X3
    obtain ⟨a0, a1, a2, a3⟩ := id R3
    go_wp2_with fail
    refine (H2.out _).mono ?_
    rintro e w' ⟨rfl, rfl⟩
    have X := Lib.hid X3
    have R := Lib.hid R3
    have B := Lib.hid B3
    clear X3 R3 B3
    go_upto_region 3 with fail
    clear x0 x1 x2 x3 a0 a1 a2 a3
    refine wp_region_held_drew (S := (fun w' => w'.cell? ⟨w.heap.size, 0, none⟩ = some (.string (bs h)) ∧ w'.cell? ⟨w.heap.size, 1, none⟩ = some (.string (bs l)))) (by kernel_rfl) ?_ (fun hHeld => ?_)
    · try dsimp only
      first | (refine s2_keep X.out ?_; go_grown; done) | exact ⟨(s2_set (s2_set (s2_on X.out hbW7) (by omega)) (by omega)).2.1, (s2_set (s2_set (s2_on X.out hbW7) (by omega)) (by omega)).2.2.1⟩
    refine wpAnyH_take (i := 0) (oi := { dst := some 15, op := Go.Op.move (Go.Operand.tmp 1), type := 3, pos := "l7_sets.go:203", after := #[], guard := none }) (v := ?_) rfl (by kernel_rfl) (by kernel_rfl) (by kernel_rfl) (fun _ _ _ h => h) (Or.inl ⟨by rfl, ?_⟩) (by assumption) ?_
    rotate_left
    · (intro w hSw; (try dsimp only at hSw); first | (go_simp; done) | (go_simp; with_reducible rfl))
    try simp only [Act.put, List.setIfInBounds_toArray, List.set_cons_zero, List.set_cons_succ]
    refine wpAnyH_take (i := 2) (oi := { dst := some 17, op := Go.Op.fieldAddr 25 (Go.Operand.tmp 2) 0, type := 0, pos := "l7_sets.go:203", after := #[], guard := none }) (v := ?_) rfl (by kernel_rfl) (by kernel_rfl) (by kernel_rfl) (fun _ _ _ h => h) (Or.inl ⟨by rfl, ?_⟩) (by assumption) ?_
    rotate_left
    · (intro w hSw; (try dsimp only at hSw); first | (go_simp; done) | (go_simp; with_reducible rfl))
    try simp only [Act.put, List.setIfInBounds_toArray, List.set_cons_zero, List.set_cons_succ]
    refine wpAnyH_take (i := 3) (oi := { dst := some 18, op := Go.Op.load 9 (Go.Operand.tmp 17), type := 9, pos := "l7_sets.go:203", after := #[{ on := 2, ground := Go.Ground.data }], guard := none }) (v := ?_) rfl (by kernel_rfl) (by kernel_rfl) (by kernel_rfl) (fun _ _ _ h => h) (Or.inl ⟨by rfl, ?_⟩) (by assumption) ?_
    rotate_left
    · (intro w hSw; (try dsimp only at hSw); first | (go_simp; done) | (go_simp; with_reducible rfl))
    try simp only [Act.put, List.setIfInBounds_toArray, List.set_cons_zero, List.set_cons_succ]
    refine wpAnyH_take (i := 5) (oi := { dst := some 20, op := Go.Op.fieldAddr 25 (Go.Operand.tmp 2) 1, type := 0, pos := "l7_sets.go:203", after := #[], guard := none }) (v := ?_) rfl (by kernel_rfl) (by kernel_rfl) (by kernel_rfl) (fun _ _ _ h => h) (Or.inl ⟨by rfl, ?_⟩) (by assumption) ?_
    rotate_left
    · (intro w hSw; (try dsimp only at hSw); first | (go_simp; done) | (go_simp; with_reducible rfl))
    try simp only [Act.put, List.setIfInBounds_toArray, List.set_cons_zero, List.set_cons_succ]
    refine wpAnyH_take (i := 6) (oi := { dst := some 21, op := Go.Op.load 9 (Go.Operand.tmp 20), type := 9, pos := "l7_sets.go:203", after := #[{ on := 5, ground := Go.Ground.data }], guard := none }) (v := ?_) rfl (by kernel_rfl) (by kernel_rfl) (by kernel_rfl) (fun _ _ _ h => h) (Or.inl ⟨by rfl, ?_⟩) (by assumption) ?_
    rotate_left
    · (intro w hSw; (try dsimp only at hSw); first | (go_simp; done) | (go_simp; with_reducible rfl))
    try simp only [Act.put, List.setIfInBounds_toArray, List.set_cons_zero, List.set_cons_succ]
    refine wpAnyH_ready (rs := [1]) (by kernel_rfl) (by simp) ?_
    refine AllReadyH.cons (o := { dst := some 16, op := Go.Op.call { callee := Go.Callee.value (Go.Operand.func 50), args := #[Go.Operand.const (Go.Value.string { data := #[48] }), Go.Operand.tmp 15], argTypes := #[9, 3] }, type := 9, pos := "l7_sets.go:203", after := #[{ on := 0, ground := Go.Ground.data }], guard := none }) rfl (fun K hK => ?_) AllReadyH.nil
    go_simp
    (go_at_call 50; refine (HM.out _).mono ?_; rintro e w5 ⟨rfl, rfl⟩)
    (try go_wp2_with fail)
    refine hK.out _ _ ?_ (fun hHeld => ?_)
    · try dsimp only
      first | (refine s2_keep X.out ?_; go_grown; done) | exact ⟨(s2_set (s2_set (s2_on X.out hbW7) (by omega)) (by omega)).2.1, (s2_set (s2_set (s2_on X.out hbW7) (by omega)) (by omega)).2.2.1⟩
    clear hK K
    try simp only [Act.put, List.setIfInBounds_toArray, List.set_cons_zero, List.set_cons_succ]
    refine wpAnyH_take (i := 4) (oi := { dst := some 19, op := Go.Op.binOp Go.BinOp.add 9 (Go.Operand.tmp 16) (Go.Operand.tmp 18) 9, type := 9, pos := "l7_sets.go:203", after := #[{ on := 1, ground := Go.Ground.data }, { on := 3, ground := Go.Ground.data }], guard := none }) (v := ?_) rfl (by kernel_rfl) (by kernel_rfl) (by kernel_rfl) (fun _ _ _ h => h) (Or.inl ⟨by rfl, ?_⟩) (by assumption) ?_
    rotate_left
    · (intro w hSw; (try dsimp only at hSw); first | (go_simp; done) | (go_simp; with_reducible rfl))
    try simp only [Act.put, List.setIfInBounds_toArray, List.set_cons_zero, List.set_cons_succ]
    refine wpAnyH_ready (rs := [7]) (by kernel_rfl) (by simp) ?_
    refine AllReadyH.cons (o := { dst := some 22, op := Go.Op.call { callee := Go.Callee.value (Go.Operand.func 46), args := #[Go.Operand.tmp 19, Go.Operand.tmp 21], argTypes := #[9, 9] }, type := 26, pos := "l7_sets.go:203", after := #[{ on := 4, ground := Go.Ground.data }, { on := 6, ground := Go.Ground.data }, { on := 1, ground := Go.Ground.chain }], guard := none }) rfl (fun K hK => ?_) AllReadyH.nil
    go_simp
    (go_at_call 46; refine (HR.out _).mono ?_; rintro e w7 ⟨rfl, hb7⟩; have hbW7 := below_on (w := w3) (by go_grown) hb7; have R7 := s2_on R.out hbW7; obtain ⟨a0, a1, a2, a3⟩ := id R7)
    (try go_wp2_with fail)
    refine hK.out _ _ ?_ (fun hHeld => ?_)
    · try dsimp only
      first | (refine s2_keep X.out ?_; go_grown; done) | exact ⟨(s2_set (s2_set (s2_on X.out hbW7) (by omega)) (by omega)).2.1, (s2_set (s2_set (s2_on X.out hbW7) (by omega)) (by omega)).2.2.1⟩
    clear hK K
    try simp only [Act.put, List.setIfInBounds_toArray, List.set_cons_zero, List.set_cons_succ]
    refine wpAnyH_take (i := 8) (oi := { dst := some 23, op := Go.Op.extract (Go.Operand.tmp 22) 0, type := 25, pos := "l7_sets.go:203", after := #[{ on := 7, ground := Go.Ground.data }], guard := none }) (v := ?_) rfl (by kernel_rfl) (by kernel_rfl) (by kernel_rfl) (fun _ _ _ h => h) (Or.inl ⟨by rfl, ?_⟩) (by assumption) ?_
    rotate_left
    · (intro w hSw; (try dsimp only at hSw); first | (go_simp; done) | (go_simp; with_reducible rfl))
    try simp only [Act.put, List.setIfInBounds_toArray, List.set_cons_zero, List.set_cons_succ]
    refine wpAnyH_take (i := 9) (oi := { dst := some 24, op := Go.Op.extract (Go.Operand.tmp 22) 1, type := 4, pos := "l7_sets.go:203", after := #[{ on := 7, ground := Go.Ground.data }], guard := none }) (v := ?_) rfl (by kernel_rfl) (by kernel_rfl) (by kernel_rfl) (fun _ _ _ h => h) (Or.inl ⟨by rfl, ?_⟩) (by assumption) ?_
    rotate_left
    · (intro w hSw; (try dsimp only at hSw); first | (go_simp; done) | (go_simp; with_reducible rfl))
    try simp only [Act.put, List.setIfInBounds_toArray, List.set_cons_zero, List.set_cons_succ]
    refine wpAnyH_ready (rs := [10]) (by kernel_rfl) (by simp) ?_
    refine AllReadyH.cons (o := { dst := none, op := Go.Op.store 25 (Go.Operand.tmp 4) (Go.Operand.tmp 23), type := 0, pos := "l7_sets.go:203", after := #[{ on := 8, ground := Go.Ground.data }, { on := 7, ground := Go.Ground.chain }, { on := 0, ground := Go.Ground.phase }, { on := 1, ground := Go.Ground.phase }, { on := 2, ground := Go.Ground.phase }, { on := 3, ground := Go.Ground.phase }, { on := 4, ground := Go.Ground.phase }, { on := 5, ground := Go.Ground.phase }, { on := 6, ground := Go.Ground.phase }, { on := 7, ground := Go.Ground.phase }, { on := 8, ground := Go.Ground.phase }, { on := 9, ground := Go.Ground.phase }], guard := none }) rfl (fun K hK => ?_) AllReadyH.nil
    go_simp
    refine hK.out _ _ ?_ (fun hHeld => ?_)
    · try dsimp only
      first | (refine s2_keep X.out ?_; go_grown; done) | exact ⟨(s2_set (s2_set (s2_on X.out hbW7) (by omega)) (by omega)).2.1, (s2_set (s2_set (s2_on X.out hbW7) (by omega)) (by omega)).2.2.1⟩
    clear hK K
    try simp only [Act.put, List.setIfInBounds_toArray, List.set_cons_zero, List.set_cons_succ]
    refine wpAnyH_take (i := 11) (oi := { dst := some 5, op := Go.Op.assign (Go.Operand.tmp 24), type := 4, pos := "l7_sets.go:203", after := #[{ on := 9, ground := Go.Ground.data }, { on := 10, ground := Go.Ground.chain }, { on := 0, ground := Go.Ground.phase }, { on := 1, ground := Go.Ground.phase }, { on := 2, ground := Go.Ground.phase }, { on := 3, ground := Go.Ground.phase }, { on := 4, ground := Go.Ground.phase }, { on := 5, ground := Go.Ground.phase }, { on := 6, ground := Go.Ground.phase }, { on := 7, ground := Go.Ground.phase }, { on := 8, ground := Go.Ground.phase }, { on := 9, ground := Go.Ground.phase }, { on := 10, ground := Go.Ground.phase }], guard := none }) (v := ?_) rfl (by kernel_rfl) (by kernel_rfl) (by kernel_rfl) (fun _ _ _ h => h) (Or.inl ⟨by rfl, ?_⟩) (by assumption) ?_
    rotate_left
    · (intro w hSw; (try dsimp only at hSw); first | (go_simp; done) | (go_simp; with_reducible rfl))
    try simp only [Act.put, List.setIfInBounds_toArray, List.set_cons_zero, List.set_cons_succ]
    refine wpAnyH_done (by kernel_rfl) ?_ _
    go_wp2
    generalize hW8 : World.setCell _ _ _ = W8
    obtain ⟨⟨_, r1, r2, _⟩, _, _, hb8⟩ := s2_put hW8 _ _ R7
    refine bodyPost_ret (v := .tuple #[.agg #[.string (bs r.1.1), .string (bs r.1.2)], .bool r.2]) (by simp [results, Tryd.results24, go_sem, r1, r2]) rfl ⟨by rw [HF.out], ?_⟩
    exact below_on (hb8 w (below_on B.out hbW7) hne) (by go_grown)

set_option maxRecDepth 10000 in
set_option maxHeartbeats 4000000 in
theorem specStretchSet_any (h l : List UInt8) (k : Int) (w : World) (hh : h.length ≤ 1000000000) (hl : l.length ≤ 1000000000) (k0 : -9223372036854775808 ≤ k) (k1 : k ≤ 9223372036854775807) :
    Calls Tryd.prog 26 #[.agg #[.string (bs h), .string (bs l)], .int .i64 k] w fun e w' => e = .returned (.tuple #[.agg #[.string (bs (stR h l k).1.1), .string (bs (stR h l k).1.2)], .bool (stR h l k).2]) ∧ Below w.heap.size w w' := by
  have HV := Lib.hid fun w => specSetValid_b h l w hh hl
  have HS := Lib.hid (svS_parts (h := h) (l := l))
  have H2 := Lib.hid fun w => l1In_any k 1 240 w
  obtain ⟨v, hv⟩ : ∃ v, svS h l = v := ⟨_, rfl⟩
  have HQ : Hid (svS h l = v) := Lib.hid hv
  rw [hv] at HV
  clear hv
  cases v with
  | false =>
    have HF : Hid (stR h l k = (([], []), false)) := Lib.hid (by unfold stR; rw [HQ.out]; rfl)
    go_enter Tryd.func26, Tryd.ntmps26
    go_wp2_with fail
    generalize hW0 : World.alloc w _ = W0
    obtain ⟨hx, hsx, hwx⟩ := s2_new hW0
    clear hW0
    generalize hW : World.alloc W0 _ = W2
    obtain ⟨hr, hsr, hwr⟩ := s2_new hW
    rw [hsx] at hr
    clear hW
    have X1 := s2_on hx hwr
    have B1 := below_on hwx hwr
    have hne : w.heap.size ≤ w.heap.size + 1 := by omega
    clear hx hwx hwr hsx hsr
    refine (HV.out _).mono ?_
    rintro e w3 ⟨rfl, hb3⟩
    have X3 := s2_on X1 hb3
    have R3 := s2_on hr hb3
    have B3 := below_on B1 hb3
    clear X1 hr B1 hb3
    obtain ⟨x0, x1, x2, x3⟩ := id X3
    obtain ⟨a0, a1, a2, a3⟩ := id R3
    go_wp2
    generalize hW : World.setCell _ _ _ = W8
    obtain ⟨⟨_, r1, r2, _⟩, _, _, hb8⟩ := s2_put hW _ _ R3
    refine bodyPost_ret (v := .tuple #[.agg #[.string ⟨#[]⟩, .string ⟨#[]⟩], .bool false]) (by simp [results, Tryd.results26, go_sem, r1, r2]) rfl ⟨by rw [HF.out]; rfl, ?_⟩
    exact hb8 w B3 hne
  | true =>
    by_cases hc : 1 ≤ k ∧ k ≤ 240
    case neg =>
      have HF : Hid (stR h l k = (([], []), false)) := Lib.hid (by unfold stR; rw [HQ.out, decide_eq_false hc]; rfl)
      have e2 : inB k 1 240 = false := by unfold inB; exact decide_eq_false hc
      rw [e2] at H2
      clear hc e2
      go_enter Tryd.func26, Tryd.ntmps26
      go_wp2_with fail
      generalize hW0 : World.alloc w _ = W0
      obtain ⟨hx, hsx, hwx⟩ := s2_new hW0
      clear hW0
      generalize hW : World.alloc W0 _ = W2
      obtain ⟨hr, hsr, hwr⟩ := s2_new hW
      rw [hsx] at hr
      clear hW
      have X1 := s2_on hx hwr
      have B1 := below_on hwx hwr
      have hne : w.heap.size ≤ w.heap.size + 1 := by omega
      clear hx hwx hwr hsx hsr
      refine (HV.out _).mono ?_
      rintro e w3 ⟨rfl, hb3⟩
      have X3 := s2_on X1 hb3
      have R3 := s2_on hr hb3
      have B3 := below_on B1 hb3
      clear X1 hr B1 hb3
      obtain ⟨x0, x1, x2, x3⟩ := id X3
      obtain ⟨a0, a1, a2, a3⟩ := id R3
      go_wp2_with fail
      refine (H2.out _).mono ?_
      rintro e w' ⟨rfl, rfl⟩
      go_wp2
      generalize hW : World.setCell _ _ _ = W8
      obtain ⟨⟨_, r1, r2, _⟩, _, _, hb8⟩ := s2_put hW _ _ R3
      refine bodyPost_ret (v := .tuple #[.agg #[.string ⟨#[]⟩, .string ⟨#[]⟩], .bool false]) (by simp [results, Tryd.results26, go_sem, r1, r2]) rfl ⟨by rw [HF.out]; rfl, ?_⟩
      exact hb8 w B3 hne
    have e2 : inB k 1 240 = true := by unfold inB; exact decide_eq_true hc
    rw [e2] at H2
    obtain ⟨K, rfl⟩ : ∃ K : Nat, k = K := ⟨k.toNat, by omega⟩
    have hK : K ≤ 400 := by omega
    obtain ⟨q1, q2, q3, q4, q5, q6⟩ := HS.out HQ.out
    have hK1 : 1 ≤ K := by omega
    have e : atS (strL h K) (strL l K) = stA (atS h l) K := funext fun n => st_at h l hK1 q6 n
    have hsl : strL l K ≠ [] := fun e0 => by have := str_len l hK1; rw [e0] at this; have := Nat.mul_pos (show 0 < l.length by omega) (show 0 < K by omega); simp at *; omega
    have hb1 : (strL h K).length ≤ 1000000 := by rw [str_len h hK1]; exact Nat.le_trans (Nat.mul_le_mul q3 hK) (by omega)
    have hb2 : (strL l K).length ≤ 1000000 := by rw [str_len l hK1]; exact Nat.le_trans (Nat.mul_le_mul q5 hK) (by omega)
    have HR := Lib.hid fun w => l7Result_any (strL h K) (strL l K) w hsl (bits_str q1) (bits_str q2) (by omega) (by omega)
    rw [e] at HR
    obtain ⟨r, hr0⟩ : ∃ r, resA (stA (atS h l) K) = r := ⟨_, rfl⟩
    have HF : Hid (stR h l K = r) := Lib.hid (by unfold stR; rw [HQ.out, decide_eq_true hc, ← hr0]; rfl)
    rw [hr0] at HR
    have HM := Lib.hid fun w => l7Stretch_any h K w (by omega) hK1 (by omega)
    have HM2 := Lib.hid fun w => l7Stretch_any l K w (by omega) hK1 (by omega)
    obtain ⟨A, hA⟩ : ∃ Z, strL h K = Z := ⟨_, rfl⟩
    obtain ⟨Bb, hB⟩ : ∃ Z, strL l K = Z := ⟨_, rfl⟩
    rw [hA] at HM HR
    rw [hB] at HM2 HR
    clear e hr0 hA hB hsl hb1 hb2 hc e2 k0 k1 q1 q2 q3 q4 q5 q6 hh hl
    go_enter Tryd.func26, Tryd.ntmps26
    go_wp2_with fail
    generalize hW0 : World.alloc w _ = W0
    obtain ⟨hx, hsx, hwx⟩ := s2_new hW0
    clear hW0
    generalize hW : World.alloc W0 _ = W2
    obtain ⟨hr, hsr, hwr⟩ := s2_new hW
    rw [hsx] at hr
    clear hW
    have X1 := s2_on hx hwr
    have B1 := below_on hwx hwr
    have hne : w.heap.size ≤ w.heap.size + 1 := by omega
    clear hx hwx hwr hsx hsr
    refine (HV.out _).mono ?_
    rintro e w3 ⟨rfl, hb3⟩
    have X3 := s2_on X1 hb3
    have R3 := s2_on hr hb3
    have B3 := below_on B1 hb3
    clear X1 hr B1 hb3
    obtain ⟨x0, x1, x2, x3⟩ := id X3
    obtain ⟨a0, a1, a2, a3⟩ := id R3
    go_wp2_with fail
    refine (H2.out _).mono ?_
    rintro e w' ⟨rfl, rfl⟩
    have X := Lib.hid X3
    have R := Lib.hid R3
    have B := Lib.hid B3
    clear X3 R3 B3
    go_upto_region 3 with fail
    clear x0 x1 x2 x3 a0 a1 a2 a3
    refine wp_region_held_drew (S := (fun w' => w'.cell? ⟨w.heap.size, 0, none⟩ = some (.string (bs h)) ∧ w'.cell? ⟨w.heap.size, 1, none⟩ = some (.string (bs l)))) (by kernel_rfl) ?_ (fun hHeld => ?_)
    · try dsimp only
      first | (refine s2_keep X.out ?_; go_grown; done) | exact ⟨(s2_set (s2_set (s2_on X.out hbW7) (by omega)) (by omega)).2.1, (s2_set (s2_set (s2_on X.out hbW7) (by omega)) (by omega)).2.2.1⟩
    refine wpAnyH_take (i := 0) (oi := { dst := some 15, op := Go.Op.fieldAddr 25 (Go.Operand.tmp 2) 0, type := 0, pos := "l7_sets.go:220", after := #[], guard := none }) (v := ?_) rfl (by kernel_rfl) (by kernel_rfl) (by kernel_rfl) (fun _ _ _ h => h) (Or.inl ⟨by rfl, ?_⟩) (by assumption) ?_
    rotate_left
    · (intro w hSw; (try dsimp only at hSw); first | (go_simp; done) | (go_simp; with_reducible rfl))
    try simp only [Act.put, List.setIfInBounds_toArray, List.set_cons_zero, List.set_cons_succ]
    refine wpAnyH_take (i := 1) (oi := { dst := some 16, op := Go.Op.load 9 (Go.Operand.tmp 15), type := 9, pos := "l7_sets.go:220", after := #[{ on := 0, ground := Go.Ground.data }], guard := none }) (v := ?_) rfl (by kernel_rfl) (by kernel_rfl) (by kernel_rfl) (fun _ _ _ h => h) (Or.inl ⟨by rfl, ?_⟩) (by assumption) ?_
    rotate_left
    · (intro w hSw; (try dsimp only at hSw); first | (go_simp; done) | (go_simp; with_reducible rfl))
    try simp only [Act.put, List.setIfInBounds_toArray, List.set_cons_zero, List.set_cons_succ]
    refine wpAnyH_take (i := 2) (oi := { dst := some 17, op := Go.Op.move (Go.Operand.tmp 1), type := 3, pos := "l7_sets.go:220", after := #[], guard := none }) (v := ?_) rfl (by kernel_rfl) (by kernel_rfl) (by kernel_rfl) (fun _ _ _ h => h) (Or.inl ⟨by rfl, ?_⟩) (by assumption) ?_
    rotate_left
    · (intro w hSw; (try dsimp only at hSw); first | (go_simp; done) | (go_simp; with_reducible rfl))
    try simp only [Act.put, List.setIfInBounds_toArray, List.set_cons_zero, List.set_cons_succ]
    refine wpAnyH_take (i := 4) (oi := { dst := some 19, op := Go.Op.fieldAddr 25 (Go.Operand.tmp 2) 1, type := 0, pos := "l7_sets.go:220", after := #[], guard := none }) (v := ?_) rfl (by kernel_rfl) (by kernel_rfl) (by kernel_rfl) (fun _ _ _ h => h) (Or.inl ⟨by rfl, ?_⟩) (by assumption) ?_
    rotate_left
    · (intro w hSw; (try dsimp only at hSw); first | (go_simp; done) | (go_simp; with_reducible rfl))
    try simp only [Act.put, List.setIfInBounds_toArray, List.set_cons_zero, List.set_cons_succ]
    refine wpAnyH_take (i := 5) (oi := { dst := some 20, op := Go.Op.load 9 (Go.Operand.tmp 19), type := 9, pos := "l7_sets.go:220", after := #[{ on := 4, ground := Go.Ground.data }], guard := none }) (v := ?_) rfl (by kernel_rfl) (by kernel_rfl) (by kernel_rfl) (fun _ _ _ h => h) (Or.inl ⟨by rfl, ?_⟩) (by assumption) ?_
    rotate_left
    · (intro w hSw; (try dsimp only at hSw); first | (go_simp; done) | (go_simp; with_reducible rfl))
    try simp only [Act.put, List.setIfInBounds_toArray, List.set_cons_zero, List.set_cons_succ]
    refine wpAnyH_take (i := 6) (oi := { dst := some 21, op := Go.Op.move (Go.Operand.tmp 1), type := 3, pos := "l7_sets.go:220", after := #[], guard := none }) (v := ?_) rfl (by kernel_rfl) (by kernel_rfl) (by kernel_rfl) (fun _ _ _ h => h) (Or.inl ⟨by rfl, ?_⟩) (by assumption) ?_
    rotate_left
    · (intro w hSw; (try dsimp only at hSw); first | (go_simp; done) | (go_simp; with_reducible rfl))
    try simp only [Act.put, List.setIfInBounds_toArray, List.set_cons_zero, List.set_cons_succ]
    refine wpAnyH_ready (rs := [3]) (by kernel_rfl) (by simp) ?_
    refine AllReadyH.cons (o := { dst := some 18, op := Go.Op.call { callee := Go.Callee.value (Go.Operand.func 57), args := #[Go.Operand.tmp 16, Go.Operand.tmp 17], argTypes := #[9, 3] }, type := 9, pos := "l7_sets.go:220", after := #[{ on := 1, ground := Go.Ground.data }, { on := 2, ground := Go.Ground.data }], guard := none }) rfl (fun K hK => ?_) AllReadyH.nil
    go_simp
    (go_at_call 57; refine (HM.out _).mono ?_; rintro e w5 ⟨rfl, hb5⟩; have hbW5 := below_on (w := w3) (by go_grown) hb5)
    (try go_wp2_with fail)
    refine hK.out _ _ ?_ (fun hHeld => ?_)
    · try dsimp only
      first | (refine s2_keep X.out ?_; go_grown; done) | exact ⟨(s2_set (s2_set (s2_on X.out hbW7) (by omega)) (by omega)).2.1, (s2_set (s2_set (s2_on X.out hbW7) (by omega)) (by omega)).2.2.1⟩
    clear hK K
    try simp only [Act.put, List.setIfInBounds_toArray, List.set_cons_zero, List.set_cons_succ]
    refine wpAnyH_ready (rs := [7]) (by kernel_rfl) (by simp) ?_
    refine AllReadyH.cons (o := { dst := some 22, op := Go.Op.call { callee := Go.Callee.value (Go.Operand.func 57), args := #[Go.Operand.tmp 20, Go.Operand.tmp 21], argTypes := #[9, 3] }, type := 9, pos := "l7_sets.go:220", after := #[{ on := 5, ground := Go.Ground.data }, { on := 6, ground := Go.Ground.data }, { on := 3, ground := Go.Ground.chain }], guard := none }) rfl (fun K hK => ?_) AllReadyH.nil
    go_simp
    (go_at_call 57; refine (HM2.out _).mono ?_; rintro e w6 ⟨rfl, hb6⟩; have hbW6 := below_on (w := w3) (by go_grown) hb6)
    (try go_wp2_with fail)
    refine hK.out _ _ ?_ (fun hHeld => ?_)
    · try dsimp only
      first | (refine s2_keep X.out ?_; go_grown; done) | exact ⟨(s2_set (s2_set (s2_on X.out hbW7) (by omega)) (by omega)).2.1, (s2_set (s2_set (s2_on X.out hbW7) (by omega)) (by omega)).2.2.1⟩
    clear hK K
    try simp only [Act.put, List.setIfInBounds_toArray, List.set_cons_zero, List.set_cons_succ]
    refine wpAnyH_ready (rs := [8]) (by kernel_rfl) (by simp) ?_
    refine AllReadyH.cons (o := { dst := some 23, op := Go.Op.call { callee := Go.Callee.value (Go.Operand.func 46), args := #[Go.Operand.tmp 18, Go.Operand.tmp 22], argTypes := #[9, 9] }, type := 26, pos := "l7_sets.go:220", after := #[{ on := 3, ground := Go.Ground.data }, { on := 7, ground := Go.Ground.data }, { on := 7, ground := Go.Ground.chain }], guard := none }) rfl (fun K hK => ?_) AllReadyH.nil
    go_simp
    (go_at_call 46; refine (HR.out _).mono ?_; rintro e w7 ⟨rfl, hb7⟩; have hbW7 := below_on (w := w3) (by go_grown) hb7; have R7 := s2_on R.out hbW7; obtain ⟨a0, a1, a2, a3⟩ := id R7)
    (try go_wp2_with fail)
    refine hK.out _ _ ?_ (fun hHeld => ?_)
    · try dsimp only
      first | (refine s2_keep X.out ?_; go_grown; done) | exact ⟨(s2_set (s2_set (s2_on X.out hbW7) (by omega)) (by omega)).2.1, (s2_set (s2_set (s2_on X.out hbW7) (by omega)) (by omega)).2.2.1⟩
    clear hK K
    try simp only [Act.put, List.setIfInBounds_toArray, List.set_cons_zero, List.set_cons_succ]
    refine wpAnyH_take (i := 9) (oi := { dst := some 24, op := Go.Op.extract (Go.Operand.tmp 23) 0, type := 25, pos := "l7_sets.go:220", after := #[{ on := 8, ground := Go.Ground.data }], guard := none }) (v := ?_) rfl (by kernel_rfl) (by kernel_rfl) (by kernel_rfl) (fun _ _ _ h => h) (Or.inl ⟨by rfl, ?_⟩) (by assumption) ?_
    rotate_left
    · (intro w hSw; (try dsimp only at hSw); first | (go_simp; done) | (go_simp; with_reducible rfl))
    try simp only [Act.put, List.setIfInBounds_toArray, List.set_cons_zero, List.set_cons_succ]
    refine wpAnyH_take (i := 10) (oi := { dst := some 25, op := Go.Op.extract (Go.Operand.tmp 23) 1, type := 4, pos := "l7_sets.go:220", after := #[{ on := 8, ground := Go.Ground.data }], guard := none }) (v := ?_) rfl (by kernel_rfl) (by kernel_rfl) (by kernel_rfl) (fun _ _ _ h => h) (Or.inl ⟨by rfl, ?_⟩) (by assumption) ?_
    rotate_left
    · (intro w hSw; (try dsimp only at hSw); first | (go_simp; done) | (go_simp; with_reducible rfl))
    try simp only [Act.put, List.setIfInBounds_toArray, List.set_cons_zero, List.set_cons_succ]
    refine wpAnyH_ready (rs := [11]) (by kernel_rfl) (by simp) ?_
    refine AllReadyH.cons (o := { dst := none, op := Go.Op.store 25 (Go.Operand.tmp 4) (Go.Operand.tmp 24), type := 0, pos := "l7_sets.go:220", after := #[{ on := 9, ground := Go.Ground.data }, { on := 8, ground := Go.Ground.chain }, { on := 0, ground := Go.Ground.phase }, { on := 1, ground := Go.Ground.phase }, { on := 2, ground := Go.Ground.phase }, { on := 3, ground := Go.Ground.phase }, { on := 4, ground := Go.Ground.phase }, { on := 5, ground := Go.Ground.phase }, { on := 6, ground := Go.Ground.phase }, { on := 7, ground := Go.Ground.phase }, { on := 8, ground := Go.Ground.phase }, { on := 9, ground := Go.Ground.phase }, { on := 10, ground := Go.Ground.phase }], guard := none }) rfl (fun K hK => ?_) AllReadyH.nil
    go_simp
    refine hK.out _ _ ?_ (fun hHeld => ?_)
    · try dsimp only
      first | (refine s2_keep X.out ?_; go_grown; done) | exact ⟨(s2_set (s2_set (s2_on X.out hbW7) (by omega)) (by omega)).2.1, (s2_set (s2_set (s2_on X.out hbW7) (by omega)) (by omega)).2.2.1⟩
    clear hK K
    try simp only [Act.put, List.setIfInBounds_toArray, List.set_cons_zero, List.set_cons_succ]
    refine wpAnyH_take (i := 12) (oi := { dst := some 5, op := Go.Op.assign (Go.Operand.tmp 25), type := 4, pos := "l7_sets.go:220", after := #[{ on := 10, ground := Go.Ground.data }, { on := 11, ground := Go.Ground.chain }, { on := 0, ground := Go.Ground.phase }, { on := 1, ground := Go.Ground.phase }, { on := 2, ground := Go.Ground.phase }, { on := 3, ground := Go.Ground.phase }, { on := 4, ground := Go.Ground.phase }, { on := 5, ground := Go.Ground.phase }, { on := 6, ground := Go.Ground.phase }, { on := 7, ground := Go.Ground.phase }, { on := 8, ground := Go.Ground.phase }, { on := 9, ground := Go.Ground.phase }, { on := 10, ground := Go.Ground.phase }, { on := 11, ground := Go.Ground.phase }], guard := none }) (v := ?_) rfl (by kernel_rfl) (by kernel_rfl) (by kernel_rfl) (fun _ _ _ h => h) (Or.inl ⟨by rfl, ?_⟩) (by assumption) ?_
    rotate_left
    · (intro w hSw; (try dsimp only at hSw); first | (go_simp; done) | (go_simp; with_reducible rfl))
    try simp only [Act.put, List.setIfInBounds_toArray, List.set_cons_zero, List.set_cons_succ]
    refine wpAnyH_done (by kernel_rfl) ?_ _
    go_wp2
    generalize hW8 : World.setCell _ _ _ = W8
    obtain ⟨⟨_, r1, r2, _⟩, _, _, hb8⟩ := s2_put hW8 _ _ R7
    refine bodyPost_ret (v := .tuple #[.agg #[.string (bs r.1.1), .string (bs r.1.2)], .bool r.2]) (by simp [results, Tryd.results26, go_sem, r1, r2]) rfl ⟨by rw [HF.out], ?_⟩
    exact below_on (hb8 w (below_on B.out hbW7) hne) (by go_grown)

end Go.Proofs.YtpheihejgnlanaaDoor

/- DivideSet of the model. -/
namespace Go.Proofs.YtpheihejgnlanaaDoor
open Go.RowKit

set_option maxRecDepth 10000 in
set_option maxHeartbeats 4000000 in
theorem specDivideSet_any (h l : List UInt8) (k : Int) (w : World) (hh : h.length ≤ 1000000000) (hl : l.length ≤ 1000000000) (k0 : -9223372036854775808 ≤ k) (k1 : k ≤ 9223372036854775807) :
    Calls Tryd.prog 28 #[.agg #[.string (bs h), .string (bs l)], .int .i64 k] w fun e w' => e = .returned (.tuple #[.agg #[.string (bs (dvR h l k).1.1), .string (bs (dvR h l k).1.2)], .bool (dvR h l k).2]) ∧ Below w.heap.size w w' := by
  have HV := Lib.hid fun w => specSetValid_b h l w hh hl
  have HS := Lib.hid (svS_parts (h := h) (l := l))
  have H2 := Lib.hid fun w => l1In_any k 1 240 w
  obtain ⟨v, hv⟩ : ∃ v, svS h l = v := ⟨_, rfl⟩
  have HQ : Hid (svS h l = v) := Lib.hid hv
  rw [hv] at HV
  clear hv
  cases v with
  | false =>
    have HF : Hid (dvR h l k = (([], []), false)) := Lib.hid (by unfold dvR; rw [HQ.out]; rfl)
    go_enter Tryd.func28, Tryd.ntmps28
    go_wp2_with fail
    generalize hW0 : World.alloc w _ = W0
    obtain ⟨hx, hsx, hwx⟩ := s2_new hW0
    clear hW0
    generalize hW : World.alloc W0 _ = W2
    obtain ⟨hr, hsr, hwr⟩ := s2_new hW
    rw [hsx] at hr
    clear hW
    have X1 := s2_on hx hwr
    have B1 := below_on hwx hwr
    have hne : w.heap.size ≤ w.heap.size + 1 := by omega
    clear hx hwx hwr hsx hsr
    refine (HV.out _).mono ?_
    rintro e w3 ⟨rfl, hb3⟩
    have X3 := s2_on X1 hb3
    have R3 := s2_on hr hb3
    have B3 := below_on B1 hb3
    clear X1 hr B1 hb3
    obtain ⟨x0, x1, x2, x3⟩ := id X3
    obtain ⟨a0, a1, a2, a3⟩ := id R3
    go_wp2
    generalize hW : World.setCell _ _ _ = W8
    obtain ⟨⟨_, r1, r2, _⟩, _, _, hb8⟩ := s2_put hW _ _ R3
    refine bodyPost_ret (v := .tuple #[.agg #[.string ⟨#[]⟩, .string ⟨#[]⟩], .bool false]) (by simp [results, Tryd.results28, go_sem, r1, r2]) rfl ⟨by rw [HF.out]; rfl, ?_⟩
    exact hb8 w B3 hne
  | true =>
    by_cases hc : 1 ≤ k ∧ k ≤ 240
    case neg =>
      have HF : Hid (dvR h l k = (([], []), false)) := Lib.hid (by unfold dvR; rw [HQ.out, decide_eq_false hc]; rfl)
      have e2 : inB k 1 240 = false := by unfold inB; exact decide_eq_false hc
      rw [e2] at H2
      clear hc e2
      go_enter Tryd.func28, Tryd.ntmps28
      go_wp2_with fail
      generalize hW0 : World.alloc w _ = W0
      obtain ⟨hx, hsx, hwx⟩ := s2_new hW0
      clear hW0
      generalize hW : World.alloc W0 _ = W2
      obtain ⟨hr, hsr, hwr⟩ := s2_new hW
      rw [hsx] at hr
      clear hW
      have X1 := s2_on hx hwr
      have B1 := below_on hwx hwr
      have hne : w.heap.size ≤ w.heap.size + 1 := by omega
      clear hx hwx hwr hsx hsr
      refine (HV.out _).mono ?_
      rintro e w3 ⟨rfl, hb3⟩
      have X3 := s2_on X1 hb3
      have R3 := s2_on hr hb3
      have B3 := below_on B1 hb3
      clear X1 hr B1 hb3
      obtain ⟨x0, x1, x2, x3⟩ := id X3
      obtain ⟨a0, a1, a2, a3⟩ := id R3
      go_wp2_with fail
      refine (H2.out _).mono ?_
      rintro e w' ⟨rfl, rfl⟩
      go_wp2
      generalize hW : World.setCell _ _ _ = W8
      obtain ⟨⟨_, r1, r2, _⟩, _, _, hb8⟩ := s2_put hW _ _ R3
      refine bodyPost_ret (v := .tuple #[.agg #[.string ⟨#[]⟩, .string ⟨#[]⟩], .bool false]) (by simp [results, Tryd.results28, go_sem, r1, r2]) rfl ⟨by rw [HF.out]; rfl, ?_⟩
      exact hb8 w B3 hne
    have e2 : inB k 1 240 = true := by unfold inB; exact decide_eq_true hc
    rw [e2] at H2
    obtain ⟨K, rfl⟩ : ∃ K : Nat, k = K := ⟨k.toNat, by omega⟩
    have hK : K ≤ 400 := by omega
    obtain ⟨q1, q2, q3, q4, q5, q6⟩ := HS.out HQ.out
    have hK1 : 1 ≤ K := by omega
    have hK2 : K ≤ 240 := by omega
    have c2 : PerS (dvA (atS h l) K) h.length l.length := per_dv (per_at h l) hK1
    have c1 : 0 < l.length := by omega
    have HAS := Lib.hid fun (n : Nat) (hn : n ≤ 9223372036854775807) w => l7Has_any h l n w q6 (by omega) (by omega) hn
    have hfb : ∀ n, bitS (inS (dvA (atS h l) K) n) = dvA (atS h l) K n := fun n => bits_in (bits_dv (bits_at q6 q1 q2) K) n
    obtain ⟨f, hf⟩ : ∃ f : Nat → Bool, (fun n => inS (dvA (atS h l) K) n) = f := ⟨_, rfl⟩
    have hfn : ∀ n, inS (dvA (atS h l) K) n = f n := fun n => by rw [← hf]
    have ea : dvA (atS h l) K = fun n => bitS (f n) := funext fun n => by rw [← hfn, hfb]
    have HFN : Hid (∀ n, inS (atS h l) (K * n) = f n) := Lib.hid fun n => hfn n
    obtain ⟨N, hN⟩ : ∃ k, h.length = k := ⟨_, rfl⟩
    obtain ⟨p, hp⟩ : ∃ k, l.length = k := ⟨_, rfl⟩
    rw [hN, hp, ea] at c2
    rw [hp] at c1
    have hs1 := bs_size h
    have hs2 := bs_size l
    rw [hN] at hs1
    rw [hp] at hs2
    obtain ⟨m, hm⟩ : ∃ m, N + p = m := ⟨_, rfl⟩
    have hmb : m ≤ 100000 := by omega
    have hNm : N < m := by omega
    have hwm : IntKind.i64.wrap ((N : Int) + (p : Int)) = (m : Int) := by rw [IntKind.wrap_i64]; omega
    obtain ⟨M, hmk, hMs⟩ := br_new m (by omega)
    obtain ⟨HT, LT⟩ := rng_take f N p
    obtain ⟨b1, b2⟩ := raw_bits (f := f) (N := N) (p := p)
    have hraw := raw_at c1 c2
    obtain ⟨A, hA⟩ : ∃ X, rawH (fun n => bitS (f n)) N = X := ⟨_, rfl⟩
    obtain ⟨Bb, hB⟩ : ∃ X, rawL (fun n => bitS (f n)) N p = X := ⟨_, rfl⟩
    have hAl : A.length = N := by rw [← hA]; simp [rawH]
    have hBl : Bb.length = p := by rw [← hB]; simp [rawL]
    rw [hA, hB] at hraw
    rw [hA] at b1 HT
    rw [hB] at b2 LT
    rw [hm] at HT LT
    have HR := Lib.hid fun w => l7Result_any A Bb w (fun e => by rw [e] at hBl; simp at hBl; omega) b1 b2 (by omega) (by omega)
    rw [hraw] at HR
    obtain ⟨r, hr0⟩ : ∃ r, resA (fun n => bitS (f n)) = r := ⟨_, rfl⟩
    rw [hr0] at HR
    have HF : Hid (dvR h l K = r) := Lib.hid (by unfold dvR; rw [HQ.out, decide_eq_true hc, ← hr0, ← ea]; rfl)
    have HLN : Hid (((List.range m).map fun i => bitS (f i)).length = m) := Lib.hid (by simp)
    generalize hlb : ((List.range m).map fun i => bitS (f i)) = lb at HT LT HLN
    have HHT := Lib.hid HT
    have HLT := Lib.hid LT
    have HLB := Lib.hid hlb
    have HMS := Lib.hid hMs
    have hmN : m - N = p := by omega
    have HMN := Lib.hid hmN
    clear c1 c2 hfb hf hfn ea hN hp hm HT LT b1 b2 hraw hA hB hAl hBl hr0 hlb hMs hmN hc e2 k0 k1 q1 q2 q3 q4 q5 q6 hh hl
    go_enter Tryd.func28, Tryd.ntmps28
    go_wp2_with fail
    generalize hW0 : World.alloc w _ = W0
    obtain ⟨hx, hsx, hwx⟩ := s2_new hW0
    clear hW0
    generalize hW : World.alloc W0 _ = W2
    obtain ⟨hr, hsr, hwr⟩ := s2_new hW
    rw [hsx] at hr
    clear hW
    have X1 := s2_on hx hwr
    have B1 := below_on hwx hwr
    have hne : w.heap.size ≤ w.heap.size + 1 := by omega
    clear hx hwx hwr hsx hsr
    refine (HV.out _).mono ?_
    rintro e w3 ⟨rfl, hb3⟩
    have X3 := s2_on X1 hb3
    have R3 := s2_on hr hb3
    have B3 := below_on B1 hb3
    clear X1 hr B1 hb3
    obtain ⟨x0, x1, x2, x3⟩ := id X3
    obtain ⟨a0, a1, a2, a3⟩ := id R3
    go_wp2_with fail
    refine (H2.out _).mono ?_
    rintro e w' ⟨rfl, rfl⟩
    have hws : w.heap.size + 1 < w3.heap.size := R3.1
    go_wp2_with fail
    generalize hW : World.alloc w3 _ = W4
    obtain ⟨hr0, hs4, hwW⟩ := heap_last hW
    clear hW
    have X4 := Lib.hid (s2_on X3 hwW)
    have R4 := Lib.hid (s2_on R3 hwW)
    have B4 := Lib.hid (below_on B3 hwW)
    obtain ⟨rb, hrb⟩ : ∃ rb, w3.heap.size = rb := ⟨_, rfl⟩
    rw [hrb] at hr0 hws ⊢
    have HBR : Hid (BR W4 rb (fun i => bitS (f i)) m 0) := Lib.hid ⟨M, hr0, HMS.out, fun i h => absurd h (by omega)⟩
    clear hr0 hs4 hwW X3 R3 B3 x0 x1 x2 x3 a0 a1 a2 a3 hmk hrb
    go_loopw [7] (fun i wr => ∃ k : Nat, i = .int .i64 k ∧ k ≤ m ∧ BR wr rb (fun i => bitS (f i)) m k ∧ S2 wr w.heap.size (bs h) (bs l) ∧ S2 wr (w.heap.size + 1) ⟨#[]⟩ ⟨#[]⟩ ∧ Below w.heap.size w wr) (fun i _ => m - (intOf i).toNat)
    case atStart => exact ⟨0, rfl, Nat.zero_le _, HBR.out, X4.out, R4.out, B4.out⟩
    case round =>
      obtain ⟨k, rfl, hk, hbr, hx, hrz, hb⟩ := hrel
      by_cases hlt : k < m
      · have hk' : (k : Int) < (m : Int) := by omega
        have hwk : IntKind.i64.wrap ((k : Int) + 1) = ((k + 1 : Nat) : Int) := by rw [IntKind.wrap_i64]; omega
        obtain ⟨j, hj⟩ : ∃ j, K * k = j := ⟨_, rfl⟩
        have hjb : j ≤ 1000000000 := by rw [← hj]; exact Nat.le_trans (Nat.mul_le_mul hK2 (show k ≤ 100000 by omega)) (by omega)
        have hji : (K : Int) * (k : Int) = (j : Int) := by rw [← hj]; exact (Int.natCast_mul K k).symm
        have hwj : IntKind.i64.wrap (j : Int) = (j : Int) := by rw [IntKind.wrap_i64]; omega
        have C1 := Lib.hid (HAS.out j (by omega))
        have hfk := HFN.out k
        rw [hj] at hfk
        rw [hfk] at C1
        have X5 := Lib.hid hx
        have R5 := Lib.hid hrz
        have B5 := Lib.hid hb
        have BR5 := Lib.hid hbr
        obtain ⟨x0, x1, x2, x3⟩ := id hx
        clear hx hrz hb hbr hfk hj
        go_wp2_with fail
        refine (C1.out _).mono ?_
        rintro e w5 ⟨rfl, hb5⟩
        have hbr5 := br_on BR5.out hb5
        have X6 := Lib.hid (s2_on X5.out hb5)
        have R6 := Lib.hid (s2_on R5.out hb5)
        have B6 := Lib.hid (below_on B5.out hb5)
        obtain ⟨⟨v1, hv1⟩, hf1, hbl1⟩ := br_cell hbr5 hlt
        have HBR5 := Lib.hid hbr5
        clear hbr5 hb5 x0 x1 x2 x3
        go_wp2_with fail
        refine (l7Bit_any _ _).mono ?_
        rintro e w6 ⟨rfl, rfl⟩
        go_wp2
        go_roundw
        case rel => exact ⟨k + 1, rfl, by omega, br_put HBR5.out hlt rfl, s2_set X6.out (by omega), s2_set R6.out (by omega), B6.out.setCell (by show w.heap.size ≤ rb; omega) _⟩
        case measure => simp [intOf]; omega
      · have hk' : ¬ (k : Int) < (m : Int) := by omega
        obtain rfl : k = m := by omega
        have hrow := br_row hbr
        rw [HLB.out] at hrow
        have HROW := Lib.hid hrow
        have hsl1 := slice_upto rb N k (Nat.le_of_lt hNm)
        have hsl2 := slice_from rb N k hNm
        rw [HMN.out] at hsl2
        have hcv1 : ∀ W, RowB W rb lb → (convert 37 9 (.slice (some ⟨rb, 0, none⟩) N k)).run Tryd.prog W = .ok (.string (bs A)) W := fun W hW => conv_upto hW (by rw [HLN.out]; omega) HHT.out
        have hcv2 : ∀ W, RowB W rb lb → (convert 37 9 (.slice (some ⟨rb, N, none⟩) p p)).run Tryd.prog W = .ok (.string (bs Bb)) W := fun W hW => conv_from hW (by rw [HLN.out, ← HMN.out]; omega) HLT.out
        have X := Lib.hid hx
        have R := Lib.hid hrz
        have B := Lib.hid hb
        obtain ⟨x0, x1, x2, x3⟩ := id hx
        clear hbr hrow hx hrz hb
        go_upto_region 8 with fail
        clear x0 x1 x2 x3
        refine wp_region_held_drew (S := (fun w' => RowB w' rb lb ∧ w'.cell? ⟨w.heap.size, 0, none⟩ = some (.string (bs h)) ∧ w'.cell? ⟨w.heap.size, 1, none⟩ = some (.string (bs l)))) (by kernel_rfl) ?_ (fun hHeld => ?_)
        · try dsimp only
          first | (refine ⟨rowb_on HROW.out ?_, s2_keep X.out ?_⟩ <;> go_grown; done) | exact ⟨rowb_set (rowb_set (rowb_on HROW.out hbW7) (by omega)) (by omega), (s2_set (s2_set (s2_on X.out hbW7) (by omega)) (by omega)).2.1, (s2_set (s2_set (s2_on X.out hbW7) (by omega)) (by omega)).2.2.1⟩
        refine wpAnyH_take (i := 0) (oi := { dst := some 40, op := Go.Op.move (Go.Operand.tmp 6), type := 37, pos := "l7_sets.go:232", after := #[], guard := none }) (v := ?_) rfl (by kernel_rfl) (by kernel_rfl) (by kernel_rfl) (fun _ _ _ h => h) (Or.inl ⟨by rfl, ?_⟩) (by assumption) ?_
        rotate_left
        · (intro w hSw; (try dsimp only at hSw); first | (go_simp; done) | (go_simp; with_reducible rfl))
        try simp only [Act.put, List.setIfInBounds_toArray, List.set_cons_zero, List.set_cons_succ]
        refine wpAnyH_take (i := 1) (oi := { dst := some 41, op := Go.Op.fieldAddr 25 (Go.Operand.tmp 2) 0, type := 0, pos := "l7_sets.go:232", after := #[], guard := none }) (v := ?_) rfl (by kernel_rfl) (by kernel_rfl) (by kernel_rfl) (fun _ _ _ h => h) (Or.inl ⟨by rfl, ?_⟩) (by assumption) ?_
        rotate_left
        · (intro w hSw; (try dsimp only at hSw); first | (go_simp; done) | (go_simp; with_reducible rfl))
        try simp only [Act.put, List.setIfInBounds_toArray, List.set_cons_zero, List.set_cons_succ]
        refine wpAnyH_take (i := 2) (oi := { dst := some 42, op := Go.Op.load 9 (Go.Operand.tmp 41), type := 9, pos := "l7_sets.go:232", after := #[{ on := 1, ground := Go.Ground.data }], guard := none }) (v := ?_) rfl (by kernel_rfl) (by kernel_rfl) (by kernel_rfl) (fun _ _ _ h => h) (Or.inl ⟨by rfl, ?_⟩) (by assumption) ?_
        rotate_left
        · (intro w hSw; (try dsimp only at hSw); first | (go_simp; done) | (go_simp; with_reducible rfl))
        try simp only [Act.put, List.setIfInBounds_toArray, List.set_cons_zero, List.set_cons_succ]
        refine wpAnyH_take (i := 3) (oi := { dst := some 43, op := Go.Op.call { callee := Go.Callee.builtin Go.Builtin.len, args := #[Go.Operand.tmp 42], argTypes := #[9] }, type := 3, pos := "l7_sets.go:232", after := #[{ on := 2, ground := Go.Ground.data }], guard := none }) (v := ?_) rfl (by kernel_rfl) (by kernel_rfl) (by kernel_rfl) (fun _ _ _ h => h) (Or.inl ⟨by rfl, ?_⟩) (by assumption) ?_
        rotate_left
        · (intro w hSw; (try dsimp only at hSw); first | (go_simp; done) | (go_simp; with_reducible rfl))
        try simp only [Act.put, List.setIfInBounds_toArray, List.set_cons_zero, List.set_cons_succ]
        refine wpAnyH_take (i := 4) (oi := { dst := some 44, op := Go.Op.slice 37 (Go.Operand.tmp 40) none (some (Go.Operand.tmp 43)) none, type := 37, pos := "l7_sets.go:232", after := #[{ on := 0, ground := Go.Ground.data }, { on := 3, ground := Go.Ground.data }], guard := none }) (v := ?_) rfl (by kernel_rfl) (by kernel_rfl) (by kernel_rfl) (fun _ _ _ h => h) (Or.inl ⟨by rfl, ?_⟩) (by assumption) ?_
        rotate_left
        · (intro w hSw; (try dsimp only at hSw); first | (go_simp; done) | (go_simp; with_reducible rfl))
        try simp only [Act.put, List.setIfInBounds_toArray, List.set_cons_zero, List.set_cons_succ]
        refine wpAnyH_take (i := 5) (oi := { dst := some 45, op := Go.Op.convert 37 9 (Go.Operand.tmp 44), type := 9, pos := "l7_sets.go:232", after := #[{ on := 4, ground := Go.Ground.data }], guard := none }) (v := ?_) rfl (by kernel_rfl) (by kernel_rfl) (by kernel_rfl) (fun _ _ _ h => h) (Or.inl ⟨by rfl, ?_⟩) (by assumption) ?_
        rotate_left
        · (intro w hSw; (try dsimp only at hSw); first | (go_simp; done) | (go_simp; with_reducible rfl))
        try simp only [Act.put, List.setIfInBounds_toArray, List.set_cons_zero, List.set_cons_succ]
        refine wpAnyH_take (i := 6) (oi := { dst := some 46, op := Go.Op.move (Go.Operand.tmp 6), type := 37, pos := "l7_sets.go:232", after := #[], guard := none }) (v := ?_) rfl (by kernel_rfl) (by kernel_rfl) (by kernel_rfl) (fun _ _ _ h => h) (Or.inl ⟨by rfl, ?_⟩) (by assumption) ?_
        rotate_left
        · (intro w hSw; (try dsimp only at hSw); first | (go_simp; done) | (go_simp; with_reducible rfl))
        try simp only [Act.put, List.setIfInBounds_toArray, List.set_cons_zero, List.set_cons_succ]
        refine wpAnyH_take (i := 7) (oi := { dst := some 47, op := Go.Op.fieldAddr 25 (Go.Operand.tmp 2) 0, type := 0, pos := "l7_sets.go:232", after := #[], guard := none }) (v := ?_) rfl (by kernel_rfl) (by kernel_rfl) (by kernel_rfl) (fun _ _ _ h => h) (Or.inl ⟨by rfl, ?_⟩) (by assumption) ?_
        rotate_left
        · (intro w hSw; (try dsimp only at hSw); first | (go_simp; done) | (go_simp; with_reducible rfl))
        try simp only [Act.put, List.setIfInBounds_toArray, List.set_cons_zero, List.set_cons_succ]
        refine wpAnyH_take (i := 8) (oi := { dst := some 48, op := Go.Op.load 9 (Go.Operand.tmp 47), type := 9, pos := "l7_sets.go:232", after := #[{ on := 7, ground := Go.Ground.data }], guard := none }) (v := ?_) rfl (by kernel_rfl) (by kernel_rfl) (by kernel_rfl) (fun _ _ _ h => h) (Or.inl ⟨by rfl, ?_⟩) (by assumption) ?_
        rotate_left
        · (intro w hSw; (try dsimp only at hSw); first | (go_simp; done) | (go_simp; with_reducible rfl))
        try simp only [Act.put, List.setIfInBounds_toArray, List.set_cons_zero, List.set_cons_succ]
        refine wpAnyH_take (i := 9) (oi := { dst := some 49, op := Go.Op.call { callee := Go.Callee.builtin Go.Builtin.len, args := #[Go.Operand.tmp 48], argTypes := #[9] }, type := 3, pos := "l7_sets.go:232", after := #[{ on := 8, ground := Go.Ground.data }], guard := none }) (v := ?_) rfl (by kernel_rfl) (by kernel_rfl) (by kernel_rfl) (fun _ _ _ h => h) (Or.inl ⟨by rfl, ?_⟩) (by assumption) ?_
        rotate_left
        · (intro w hSw; (try dsimp only at hSw); first | (go_simp; done) | (go_simp; with_reducible rfl))
        try simp only [Act.put, List.setIfInBounds_toArray, List.set_cons_zero, List.set_cons_succ]
        refine wpAnyH_take (i := 10) (oi := { dst := some 50, op := Go.Op.slice 37 (Go.Operand.tmp 46) (some (Go.Operand.tmp 49)) none none, type := 37, pos := "l7_sets.go:232", after := #[{ on := 6, ground := Go.Ground.data }, { on := 9, ground := Go.Ground.data }], guard := none }) (v := ?_) rfl (by kernel_rfl) (by kernel_rfl) (by kernel_rfl) (fun _ _ _ h => h) (Or.inl ⟨by rfl, ?_⟩) (by assumption) ?_
        rotate_left
        · (intro w hSw; (try dsimp only at hSw); first | (go_simp; done) | (go_simp; with_reducible rfl))
        try simp only [Act.put, List.setIfInBounds_toArray, List.set_cons_zero, List.set_cons_succ]
        refine wpAnyH_take (i := 11) (oi := { dst := some 51, op := Go.Op.convert 37 9 (Go.Operand.tmp 50), type := 9, pos := "l7_sets.go:232", after := #[{ on := 10, ground := Go.Ground.data }], guard := none }) (v := ?_) rfl (by kernel_rfl) (by kernel_rfl) (by kernel_rfl) (fun _ _ _ h => h) (Or.inl ⟨by rfl, ?_⟩) (by assumption) ?_
        rotate_left
        · (intro w hSw; (try dsimp only at hSw); first | (go_simp; done) | (go_simp; with_reducible rfl))
        try simp only [Act.put, List.setIfInBounds_toArray, List.set_cons_zero, List.set_cons_succ]
        refine wpAnyH_ready (rs := [12]) (by kernel_rfl) (by simp) ?_
        refine AllReadyH.cons (o := { dst := some 52, op := Go.Op.call { callee := Go.Callee.value (Go.Operand.func 46), args := #[Go.Operand.tmp 45, Go.Operand.tmp 51], argTypes := #[9, 9] }, type := 26, pos := "l7_sets.go:232", after := #[{ on := 5, ground := Go.Ground.data }, { on := 11, ground := Go.Ground.data }], guard := none }) rfl (fun K hK => ?_) AllReadyH.nil
        go_simp
        (go_at_call 46; refine (HR.out _).mono ?_; rintro e w7 ⟨rfl, hb7⟩; have hbW7 := below_on (w := wr) (by go_grown) hb7; have R7 := s2_on R.out hbW7; obtain ⟨a0, a1, a2, a3⟩ := id R7)
        (try go_wp2_with fail)
        refine hK.out _ _ ?_ (fun hHeld => ?_)
        · try dsimp only
          first | (refine ⟨rowb_on HROW.out ?_, s2_keep X.out ?_⟩ <;> go_grown; done) | exact ⟨rowb_set (rowb_set (rowb_on HROW.out hbW7) (by omega)) (by omega), (s2_set (s2_set (s2_on X.out hbW7) (by omega)) (by omega)).2.1, (s2_set (s2_set (s2_on X.out hbW7) (by omega)) (by omega)).2.2.1⟩
        clear hK K
        try simp only [Act.put, List.setIfInBounds_toArray, List.set_cons_zero, List.set_cons_succ]
        refine wpAnyH_take (i := 13) (oi := { dst := some 53, op := Go.Op.extract (Go.Operand.tmp 52) 0, type := 25, pos := "l7_sets.go:232", after := #[{ on := 12, ground := Go.Ground.data }], guard := none }) (v := ?_) rfl (by kernel_rfl) (by kernel_rfl) (by kernel_rfl) (fun _ _ _ h => h) (Or.inl ⟨by rfl, ?_⟩) (by assumption) ?_
        rotate_left
        · (intro w hSw; (try dsimp only at hSw); first | (go_simp; done) | (go_simp; with_reducible rfl))
        try simp only [Act.put, List.setIfInBounds_toArray, List.set_cons_zero, List.set_cons_succ]
        refine wpAnyH_take (i := 14) (oi := { dst := some 54, op := Go.Op.extract (Go.Operand.tmp 52) 1, type := 4, pos := "l7_sets.go:232", after := #[{ on := 12, ground := Go.Ground.data }], guard := none }) (v := ?_) rfl (by kernel_rfl) (by kernel_rfl) (by kernel_rfl) (fun _ _ _ h => h) (Or.inl ⟨by rfl, ?_⟩) (by assumption) ?_
        rotate_left
        · (intro w hSw; (try dsimp only at hSw); first | (go_simp; done) | (go_simp; with_reducible rfl))
        try simp only [Act.put, List.setIfInBounds_toArray, List.set_cons_zero, List.set_cons_succ]
        refine wpAnyH_ready (rs := [15]) (by kernel_rfl) (by simp) ?_
        refine AllReadyH.cons (o := { dst := none, op := Go.Op.store 25 (Go.Operand.tmp 4) (Go.Operand.tmp 53), type := 0, pos := "l7_sets.go:232", after := #[{ on := 13, ground := Go.Ground.data }, { on := 12, ground := Go.Ground.chain }, { on := 0, ground := Go.Ground.phase }, { on := 1, ground := Go.Ground.phase }, { on := 2, ground := Go.Ground.phase }, { on := 3, ground := Go.Ground.phase }, { on := 4, ground := Go.Ground.phase }, { on := 5, ground := Go.Ground.phase }, { on := 6, ground := Go.Ground.phase }, { on := 7, ground := Go.Ground.phase }, { on := 8, ground := Go.Ground.phase }, { on := 9, ground := Go.Ground.phase }, { on := 10, ground := Go.Ground.phase }, { on := 11, ground := Go.Ground.phase }, { on := 12, ground := Go.Ground.phase }, { on := 13, ground := Go.Ground.phase }, { on := 14, ground := Go.Ground.phase }], guard := none }) rfl (fun K hK => ?_) AllReadyH.nil
        go_simp
        refine hK.out _ _ ?_ (fun hHeld => ?_)
        · try dsimp only
          first | (refine ⟨rowb_on HROW.out ?_, s2_keep X.out ?_⟩ <;> go_grown; done) | exact ⟨rowb_set (rowb_set (rowb_on HROW.out hbW7) (by omega)) (by omega), (s2_set (s2_set (s2_on X.out hbW7) (by omega)) (by omega)).2.1, (s2_set (s2_set (s2_on X.out hbW7) (by omega)) (by omega)).2.2.1⟩
        clear hK K
        try simp only [Act.put, List.setIfInBounds_toArray, List.set_cons_zero, List.set_cons_succ]
        refine wpAnyH_take (i := 16) (oi := { dst := some 5, op := Go.Op.assign (Go.Operand.tmp 54), type := 4, pos := "l7_sets.go:232", after := #[{ on := 14, ground := Go.Ground.data }, { on := 15, ground := Go.Ground.chain }, { on := 0, ground := Go.Ground.phase }, { on := 1, ground := Go.Ground.phase }, { on := 2, ground := Go.Ground.phase }, { on := 3, ground := Go.Ground.phase }, { on := 4, ground := Go.Ground.phase }, { on := 5, ground := Go.Ground.phase }, { on := 6, ground := Go.Ground.phase }, { on := 7, ground := Go.Ground.phase }, { on := 8, ground := Go.Ground.phase }, { on := 9, ground := Go.Ground.phase }, { on := 10, ground := Go.Ground.phase }, { on := 11, ground := Go.Ground.phase }, { on := 12, ground := Go.Ground.phase }, { on := 13, ground := Go.Ground.phase }, { on := 14, ground := Go.Ground.phase }, { on := 15, ground := Go.Ground.phase }], guard := none }) (v := ?_) rfl (by kernel_rfl) (by kernel_rfl) (by kernel_rfl) (fun _ _ _ h => h) (Or.inl ⟨by rfl, ?_⟩) (by assumption) ?_
        rotate_left
        · (intro w hSw; (try dsimp only at hSw); first | (go_simp; done) | (go_simp; with_reducible rfl))
        try simp only [Act.put, List.setIfInBounds_toArray, List.set_cons_zero, List.set_cons_succ]
        refine wpAnyH_done (by kernel_rfl) ?_ _
        go_wp2
        generalize hW8 : World.setCell _ _ _ = W8
        obtain ⟨⟨_, r1, r2, _⟩, _, _, hb8⟩ := s2_put hW8 _ _ R7
        refine bodyPost_ret (v := .tuple #[.agg #[.string (bs r.1.1), .string (bs r.1.2)], .bool r.2]) (by simp [results, Tryd.results28, go_sem, r1, r2]) rfl ⟨by rw [HF.out], ?_⟩
        exact below_on (hb8 w (below_on B.out hbW7) hne) (by go_grown)

end Go.Proofs.YtpheihejgnlanaaDoor

/- SumSets of the model. -/
namespace Go.Proofs.YtpheihejgnlanaaDoor
open Go.RowKit

theorem bm_put {W : World} {b m j : Nat} {g : Nat → Bool} (h : BR W b (fun i => bitS (g i)) m m) (hj : j < m) : BR (W.setCell ⟨b, j, none⟩ (.int .u8 49)) b (fun i => bitS (g i || decide (i = j))) m m := by
  obtain ⟨c, h1, h2, h3⟩ := h
  refine ⟨_, heap_setCell_same _ _ _ _ _ _ h1, by simpa using h2, fun i hi => ?_⟩
  by_cases e : i = j
  · subst e
    rw [Array.getElem?_setIfInBounds_self_of_lt (by omega)]
    simp [bitS]
  · rw [Array.getElem?_setIfInBounds_ne (by omega), h3 i hi]
    simp [e]
theorem bm_as {W : World} {b m : Nat} {g g' : Nat → Bool} (h : BR W b (fun i => bitS (g i)) m m) (e : ∀ n, n < m → g n = g' n) : BR W b (fun i => bitS (g' i)) m m := by
  obtain ⟨c, h1, h2, h3⟩ := h
  exact ⟨c, h1, h2, fun i hi => by rw [h3 i hi]; simp only [e i hi]⟩
/-- What is told when the first numbers are done. -/
def gA (a b : Nat → UInt8) (k n : Nat) : Bool := (List.range k).any fun i => decide (i ≤ n) && (inS a i && inS b (n - i))
def gB (a b : Nat → UInt8) (k j n : Nat) : Bool := gA a b k n || (inS a k && (List.range j).any fun i => inS b i && decide (k + i = n))
theorem gA_next (a b : Nat → UInt8) (k n : Nat) : gA a b (k + 1) n = (gA a b k n || (decide (k ≤ n) && (inS a k && inS b (n - k)))) := by
  unfold gA
  rw [List.range_succ, List.any_append]
  simp
theorem gB_zero (a b : Nat → UInt8) (k n : Nat) : gB a b k 0 n = gA a b k n := by simp [gB]
theorem gB_off {a b : Nat → UInt8} {k : Nat} (h : inS a k = false) (j n : Nat) : gB a b k j n = gA a b (k + 1) n := by
  rw [gA_next]
  simp [gB, h]
theorem gB_skip {a b : Nat → UInt8} {k j : Nat} (h : inS b j = false) (n : Nat) : gB a b k j n = gB a b k (j + 1) n := by
  unfold gB
  rw [List.range_succ, List.any_append]
  simp [h]
theorem gB_put {a b : Nat → UInt8} {k j : Nat} (h1 : inS a k = true) (h2 : inS b j = true) (n : Nat) : (gB a b k j n || decide (n = k + j)) = gB a b k (j + 1) n := by
  unfold gB
  rw [List.range_succ, List.any_append]
  simp [h1, h2, Bool.or_assoc]
  congr 2
  rw [decide_eq_decide]
  exact eq_comm
theorem gB_end {a b : Nat → UInt8} {k j m n : Nat} (hj : m ≤ k + j) (hn : n < m) : gB a b k j n = gA a b (k + 1) n := by
  rw [gA_next]
  unfold gB
  congr 1
  rw [Bool.eq_iff_iff]
  simp only [Bool.and_eq_true, List.any_eq_true, List.mem_range, decide_eq_true_eq]
  constructor
  · rintro ⟨h1, i, hi, h2, rfl⟩
    exact ⟨by omega, h1, by rw [Nat.add_sub_cancel_left]; exact h2⟩
  · rintro ⟨h0, h1, h2⟩
    exact ⟨h1, n - k, by omega, h2, by omega⟩
theorem gA_sum {a b : Nat → UInt8} {m n : Nat} (hn : n < m) : gA a b m n = sumB a b n := by
  rw [Bool.eq_iff_iff, sumB_iff]
  unfold gA
  simp only [List.any_eq_true, List.mem_range, Bool.and_eq_true, decide_eq_true_eq]
  constructor
  · rintro ⟨i, _, h0, h1, h2⟩
    exact ⟨i, n - i, by omega, h1, h2⟩
  · rintro ⟨i, j, rfl, h1, h2⟩
    exact ⟨i, by omega, by omega, h1, by rw [Nat.add_sub_cancel_left]; exact h2⟩

set_option maxRecDepth 10000 in
set_option maxHeartbeats 8000000 in
theorem specSumSets_any (h l h' l' : List UInt8) (w : World) (hh : h.length ≤ 1000000000) (hl : l.length ≤ 1000000000) (hh' : h'.length ≤ 1000000000) (hl' : l'.length ≤ 1000000000) :
    Calls Tryd.prog 30 #[.agg #[.string (bs h), .string (bs l)], .agg #[.string (bs h'), .string (bs l')]] w fun e w' => e = .returned (.tuple #[.agg #[.string (bs (smR h l h' l').1.1), .string (bs (smR h l h' l').1.2)], .bool (smR h l h' l').2]) ∧ Below w.heap.size w w' := by
  have HV := Lib.hid fun w => specSetValid_b h l w hh hl
  have HV2 := Lib.hid fun w => specSetValid_b h' l' w hh' hl'
  have HS := Lib.hid (svS_parts (h := h) (l := l))
  have HS2 := Lib.hid (svS_parts (h := h') (l := l'))
  obtain ⟨v, hv⟩ : ∃ v, svS h l = v := ⟨_, rfl⟩
  obtain ⟨v2, hv2⟩ : ∃ v, svS h' l' = v := ⟨_, rfl⟩
  have HQ : Hid (svS h l = v) := Lib.hid hv
  have HQ2 : Hid (svS h' l' = v2) := Lib.hid hv2
  rw [hv] at HV
  rw [hv2] at HV2
  clear hv hv2
  cases v with
  | false =>
    have HF : Hid (smR h l h' l' = (([], []), false)) := Lib.hid (by unfold smR; rw [HQ.out]; rfl)
    go_enter Tryd.func30, Tryd.ntmps30
    go_wp2_with fail
    generalize hW0 : World.alloc w _ = W0
    obtain ⟨hx, hsx, hwx⟩ := s2_new hW0
    clear hW0
    generalize hW : World.alloc W0 _ = W1
    obtain ⟨hz, hsz, hwz⟩ := s2_new hW
    rw [hsx] at hz
    clear hW
    generalize hW : World.alloc W1 _ = W2
    obtain ⟨hr, hsr, hwr⟩ := s2_new hW
    rw [hsz, hsx] at hr
    clear hW
    have X1 := s2_on hx (below_on hwz hwr)
    have Z1 := s2_on hz hwr
    have B1 := below_on hwx (below_on hwz hwr)
    have hne : w.heap.size ≤ w.heap.size + 1 + 1 := by omega
    clear hx hz hwx hwz hwr hsx hsz hsr
    refine (HV.out _).mono ?_
    rintro e w3 ⟨rfl, hb3⟩
    have X3 := s2_on X1 hb3
    have Z3 := s2_on Z1 hb3
    have R3 := s2_on hr hb3
    have B3 := below_on B1 hb3
    clear X1 Z1 hr B1 hb3
    obtain ⟨x0, x1, x2, x3⟩ := id X3
    obtain ⟨z0, z1, z2, z3⟩ := id Z3
    obtain ⟨a0, a1, a2, a3⟩ := id R3
    go_wp2
    generalize hW : World.setCell _ _ _ = W8
    obtain ⟨⟨_, r1, r2, _⟩, _, _, hb8⟩ := s2_put hW _ _ R3
    refine bodyPost_ret (v := .tuple #[.agg #[.string ⟨#[]⟩, .string ⟨#[]⟩], .bool false]) (by simp [results, Tryd.results30, go_sem, r1, r2]) rfl ⟨by rw [HF.out]; rfl, ?_⟩
    exact hb8 w B3 hne
  | true =>
    cases v2 with
    | false =>
      have HF : Hid (smR h l h' l' = (([], []), false)) := Lib.hid (by unfold smR; rw [HQ.out, HQ2.out]; rfl)
      go_enter Tryd.func30, Tryd.ntmps30
      go_wp2_with fail
      generalize hW0 : World.alloc w _ = W0
      obtain ⟨hx, hsx, hwx⟩ := s2_new hW0
      clear hW0
      generalize hW : World.alloc W0 _ = W1
      obtain ⟨hz, hsz, hwz⟩ := s2_new hW
      rw [hsx] at hz
      clear hW
      generalize hW : World.alloc W1 _ = W2
      obtain ⟨hr, hsr, hwr⟩ := s2_new hW
      rw [hsz, hsx] at hr
      clear hW
      have X1 := s2_on hx (below_on hwz hwr)
      have Z1 := s2_on hz hwr
      have B1 := below_on hwx (below_on hwz hwr)
      have hne : w.heap.size ≤ w.heap.size + 1 + 1 := by omega
      clear hx hz hwx hwz hwr hsx hsz hsr
      refine (HV.out _).mono ?_
      rintro e w3 ⟨rfl, hb3⟩
      have X3 := s2_on X1 hb3
      have Z3 := s2_on Z1 hb3
      have R3 := s2_on hr hb3
      have B3 := below_on B1 hb3
      clear X1 Z1 hr B1 hb3
      obtain ⟨x0, x1, x2, x3⟩ := id X3
      obtain ⟨z0, z1, z2, z3⟩ := id Z3
      obtain ⟨a0, a1, a2, a3⟩ := id R3
      go_wp2_with fail
      refine (HV2.out _).mono ?_
      rintro e w4 ⟨rfl, hb4⟩
      have X4 := s2_on X3 hb4
      have Z4 := s2_on Z3 hb4
      have R4 := s2_on R3 hb4
      have B4 := below_on B3 hb4
      clear X3 Z3 R3 B3 hb4 x0 x1 x2 x3 z0 z1 z2 z3 a0 a1 a2 a3
      obtain ⟨x0, x1, x2, x3⟩ := id X4
      obtain ⟨z0, z1, z2, z3⟩ := id Z4
      obtain ⟨a0, a1, a2, a3⟩ := id R4
      go_wp2
      generalize hW : World.setCell _ _ _ = W8
      obtain ⟨⟨_, r1, r2, _⟩, _, _, hb8⟩ := s2_put hW _ _ R4
      refine bodyPost_ret (v := .tuple #[.agg #[.string ⟨#[]⟩, .string ⟨#[]⟩], .bool false]) (by simp [results, Tryd.results30, go_sem, r1, r2]) rfl ⟨by rw [HF.out]; rfl, ?_⟩
      exact hb8 w B4 hne
    | true =>
      obtain ⟨q1, q2, q3, q4, q5, q6⟩ := HS.out HQ.out
      obtain ⟨p1, p2, p3, p4, p5, p6⟩ := HS2.out HQ2.out
      have hs1 := bs_size h
      have hs2 := bs_size h'
      have hs3 := bs_size l
      have hs4 := bs_size l'
      have hper0 := per_sm (per_at h l) (per_at h' l')
      obtain ⟨H, hH⟩ : ∃ k, h.length = k := ⟨_, rfl⟩
      obtain ⟨H', hH'⟩ : ∃ k, h'.length = k := ⟨_, rfl⟩
      obtain ⟨L, hL⟩ : ∃ k, l.length = k := ⟨_, rfl⟩
      obtain ⟨L', hL'⟩ : ∃ k, l'.length = k := ⟨_, rfl⟩
      obtain ⟨p, hp⟩ : ∃ k, L * L' = k := ⟨_, rfl⟩
      rw [hH, hH', hL, hL', hp] at hper0
      have hpi : (L : Int) * (L' : Int) = (p : Int) := by rw [← hp]; exact (Int.natCast_mul L L').symm
      have hpb : p ≤ 57600 := by rw [← hp]; exact Nat.le_trans (Nat.mul_le_mul (show L ≤ 240 by omega) (show L' ≤ 240 by omega)) (by omega)
      have hp0 : 0 < p := by rw [← hp]; exact Nat.mul_pos (by omega) (by omega)
      have hwp : IntKind.i64.wrap (p : Int) = (p : Int) := by rw [IntKind.wrap_i64]; omega
      by_cases hbig : 400 < p
      · have hd : decide ((400 : Int) < (p : Int)) = true := decide_eq_true (by omega)
        have hd2 : decide (400 < p) = true := decide_eq_true hbig
        have HF : Hid (smR h l h' l' = (([], []), false)) := Lib.hid (by unfold smR; rw [hL, hL', hp, decide_eq_false (show ¬ p ≤ 400 by omega), Bool.and_false]; rfl)
        rw [hH] at hs1
        rw [hH'] at hs2
        rw [hL] at hs3
        rw [hL'] at hs4
        clear q1 q2 q3 q4 q5 q6 p1 p2 p3 p4 p5 p6 hH hH' hL hL' hp hpb hbig hh hl hh' hl' hper0
        go_enter Tryd.func30, Tryd.ntmps30
        go_wp2_with fail
        generalize hW0 : World.alloc w _ = W0
        obtain ⟨hx, hsx, hwx⟩ := s2_new hW0
        clear hW0
        generalize hW : World.alloc W0 _ = W1
        obtain ⟨hz, hsz, hwz⟩ := s2_new hW
        rw [hsx] at hz
        clear hW
        generalize hW : World.alloc W1 _ = W2
        obtain ⟨hr, hsr, hwr⟩ := s2_new hW
        rw [hsz, hsx] at hr
        clear hW
        have X1 := s2_on hx (below_on hwz hwr)
        have Z1 := s2_on hz hwr
        have B1 := below_on hwx (below_on hwz hwr)
        have hne : w.heap.size ≤ w.heap.size + 1 + 1 := by omega
        clear hx hz hwx hwz hwr hsx hsz hsr
        refine (HV.out _).mono ?_
        rintro e w3 ⟨rfl, hb3⟩
        have X3 := s2_on X1 hb3
        have Z3 := s2_on Z1 hb3
        have R3 := s2_on hr hb3
        have B3 := below_on B1 hb3
        clear X1 Z1 hr B1 hb3
        obtain ⟨x0, x1, x2, x3⟩ := id X3
        obtain ⟨z0, z1, z2, z3⟩ := id Z3
        obtain ⟨a0, a1, a2, a3⟩ := id R3
        go_wp2_with fail
        refine (HV2.out _).mono ?_
        rintro e w4 ⟨rfl, hb4⟩
        have X4 := s2_on X3 hb4
        have Z4 := s2_on Z3 hb4
        have R4 := s2_on R3 hb4
        have B4 := below_on B3 hb4
        clear X3 Z3 R3 B3 hb4 x0 x1 x2 x3 z0 z1 z2 z3 a0 a1 a2 a3
        obtain ⟨x0, x1, x2, x3⟩ := id X4
        obtain ⟨z0, z1, z2, z3⟩ := id Z4
        obtain ⟨a0, a1, a2, a3⟩ := id R4
        go_wp2
        generalize hW : World.setCell _ _ _ = W8
        obtain ⟨⟨_, r1, r2, _⟩, _, _, hb8⟩ := s2_put hW _ _ R4
        refine bodyPost_ret (v := .tuple #[.agg #[.string ⟨#[]⟩, .string ⟨#[]⟩], .bool false]) (by simp [results, Tryd.results30, go_sem, r1, r2]) rfl ⟨by rw [HF.out]; rfl, ?_⟩
        exact hb8 w B4 hne
      · have hd : decide ((400 : Int) < (p : Int)) = false := decide_eq_false (by omega)
        have hd2 : decide (400 < p) = false := decide_eq_false hbig
        have HF0 : Hid (smR h l h' l' = resA (smA (atS h l) (atS h' l'))) := Lib.hid (by unfold smR; rw [HQ.out, HQ2.out, hL, hL', hp, decide_eq_true (show p ≤ 400 by omega)]; rfl)
        have HA := Lib.hid fun (n : Nat) (hn : n ≤ 9223372036854775807) w => l7Has_any h l n w q6 hh hl hn
        have HB0 := Lib.hid fun (n : Nat) (hn : n ≤ 9223372036854775807) w => l7Has_any h' l' n w p6 hh' hl' hn
        obtain ⟨A, hA⟩ : ∃ A, atS h l = A := ⟨_, rfl⟩
        obtain ⟨B, hB⟩ : ∃ A, atS h' l' = A := ⟨_, rfl⟩
        rw [hA] at HA
        rw [hB] at HB0
        rw [hA, hB] at HF0 hper0
        obtain ⟨u1, hu1⟩ : ∃ k, H + H' = k := ⟨_, rfl⟩
        obtain ⟨u2, hu2⟩ : ∃ k, u1 + L = k := ⟨_, rfl⟩
        obtain ⟨u3, hu3⟩ : ∃ k, u2 + L' = k := ⟨_, rfl⟩
        obtain ⟨N, hN⟩ : ∃ k, u3 + p = k := ⟨_, rfl⟩
        obtain ⟨m, hm⟩ : ∃ k, N + p = k := ⟨_, rfl⟩
        have hw1 : IntKind.i64.wrap ((H : Int) + (H' : Int)) = (u1 : Int) := by rw [IntKind.wrap_i64]; omega
        have hw2 : IntKind.i64.wrap ((u1 : Int) + (L : Int)) = (u2 : Int) := by rw [IntKind.wrap_i64]; omega
        have hw3 : IntKind.i64.wrap ((u2 : Int) + (L' : Int)) = (u3 : Int) := by rw [IntKind.wrap_i64]; omega
        have hw4 : IntKind.i64.wrap ((u3 : Int) + (p : Int)) = (N : Int) := by rw [IntKind.wrap_i64]; omega
        have hw5 : IntKind.i64.wrap ((N : Int) + (p : Int)) = (m : Int) := by rw [IntKind.wrap_i64]; omega
        have hmb : m ≤ 100000 := by omega
        have hNm : N < m := by omega
        obtain ⟨M, hmk, hMs⟩ := br_new m (by omega)
        obtain ⟨HT, LT⟩ := rng_take (sumB A B) N p
        obtain ⟨b1, b2⟩ := raw_bits (f := sumB A B) (N := N) (p := p)
        have hraw := raw_at (a := smA A B) hp0 (per_up hper0 (show H + H' + p ≤ N by omega))
        obtain ⟨X0, hX0⟩ : ∃ X, rawH (fun n => bitS (sumB A B n)) N = X := ⟨_, rfl⟩
        obtain ⟨Y0, hY0⟩ : ∃ X, rawL (fun n => bitS (sumB A B n)) N p = X := ⟨_, rfl⟩
        have hAl : X0.length = N := by rw [← hX0]; simp [rawH]
        have hBl : Y0.length = p := by rw [← hY0]; simp [rawL]
        have hraw2 : atS X0 Y0 = smA A B := by rw [← hX0, ← hY0]; exact hraw
        rw [hX0] at b1 HT
        rw [hY0] at b2 LT
        rw [hm] at HT LT
        have HR := Lib.hid fun w => l7Result_any X0 Y0 w (fun e => by rw [e] at hBl; simp at hBl; omega) b1 b2 (by omega) (by omega)
        rw [hraw2] at HR
        obtain ⟨r, hr0⟩ : ∃ r, resA (smA A B) = r := ⟨_, rfl⟩
        rw [hr0] at HR HF0
        have HLN : Hid (((List.range m).map fun i => bitS (sumB A B i)).length = m) := Lib.hid (by simp)
        generalize hlb : ((List.range m).map fun i => bitS (sumB A B i)) = lb at HT LT HLN
        have HHT := Lib.hid HT
        have HLT := Lib.hid LT
        have HLB := Lib.hid hlb
        have HMS := Lib.hid hMs
        have hmN : m - N = p := by omega
        have HMN := Lib.hid hmN
        rw [hH] at hs1
        rw [hH'] at hs2
        rw [hL] at hs3
        rw [hL'] at hs4
        clear q1 q2 q3 q4 q5 q6 p1 p2 p3 p4 p5 p6 hH hH' hL hL' hp hpb hbig hh hl hh' hl' hper0 hA hB hu1 hu2 hu3 hN hm HT LT b1 b2 hraw hraw2 hX0 hY0 hAl hBl hr0 hlb hMs hmN hp0
        go_enter Tryd.func30, Tryd.ntmps30
        go_wp2_with fail
        generalize hW0 : World.alloc w _ = W0
        obtain ⟨hx, hsx, hwx⟩ := s2_new hW0
        clear hW0
        generalize hW : World.alloc W0 _ = W1
        obtain ⟨hz, hsz, hwz⟩ := s2_new hW
        rw [hsx] at hz
        clear hW
        generalize hW : World.alloc W1 _ = W2
        obtain ⟨hr, hsr, hwr⟩ := s2_new hW
        rw [hsz, hsx] at hr
        clear hW
        have X1 := s2_on hx (below_on hwz hwr)
        have Z1 := s2_on hz hwr
        have B1 := below_on hwx (below_on hwz hwr)
        have hne : w.heap.size ≤ w.heap.size + 1 + 1 := by omega
        clear hx hz hwx hwz hwr hsx hsz hsr
        refine (HV.out _).mono ?_
        rintro e w3 ⟨rfl, hb3⟩
        have X3 := s2_on X1 hb3
        have Z3 := s2_on Z1 hb3
        have R3 := s2_on hr hb3
        have B3 := below_on B1 hb3
        clear X1 Z1 hr B1 hb3
        obtain ⟨x0, x1, x2, x3⟩ := id X3
        obtain ⟨z0, z1, z2, z3⟩ := id Z3
        obtain ⟨a0, a1, a2, a3⟩ := id R3
        go_wp2_with fail
        refine (HV2.out _).mono ?_
        rintro e w4 ⟨rfl, hb4⟩
        have X4 := s2_on X3 hb4
        have Z4 := s2_on Z3 hb4
        have R4 := s2_on R3 hb4
        have B4 := below_on B3 hb4
        clear X3 Z3 R3 B3 hb4 x0 x1 x2 x3 z0 z1 z2 z3 a0 a1 a2 a3
        obtain ⟨x0, x1, x2, x3⟩ := id X4
        obtain ⟨z0, z1, z2, z3⟩ := id Z4
        obtain ⟨a0, a1, a2, a3⟩ := id R4
        have hws : w.heap.size + 1 + 1 < w4.heap.size := R4.1
        go_wp2_with fail
        generalize hW : World.alloc w4 _ = W5
        obtain ⟨hr0, hs5, hwW⟩ := heap_last hW
        clear hW
        have X5 := Lib.hid (s2_on X4 hwW)
        have Z5 := Lib.hid (s2_on Z4 hwW)
        have R5 := Lib.hid (s2_on R4 hwW)
        have B5 := Lib.hid (below_on B4 hwW)
        obtain ⟨rb, hrb⟩ : ∃ rb, w4.heap.size = rb := ⟨_, rfl⟩
        rw [hrb] at hr0 hws ⊢
        have HBR : Hid (BR W5 rb (fun _ => bitS false) m 0) := Lib.hid ⟨M, hr0, HMS.out, fun i h => absurd h (by omega)⟩
        clear hr0 hs5 hwW X4 Z4 R4 B4 x0 x1 x2 x3 z0 z1 z2 z3 a0 a1 a2 a3 hmk hrb
        go_loopw [9] (fun i wr => ∃ k : Nat, i = .int .i64 k ∧ k ≤ m ∧ BR wr rb (fun _ => bitS false) m k ∧ S2 wr w.heap.size (bs h) (bs l) ∧ S2 wr (w.heap.size + 1) (bs h') (bs l') ∧ S2 wr (w.heap.size + 1 + 1) ⟨#[]⟩ ⟨#[]⟩ ∧ Below w.heap.size w wr) (fun i _ => m - (intOf i).toNat)
        case atStart => exact ⟨0, rfl, Nat.zero_le _, HBR.out, X5.out, Z5.out, R5.out, B5.out⟩
        case round =>
          obtain ⟨k, rfl, hk, hbr, hx, hz, hrz, hb⟩ := hrel
          by_cases hlt : k < m
          · have hk' : (k : Int) < (m : Int) := by omega
            have hwk : IntKind.i64.wrap ((k : Int) + 1) = ((k + 1 : Nat) : Int) := by rw [IntKind.wrap_i64]; omega
            have X6 := Lib.hid hx
            have Z6 := Lib.hid hz
            have R6 := Lib.hid hrz
            have B6 := Lib.hid hb
            have BR6 := Lib.hid hbr
            obtain ⟨⟨v1, hv1⟩, hf1, hbl1⟩ := br_cell hbr hlt
            clear hx hz hrz hb hbr
            go_wp2
            go_roundw
            case rel => exact ⟨k + 1, rfl, by omega, br_put BR6.out hlt rfl, s2_set X6.out (by omega), s2_set Z6.out (by omega), s2_set R6.out (by omega), B6.out.setCell (by show w.heap.size ≤ rb; omega) _⟩
            case measure => simp [intOf]; omega
          · have hk' : ¬ (k : Int) < (m : Int) := by omega
            obtain rfl : k = m := by omega
            have BR6 : Hid (BR wr rb (fun n => bitS (gA A B 0 n)) k k) := Lib.hid (bm_as (g := fun _ => false) hbr fun n _ => by simp [gA])
            have X6 := Lib.hid hx
            have Z6 := Lib.hid hz
            have R6 := Lib.hid hrz
            have B6 := Lib.hid hb
            clear hx hz hrz hb hbr
            go_wp2_with fail
            go_loopw [10] (fun i wx => ∃ a : Nat, i = .int .i64 a ∧ a ≤ k ∧ BR wx rb (fun n => bitS (gA A B a n)) k k ∧ S2 wx w.heap.size (bs h) (bs l) ∧ S2 wx (w.heap.size + 1) (bs h') (bs l') ∧ S2 wx (w.heap.size + 1 + 1) ⟨#[]⟩ ⟨#[]⟩ ∧ Below w.heap.size w wx) (fun i _ => k - (intOf i).toNat)
            case atStart => exact ⟨0, rfl, Nat.zero_le _, BR6.out, X6.out, Z6.out, R6.out, B6.out⟩
            case round =>
              obtain ⟨a, rfl, ha, hbr, hx, hz, hrz, hb⟩ := hrel
              rename World => wx
              have BR7 := Lib.hid hbr
              have X7 := Lib.hid hx
              have Z7 := Lib.hid hz
              have R7 := Lib.hid hrz
              have B7 := Lib.hid hb
              by_cases hak : a < k
              · have ha' : (a : Int) < (k : Int) := by omega
                have hwa : IntKind.i64.wrap ((a : Int) + 1) = ((a + 1 : Nat) : Int) := by rw [IntKind.wrap_i64]; omega
                have C1 := Lib.hid (HA.out a (by omega))
                obtain ⟨x, hxe⟩ : ∃ x, inS A a = x := ⟨_, rfl⟩
                have HXE := Lib.hid hxe
                rw [hxe] at C1
                clear hbr hx hz hrz hb hxe
                go_wp2_with fail
                go_loopw [11] (fun i wy => ∃ b : Nat, i = .int .i64 b ∧ b ≤ k ∧ BR wy rb (fun n => bitS (gB A B a b n)) k k ∧ S2 wy w.heap.size (bs h) (bs l) ∧ S2 wy (w.heap.size + 1) (bs h') (bs l') ∧ S2 wy (w.heap.size + 1 + 1) ⟨#[]⟩ ⟨#[]⟩ ∧ Below w.heap.size w wy) (fun i _ => k - (intOf i).toNat)
                case atStart => exact ⟨0, rfl, Nat.zero_le _, bm_as BR7.out (fun n _ => (gB_zero A B a n).symm), X7.out, Z7.out, R7.out, B7.out⟩
                case round =>
                  obtain ⟨b, rfl, hbk, hbr, hx, hz, hrz, hb⟩ := hrel
                  rename World => wy
                  have BR8 := Lib.hid hbr
                  have X8 := Lib.hid hx
                  have Z8 := Lib.hid hz
                  have R8 := Lib.hid hrz
                  have B8 := Lib.hid hb
                  obtain ⟨t, ht⟩ : ∃ t, a + b = t := ⟨_, rfl⟩
                  have hwt : IntKind.i64.wrap ((a : Int) + (b : Int)) = (t : Int) := by rw [IntKind.wrap_i64]; omega
                  have hwb : IntKind.i64.wrap ((b : Int) + 1) = ((b + 1 : Nat) : Int) := by rw [IntKind.wrap_i64]; omega
                  have HTT := Lib.hid ht
                  clear hbr hx hz hrz hb ht
                  by_cases htk : t < k
                  · have g0 : decide ((t : Int) < (k : Int)) = true := decide_eq_true (by omega)
                    have g1 : decide (t < k) = true := decide_eq_true htk
                    have htk' : (t : Int) < (k : Int) := by omega
                    have hbk2 : b < k := by have := HTT.out; omega
                    obtain ⟨x0, x1, x2, x3⟩ := id X8.out
                    go_wp2_with fail
                    refine (C1.out _).mono ?_
                    rintro e w9 ⟨rfl, hb9⟩
                    have BR9 := Lib.hid (br_on BR8.out hb9)
                    have X9 := Lib.hid (s2_on X8.out hb9)
                    have Z9 := Lib.hid (s2_on Z8.out hb9)
                    have R9 := Lib.hid (s2_on R8.out hb9)
                    have B9 := Lib.hid (below_on B8.out hb9)
                    clear x0 x1 x2 x3 hb9
                    cases x with
                    | false =>
                      have HN := Lib.hid (bm_as BR9.out fun n _ => gB_off HXE.out b n)
                      go_wp2
                      go_roundw
                      case rel => exact ⟨a + 1, rfl, by omega, HN.out, X9.out, Z9.out, R9.out, B9.out⟩
                      case measure => simp [intOf]; omega
                    | true =>
                      have C2 := Lib.hid (HB0.out b (by omega))
                      obtain ⟨y, hye⟩ : ∃ x, inS B b = x := ⟨_, rfl⟩
                      have HYE := Lib.hid hye
                      rw [hye] at C2
                      clear hye
                      obtain ⟨z0, z1, z2, z3⟩ := id Z9.out
                      go_wp2_with fail
                      refine (C2.out _).mono ?_
                      rintro e w10 ⟨rfl, hb10⟩
                      have hbr10 := br_on BR9.out hb10
                      have BR10 := Lib.hid hbr10
                      have X10 := Lib.hid (s2_on X9.out hb10)
                      have Z10 := Lib.hid (s2_on Z9.out hb10)
                      have R10 := Lib.hid (s2_on R9.out hb10)
                      have B10 := Lib.hid (below_on B9.out hb10)
                      obtain ⟨⟨v1, hv1⟩, hf1, hbl1⟩ := br_cell hbr10 htk
                      clear z0 z1 z2 z3 hb10 hbr10
                      cases y with
                      | false =>
                        have HN := Lib.hid (bm_as BR10.out fun n _ => gB_skip HYE.out n)
                        go_wp2
                        go_roundw
                        case rel => exact ⟨b + 1, rfl, by omega, HN.out, X10.out, Z10.out, R10.out, B10.out⟩
                        case measure => simp [intOf]; omega
                      | true =>
                        have HN : Hid (BR (w10.setCell ⟨rb, t, none⟩ (.int .u8 49)) rb (fun n => bitS (gB A B a (b + 1) n)) k k) := Lib.hid (bm_as (bm_put BR10.out htk) fun n _ => by rw [← HTT.out]; exact gB_put HXE.out HYE.out n)
                        go_wp2
                        go_roundw
                        case rel => exact ⟨b + 1, rfl, by omega, HN.out, s2_set X10.out (by omega), s2_set Z10.out (by omega), s2_set R10.out (by omega), B10.out.setCell (by show w.heap.size ≤ rb; omega) _⟩
                        case measure => simp [intOf]; omega
                  · have g0 : decide ((t : Int) < (k : Int)) = false := decide_eq_false (by omega)
                    have g1 : decide (t < k) = false := decide_eq_false htk
                    have HN := Lib.hid (bm_as BR8.out fun n q => gB_end (a := A) (b := B) (k := a) (j := b) (m := k) (by have := HTT.out; omega) q)
                    go_wp2
                    go_roundw
                    case rel => exact ⟨a + 1, rfl, by omega, HN.out, X8.out, Z8.out, R8.out, B8.out⟩
                    case measure => simp [intOf]; omega
              · have ha' : ¬ (a : Int) < (k : Int) := by omega
                obtain rfl : a = k := by omega
                have hrow := br_row (bm_as hbr fun n q => gA_sum q)
                rw [HLB.out] at hrow
                have HROW := Lib.hid hrow
                have hsl1 := slice_upto rb N a (Nat.le_of_lt hNm)
                have hsl2 := slice_from rb N a hNm
                rw [HMN.out] at hsl2
                have hcv1 : ∀ W, RowB W rb lb → (convert 37 9 (.slice (some ⟨rb, 0, none⟩) N a)).run Tryd.prog W = .ok (.string (bs X0)) W := fun W hW => conv_upto hW (by rw [HLN.out]; omega) HHT.out
                have hcv2 : ∀ W, RowB W rb lb → (convert 37 9 (.slice (some ⟨rb, N, none⟩) p p)).run Tryd.prog W = .ok (.string (bs Y0)) W := fun W hW => conv_from hW (by rw [HLN.out, ← HMN.out]; omega) HLT.out
                clear hbr hrow hx hz hrz hb
                go_upto_region 18 with fail
                refine wp_region_held_drew (S := (fun w' => RowB w' rb lb)) (by kernel_rfl) ?_ (fun hHeld => ?_)
                · try dsimp only
                  first | (refine rowb_on HROW.out ?_; go_grown; done) | exact rowb_set (rowb_set (rowb_on HROW.out hb05) (by omega)) (by omega)
                refine wpAnyH_take (i := 0) (oi := { dst := some 95, op := Go.Op.move (Go.Operand.tmp 8), type := 37, pos := "l7_sets.go:253", after := #[], guard := none }) (v := ?_) rfl (by kernel_rfl) (by kernel_rfl) (by kernel_rfl) (fun _ _ _ h => h) (Or.inl ⟨by rfl, ?_⟩) (by assumption) ?_
                rotate_left
                · (intro w hSw; (try dsimp only at hSw); first | (go_simp; done) | (go_simp; with_reducible rfl))
                try simp only [Act.put, List.setIfInBounds_toArray, List.set_cons_zero, List.set_cons_succ]
                refine wpAnyH_take (i := 1) (oi := { dst := some 96, op := Go.Op.move (Go.Operand.tmp 7), type := 3, pos := "l7_sets.go:253", after := #[], guard := none }) (v := ?_) rfl (by kernel_rfl) (by kernel_rfl) (by kernel_rfl) (fun _ _ _ h => h) (Or.inl ⟨by rfl, ?_⟩) (by assumption) ?_
                rotate_left
                · (intro w hSw; (try dsimp only at hSw); first | (go_simp; done) | (go_simp; with_reducible rfl))
                try simp only [Act.put, List.setIfInBounds_toArray, List.set_cons_zero, List.set_cons_succ]
                refine wpAnyH_take (i := 2) (oi := { dst := some 97, op := Go.Op.slice 37 (Go.Operand.tmp 95) none (some (Go.Operand.tmp 96)) none, type := 37, pos := "l7_sets.go:253", after := #[{ on := 0, ground := Go.Ground.data }, { on := 1, ground := Go.Ground.data }], guard := none }) (v := ?_) rfl (by kernel_rfl) (by kernel_rfl) (by kernel_rfl) (fun _ _ _ h => h) (Or.inl ⟨by rfl, ?_⟩) (by assumption) ?_
                rotate_left
                · (intro w hSw; (try dsimp only at hSw); first | (go_simp; done) | (go_simp; with_reducible rfl))
                try simp only [Act.put, List.setIfInBounds_toArray, List.set_cons_zero, List.set_cons_succ]
                refine wpAnyH_take (i := 3) (oi := { dst := some 98, op := Go.Op.convert 37 9 (Go.Operand.tmp 97), type := 9, pos := "l7_sets.go:253", after := #[{ on := 2, ground := Go.Ground.data }], guard := none }) (v := ?_) rfl (by kernel_rfl) (by kernel_rfl) (by kernel_rfl) (fun _ _ _ h => h) (Or.inl ⟨by rfl, ?_⟩) (by assumption) ?_
                rotate_left
                · (intro w hSw; (try dsimp only at hSw); first | (go_simp; done) | (go_simp; with_reducible rfl))
                try simp only [Act.put, List.setIfInBounds_toArray, List.set_cons_zero, List.set_cons_succ]
                refine wpAnyH_take (i := 4) (oi := { dst := some 99, op := Go.Op.move (Go.Operand.tmp 8), type := 37, pos := "l7_sets.go:253", after := #[], guard := none }) (v := ?_) rfl (by kernel_rfl) (by kernel_rfl) (by kernel_rfl) (fun _ _ _ h => h) (Or.inl ⟨by rfl, ?_⟩) (by assumption) ?_
                rotate_left
                · (intro w hSw; (try dsimp only at hSw); first | (go_simp; done) | (go_simp; with_reducible rfl))
                try simp only [Act.put, List.setIfInBounds_toArray, List.set_cons_zero, List.set_cons_succ]
                refine wpAnyH_take (i := 5) (oi := { dst := some 100, op := Go.Op.move (Go.Operand.tmp 7), type := 3, pos := "l7_sets.go:253", after := #[], guard := none }) (v := ?_) rfl (by kernel_rfl) (by kernel_rfl) (by kernel_rfl) (fun _ _ _ h => h) (Or.inl ⟨by rfl, ?_⟩) (by assumption) ?_
                rotate_left
                · (intro w hSw; (try dsimp only at hSw); first | (go_simp; done) | (go_simp; with_reducible rfl))
                try simp only [Act.put, List.setIfInBounds_toArray, List.set_cons_zero, List.set_cons_succ]
                refine wpAnyH_take (i := 6) (oi := { dst := some 101, op := Go.Op.slice 37 (Go.Operand.tmp 99) (some (Go.Operand.tmp 100)) none none, type := 37, pos := "l7_sets.go:253", after := #[{ on := 4, ground := Go.Ground.data }, { on := 5, ground := Go.Ground.data }], guard := none }) (v := ?_) rfl (by kernel_rfl) (by kernel_rfl) (by kernel_rfl) (fun _ _ _ h => h) (Or.inl ⟨by rfl, ?_⟩) (by assumption) ?_
                rotate_left
                · (intro w hSw; (try dsimp only at hSw); first | (go_simp; done) | (go_simp; with_reducible rfl))
                try simp only [Act.put, List.setIfInBounds_toArray, List.set_cons_zero, List.set_cons_succ]
                refine wpAnyH_take (i := 7) (oi := { dst := some 102, op := Go.Op.convert 37 9 (Go.Operand.tmp 101), type := 9, pos := "l7_sets.go:253", after := #[{ on := 6, ground := Go.Ground.data }], guard := none }) (v := ?_) rfl (by kernel_rfl) (by kernel_rfl) (by kernel_rfl) (fun _ _ _ h => h) (Or.inl ⟨by rfl, ?_⟩) (by assumption) ?_
                rotate_left
                · (intro w hSw; (try dsimp only at hSw); first | (go_simp; done) | (go_simp; with_reducible rfl))
                try simp only [Act.put, List.setIfInBounds_toArray, List.set_cons_zero, List.set_cons_succ]
                refine wpAnyH_ready (rs := [8]) (by kernel_rfl) (by simp) ?_
                refine AllReadyH.cons (o := { dst := some 103, op := Go.Op.call { callee := Go.Callee.value (Go.Operand.func 46), args := #[Go.Operand.tmp 98, Go.Operand.tmp 102], argTypes := #[9, 9] }, type := 26, pos := "l7_sets.go:253", after := #[{ on := 3, ground := Go.Ground.data }, { on := 7, ground := Go.Ground.data }], guard := none }) rfl (fun K hK => ?_) AllReadyH.nil
                go_simp
                (go_at_call 46; refine (HR.out _).mono ?_; rintro e w5 ⟨rfl, hb5⟩; have hb05 := below_on (w := wx) (by go_grown) hb5; have R9 := s2_on R7.out hb05; obtain ⟨a0, a1, a2, a3⟩ := id R9)
                (try go_wp2_with fail)
                refine hK.out _ _ ?_ (fun hHeld => ?_)
                · try dsimp only
                  first | (refine rowb_on HROW.out ?_; go_grown; done) | exact rowb_set (rowb_set (rowb_on HROW.out hb05) (by omega)) (by omega)
                clear hK K
                try simp only [Act.put, List.setIfInBounds_toArray, List.set_cons_zero, List.set_cons_succ]
                refine wpAnyH_take (i := 9) (oi := { dst := some 104, op := Go.Op.extract (Go.Operand.tmp 103) 0, type := 25, pos := "l7_sets.go:253", after := #[{ on := 8, ground := Go.Ground.data }], guard := none }) (v := ?_) rfl (by kernel_rfl) (by kernel_rfl) (by kernel_rfl) (fun _ _ _ h => h) (Or.inl ⟨by rfl, ?_⟩) (by assumption) ?_
                rotate_left
                · (intro w hSw; (try dsimp only at hSw); first | (go_simp; done) | (go_simp; with_reducible rfl))
                try simp only [Act.put, List.setIfInBounds_toArray, List.set_cons_zero, List.set_cons_succ]
                refine wpAnyH_take (i := 10) (oi := { dst := some 105, op := Go.Op.extract (Go.Operand.tmp 103) 1, type := 4, pos := "l7_sets.go:253", after := #[{ on := 8, ground := Go.Ground.data }], guard := none }) (v := ?_) rfl (by kernel_rfl) (by kernel_rfl) (by kernel_rfl) (fun _ _ _ h => h) (Or.inl ⟨by rfl, ?_⟩) (by assumption) ?_
                rotate_left
                · (intro w hSw; (try dsimp only at hSw); first | (go_simp; done) | (go_simp; with_reducible rfl))
                try simp only [Act.put, List.setIfInBounds_toArray, List.set_cons_zero, List.set_cons_succ]
                refine wpAnyH_ready (rs := [11]) (by kernel_rfl) (by simp) ?_
                refine AllReadyH.cons (o := { dst := none, op := Go.Op.store 25 (Go.Operand.tmp 4) (Go.Operand.tmp 104), type := 0, pos := "l7_sets.go:253", after := #[{ on := 9, ground := Go.Ground.data }, { on := 8, ground := Go.Ground.chain }, { on := 0, ground := Go.Ground.phase }, { on := 1, ground := Go.Ground.phase }, { on := 2, ground := Go.Ground.phase }, { on := 3, ground := Go.Ground.phase }, { on := 4, ground := Go.Ground.phase }, { on := 5, ground := Go.Ground.phase }, { on := 6, ground := Go.Ground.phase }, { on := 7, ground := Go.Ground.phase }, { on := 8, ground := Go.Ground.phase }, { on := 9, ground := Go.Ground.phase }, { on := 10, ground := Go.Ground.phase }], guard := none }) rfl (fun K hK => ?_) AllReadyH.nil
                go_simp
                refine hK.out _ _ ?_ (fun hHeld => ?_)
                · try dsimp only
                  first | (refine rowb_on HROW.out ?_; go_grown; done) | exact rowb_set (rowb_set (rowb_on HROW.out hb05) (by omega)) (by omega)
                clear hK K
                try simp only [Act.put, List.setIfInBounds_toArray, List.set_cons_zero, List.set_cons_succ]
                refine wpAnyH_take (i := 12) (oi := { dst := some 5, op := Go.Op.assign (Go.Operand.tmp 105), type := 4, pos := "l7_sets.go:253", after := #[{ on := 10, ground := Go.Ground.data }, { on := 11, ground := Go.Ground.chain }, { on := 0, ground := Go.Ground.phase }, { on := 1, ground := Go.Ground.phase }, { on := 2, ground := Go.Ground.phase }, { on := 3, ground := Go.Ground.phase }, { on := 4, ground := Go.Ground.phase }, { on := 5, ground := Go.Ground.phase }, { on := 6, ground := Go.Ground.phase }, { on := 7, ground := Go.Ground.phase }, { on := 8, ground := Go.Ground.phase }, { on := 9, ground := Go.Ground.phase }, { on := 10, ground := Go.Ground.phase }, { on := 11, ground := Go.Ground.phase }], guard := none }) (v := ?_) rfl (by kernel_rfl) (by kernel_rfl) (by kernel_rfl) (fun _ _ _ h => h) (Or.inl ⟨by rfl, ?_⟩) (by assumption) ?_
                rotate_left
                · (intro w hSw; (try dsimp only at hSw); first | (go_simp; done) | (go_simp; with_reducible rfl))
                try simp only [Act.put, List.setIfInBounds_toArray, List.set_cons_zero, List.set_cons_succ]
                refine wpAnyH_done (by kernel_rfl) ?_ _
                go_wp2
                generalize hW8 : World.setCell _ _ _ = W8
                obtain ⟨⟨_, r1, r2, _⟩, _, _, hb8⟩ := s2_put hW8 _ _ R9
                refine bodyPost_ret (v := .tuple #[.agg #[.string (bs r.1.1), .string (bs r.1.2)], .bool r.2]) (by simp [results, Tryd.results30, go_sem, r1, r2]) rfl ⟨by rw [HF0.out], ?_⟩
                exact below_on (hb8 w (below_on B7.out hb05) hne) (by go_grown)

end Go.Proofs.YtpheihejgnlanaaDoor
