/- The model's l7Both, UnionSets, MeetSets. -/
import Derived.Test.YtmhpjaaffpomnaaDoorSdE
namespace Go.Proofs.YtmhpjaaffpomnaaDoor
open Go.RowKit

set_option maxHeartbeats 400000 in
theorem l7Bit_any (b : Bool) (w : World) :
    Calls Tryd.prog 64 #[.bool b] w fun e w' => e = .returned (.int .u8 ((bitS b).toNat : Int)) ∧ w = w' := by
  cases b
  all_goals
    go_enter Tryd.func64, Tryd.ntmps64
    go_wp2
    go_ret
    exact ⟨rfl, rfl⟩

/-- A store into another block. -/
theorem s2_set {W : World} {b c j : Nat} {x y : ByteArray} {v : Value} (h : S2 W b x y) (hne : c ≠ b) : S2 (W.setCell ⟨c, j, none⟩ v) b x y := by
  obtain ⟨z0, z1, z2, z3⟩ := h
  exact ⟨by simpa [World.setCell] using z0, by rw [World.cell?_setCell_far _ _ _ _ hne]; exact z1, by rw [World.cell?_setCell_far _ _ _ _ hne]; exact z2, fun o => by simpa using z3 o⟩
theorem rowb_set {W : World} {b c j : Nat} {l : List UInt8} {v : Value} (h : RowB W b l) (hne : c ≠ b) : RowB (W.setCell ⟨c, j, none⟩ v) b l :=
  ⟨by simpa [World.setCell] using h.1, fun i x hx => by rw [World.cell?_setCell_far _ _ _ _ hne]; exact h.2 i x hx⟩
/-- The model's choice. -/
def bothB (all x y : Bool) : Bool := (x && y) || (!all && (x || y))

set_option maxRecDepth 10000 in
set_option maxHeartbeats 4000000 in
theorem l7Both_any (h l h' l' : List UInt8) (all : Bool) (w : World) (hv : svS h l = true) (hv' : svS h' l' = true) :
    Calls Tryd.prog 49 #[.agg #[.string (bs h), .string (bs l)], .agg #[.string (bs h'), .string (bs l')], .bool all] w fun e w' => e = .returned (.tuple #[.agg #[.string (bs (resA (fun n => bitS (bothB all (inS (atS h l) n) (inS (atS h' l') n)))).1.1), .string (bs (resA (fun n => bitS (bothB all (inS (atS h l) n) (inS (atS h' l') n)))).1.2)], .bool (resA (fun n => bitS (bothB all (inS (atS h l) n) (inS (atS h' l') n)))).2]) ∧ Below w.heap.size w w' := by
  obtain ⟨q1, q2, q3, q4, q5, q6⟩ := svS_parts hv
  obtain ⟨p1, p2, p3, p4, p5, p6⟩ := svS_parts hv'
  obtain ⟨c1, c2⟩ := comb_per (g := bothB all) (h := h) (h' := h') q6 p6
  have HA := Lib.hid fun (n : Nat) (hn : n ≤ 9223372036854775807) w => l7Has_any h l n w q6 (by omega) (by omega) hn
  have HB0 := Lib.hid fun (n : Nat) (hn : n ≤ 9223372036854775807) w => l7Has_any h' l' n w p6 (by omega) (by omega) hn
  obtain ⟨f, hf⟩ : ∃ f : Nat → Bool, (fun n => bothB all (inS (atS h l) n) (inS (atS h' l') n)) = f := ⟨_, rfl⟩
  have hfn : ∀ n, bothB all (inS (atS h l) n) (inS (atS h' l') n) = f n := fun n => by rw [← hf]
  have HFN := Lib.hid hfn
  simp only [hfn] at c2 ⊢
  have hs1 := bs_size h
  have hs2 := bs_size h'
  have hs3 := bs_size l
  have hs4 := bs_size l'
  have hcl : lcL2 l l' ≤ 57600 := Nat.le_trans (lcm_le _ _) (Nat.le_trans (Nat.mul_le_mul q5 p5) (by omega))
  have HR : Hid (lcL2 l l' = l.length / Nat.gcd l.length l'.length * l'.length) := Lib.hid rfl
  obtain ⟨H, hH⟩ : ∃ k, h.length = k := ⟨_, rfl⟩
  obtain ⟨H', hH'⟩ : ∃ k, h'.length = k := ⟨_, rfl⟩
  obtain ⟨L, hL⟩ : ∃ k, l.length = k := ⟨_, rfl⟩
  obtain ⟨L', hL'⟩ : ∃ k, l'.length = k := ⟨_, rfl⟩
  rw [hL, hL'] at HR
  rw [hH] at hs1
  rw [hH'] at hs2
  rw [hL] at hs3
  rw [hL'] at hs4
  obtain ⟨N, hN⟩ : ∃ k, max H H' = k := ⟨_, rfl⟩
  have hmax : max (H : Int) (H' : Int) = (N : Int) := by omega
  have HG := Lib.hid fun w => l1Gcd_any (L : Int) (L' : Int) w (by omega) (by omega) (by omega) (by omega)
  obtain ⟨g, hg⟩ : ∃ g, Nat.gcd L L' = g := ⟨_, rfl⟩
  have hg0 : 0 < g := by rw [← hg]; exact Nat.gcd_pos_of_pos_left _ (by omega)
  have hgg : (Int.gcd (L : Int) (L' : Int)) = g := by rw [← hg]; rfl
  rw [hgg] at HG
  rw [hg] at HR
  obtain ⟨d, hd⟩ : ∃ d, L / g = d := ⟨_, rfl⟩
  have hdl : d ≤ L := by rw [← hd]; exact Nat.div_le_self _ _
  have ht : (L : Int).tdiv (g : Int) = (d : Int) := by rw [tdiv_n2, hd]
  obtain ⟨p, hp⟩ : ∃ r, d * L' = r := ⟨_, rfl⟩
  have hmp : (d : Int) * (L' : Int) = (p : Int) := by rw [← hp]; exact (Int.natCast_mul d L').symm
  rw [hd, hp] at HR
  rw [hH, hH', hN, HR.out] at c2
  rw [HR.out] at c1 hcl
  have hg1 : (g : Int) ≠ 0 := by omega
  have hg2 : g ≠ 0 := by omega
  have hwd : IntKind.i64.wrap (d : Int) = (d : Int) := by rw [IntKind.wrap_i64]; omega
  have hwp : IntKind.i64.wrap (p : Int) = (p : Int) := by rw [IntKind.wrap_i64]; omega
  obtain ⟨m, hm⟩ : ∃ m, N + p = m := ⟨_, rfl⟩
  have hmb : m ≤ 100000 := by omega
  have hNm : N < m := by omega
  have hwm : IntKind.i64.wrap ((N : Int) + (p : Int)) = (m : Int) := by rw [IntKind.wrap_i64]; omega
  obtain ⟨M, hmk, hMs⟩ := br_new m (by omega)
  obtain ⟨HT, LT⟩ := rng_take f N p
  obtain ⟨b1, b2⟩ := raw_bits (f := f) (N := N) (p := p)
  have hraw := raw_at c1 c2
  obtain ⟨A, hA⟩ : ∃ X, rawH (fun n => bitS (f n)) N = X := ⟨_, rfl⟩
  obtain ⟨B, hB⟩ : ∃ X, rawL (fun n => bitS (f n)) N p = X := ⟨_, rfl⟩
  have hAl : A.length = N := by rw [← hA]; simp [rawH]
  have hBl : B.length = p := by rw [← hB]; simp [rawL]
  rw [hA, hB] at hraw
  rw [hA] at b1 HT
  rw [hB] at b2 LT
  rw [hm] at HT LT
  have HRD := Lib.hid fun w => l7Result_any A B w (fun e => by rw [e] at hBl; simp at hBl; omega) b1 b2 (by omega) (by omega)
  rw [hraw] at HRD
  obtain ⟨r, hr⟩ : ∃ r, resA (fun n => bitS (f n)) = r := ⟨_, rfl⟩
  rw [hr] at HRD
  rw [hr]
  have HLN : Hid (((List.range m).map fun i => bitS (f i)).length = m) := Lib.hid (by simp)
  generalize hl : ((List.range m).map fun i => bitS (f i)) = lb at HT LT HLN
  have HHT := Lib.hid HT
  have HLT := Lib.hid LT
  have HLB := Lib.hid hl
  have HMS := Lib.hid hMs
  have hmN : m - N = p := by omega
  have HMN := Lib.hid hmN
  have HAF : Hid (∀ k x y, inS (atS h l) k = x → inS (atS h' l') k = y → f k = bothB all x y) := Lib.hid fun k x y e1 e2 => by rw [← HFN.out, e1, e2]
  clear q1 q2 q3 q4 q5 q6 p1 p2 p3 p4 p5 p6 c1 c2 hf hfn hH hH' hL hL' hN hg hgg hd hp hm HT LT b1 b2 hraw hA hB hAl hBl hr hl hMs hmN hv hv' hg0 hcl hdl
  go_enter Tryd.func49, Tryd.ntmps49
  go_wp2_with fail
  generalize hW0 : World.alloc w _ = W0
  obtain ⟨hx, hsx, hwx⟩ := s2_new hW0
  clear hW0
  generalize hW : World.alloc W0 _ = W1
  obtain ⟨hz, hsz, hwz⟩ := s2_new hW
  rw [hsx] at hz
  clear hW
  generalize hW : World.alloc W1 _ = W2
  obtain ⟨hrr, hsr, hwr⟩ := s2_new hW
  rw [hsz, hsx] at hrr
  clear hW
  have X2 := Lib.hid (s2_on hx (below_on hwz hwr))
  have Z2 := Lib.hid (s2_on hz hwr)
  have R2 := Lib.hid hrr
  have B2 := Lib.hid (below_on hwx (below_on hwz hwr))
  have S2s : W2.heap.size = w.heap.size + 1 + 1 + 1 := by omega
  clear hx hz hrr hwx hwz hwr hsx hsz hsr
  obtain ⟨x0, x1, x2, x3⟩ := id X2.out
  obtain ⟨z0, z1, z2, z3⟩ := id Z2.out
  go_upto_region 2 with fail
  clear x0 x1 x2 x3 z0 z1 z2 z3
  refine wp_region_held_drew (S := (fun w' => (w'.cell? ⟨w.heap.size, 0, none⟩ = some (.string (bs h)) ∧ w'.cell? ⟨w.heap.size, 1, none⟩ = some (.string (bs l))) ∧ w'.cell? ⟨w.heap.size + 1, 0, none⟩ = some (.string (bs h')) ∧ w'.cell? ⟨w.heap.size + 1, 1, none⟩ = some (.string (bs l')))) (by kernel_rfl) ?_ (fun hHeld => ?_)
  · try dsimp only
    exact ⟨s2_keep X2.out (by go_grown), s2_keep Z2.out (by go_grown)⟩
  refine wpAnyH_take (i := 0) (oi := { dst := some 21, op := Go.Op.fieldAddr 26 (Go.Operand.tmp 3) 1, type := 0, pos := "l7_sets.go:105", after := #[], guard := none }) (v := ?_) rfl (by kernel_rfl) (by kernel_rfl) (by kernel_rfl) (fun _ _ _ h => h) (Or.inl ⟨by rfl, ?_⟩) (by assumption) ?_
  rotate_left
  · (intro w hSw; (try dsimp only at hSw); first | (go_simp; done) | (go_simp; with_reducible rfl))
  try simp only [Act.put, List.setIfInBounds_toArray, List.set_cons_zero, List.set_cons_succ]
  refine wpAnyH_take (i := 1) (oi := { dst := some 22, op := Go.Op.load 9 (Go.Operand.tmp 21), type := 9, pos := "l7_sets.go:105", after := #[{ on := 0, ground := Go.Ground.data }], guard := none }) (v := ?_) rfl (by kernel_rfl) (by kernel_rfl) (by kernel_rfl) (fun _ _ _ h => h) (Or.inl ⟨by rfl, ?_⟩) (by assumption) ?_
  rotate_left
  · (intro w hSw; (try dsimp only at hSw); first | (go_simp; done) | (go_simp; with_reducible rfl))
  try simp only [Act.put, List.setIfInBounds_toArray, List.set_cons_zero, List.set_cons_succ]
  refine wpAnyH_take (i := 2) (oi := { dst := some 23, op := Go.Op.call { callee := Go.Callee.builtin Go.Builtin.len, args := #[Go.Operand.tmp 22], argTypes := #[9] }, type := 3, pos := "l7_sets.go:105", after := #[{ on := 1, ground := Go.Ground.data }], guard := none }) (v := ?_) rfl (by kernel_rfl) (by kernel_rfl) (by kernel_rfl) (fun _ _ _ h => h) (Or.inl ⟨by rfl, ?_⟩) (by assumption) ?_
  rotate_left
  · (intro w hSw; (try dsimp only at hSw); first | (go_simp; done) | (go_simp; with_reducible rfl))
  try simp only [Act.put, List.setIfInBounds_toArray, List.set_cons_zero, List.set_cons_succ]
  refine wpAnyH_take (i := 3) (oi := { dst := some 24, op := Go.Op.fieldAddr 26 (Go.Operand.tmp 3) 1, type := 0, pos := "l7_sets.go:105", after := #[], guard := none }) (v := ?_) rfl (by kernel_rfl) (by kernel_rfl) (by kernel_rfl) (fun _ _ _ h => h) (Or.inl ⟨by rfl, ?_⟩) (by assumption) ?_
  rotate_left
  · (intro w hSw; (try dsimp only at hSw); first | (go_simp; done) | (go_simp; with_reducible rfl))
  try simp only [Act.put, List.setIfInBounds_toArray, List.set_cons_zero, List.set_cons_succ]
  refine wpAnyH_take (i := 4) (oi := { dst := some 25, op := Go.Op.load 9 (Go.Operand.tmp 24), type := 9, pos := "l7_sets.go:105", after := #[{ on := 3, ground := Go.Ground.data }], guard := none }) (v := ?_) rfl (by kernel_rfl) (by kernel_rfl) (by kernel_rfl) (fun _ _ _ h => h) (Or.inl ⟨by rfl, ?_⟩) (by assumption) ?_
  rotate_left
  · (intro w hSw; (try dsimp only at hSw); first | (go_simp; done) | (go_simp; with_reducible rfl))
  try simp only [Act.put, List.setIfInBounds_toArray, List.set_cons_zero, List.set_cons_succ]
  refine wpAnyH_take (i := 5) (oi := { dst := some 26, op := Go.Op.call { callee := Go.Callee.builtin Go.Builtin.len, args := #[Go.Operand.tmp 25], argTypes := #[9] }, type := 3, pos := "l7_sets.go:105", after := #[{ on := 4, ground := Go.Ground.data }], guard := none }) (v := ?_) rfl (by kernel_rfl) (by kernel_rfl) (by kernel_rfl) (fun _ _ _ h => h) (Or.inl ⟨by rfl, ?_⟩) (by assumption) ?_
  rotate_left
  · (intro w hSw; (try dsimp only at hSw); first | (go_simp; done) | (go_simp; with_reducible rfl))
  try simp only [Act.put, List.setIfInBounds_toArray, List.set_cons_zero, List.set_cons_succ]
  refine wpAnyH_take (i := 6) (oi := { dst := some 27, op := Go.Op.fieldAddr 26 (Go.Operand.tmp 4) 1, type := 0, pos := "l7_sets.go:105", after := #[], guard := none }) (v := ?_) rfl (by kernel_rfl) (by kernel_rfl) (by kernel_rfl) (fun _ _ _ h => h) (Or.inl ⟨by rfl, ?_⟩) (by assumption) ?_
  rotate_left
  · (intro w hSw; (try dsimp only at hSw); first | (go_simp; done) | (go_simp; with_reducible rfl))
  try simp only [Act.put, List.setIfInBounds_toArray, List.set_cons_zero, List.set_cons_succ]
  refine wpAnyH_take (i := 7) (oi := { dst := some 28, op := Go.Op.load 9 (Go.Operand.tmp 27), type := 9, pos := "l7_sets.go:105", after := #[{ on := 6, ground := Go.Ground.data }], guard := none }) (v := ?_) rfl (by kernel_rfl) (by kernel_rfl) (by kernel_rfl) (fun _ _ _ h => h) (Or.inl ⟨by rfl, ?_⟩) (by assumption) ?_
  rotate_left
  · (intro w hSw; (try dsimp only at hSw); first | (go_simp; done) | (go_simp; with_reducible rfl))
  try simp only [Act.put, List.setIfInBounds_toArray, List.set_cons_zero, List.set_cons_succ]
  refine wpAnyH_take (i := 8) (oi := { dst := some 29, op := Go.Op.call { callee := Go.Callee.builtin Go.Builtin.len, args := #[Go.Operand.tmp 28], argTypes := #[9] }, type := 3, pos := "l7_sets.go:105", after := #[{ on := 7, ground := Go.Ground.data }], guard := none }) (v := ?_) rfl (by kernel_rfl) (by kernel_rfl) (by kernel_rfl) (fun _ _ _ h => h) (Or.inl ⟨by rfl, ?_⟩) (by assumption) ?_
  rotate_left
  · (intro w hSw; (try dsimp only at hSw); first | (go_simp; done) | (go_simp; with_reducible rfl))
  try simp only [Act.put, List.setIfInBounds_toArray, List.set_cons_zero, List.set_cons_succ]
  refine wpAnyH_take (i := 11) (oi := { dst := some 32, op := Go.Op.fieldAddr 26 (Go.Operand.tmp 4) 1, type := 0, pos := "l7_sets.go:105", after := #[], guard := none }) (v := ?_) rfl (by kernel_rfl) (by kernel_rfl) (by kernel_rfl) (fun _ _ _ h => h) (Or.inl ⟨by rfl, ?_⟩) (by assumption) ?_
  rotate_left
  · (intro w hSw; (try dsimp only at hSw); first | (go_simp; done) | (go_simp; with_reducible rfl))
  try simp only [Act.put, List.setIfInBounds_toArray, List.set_cons_zero, List.set_cons_succ]
  refine wpAnyH_take (i := 12) (oi := { dst := some 33, op := Go.Op.load 9 (Go.Operand.tmp 32), type := 9, pos := "l7_sets.go:105", after := #[{ on := 11, ground := Go.Ground.data }], guard := none }) (v := ?_) rfl (by kernel_rfl) (by kernel_rfl) (by kernel_rfl) (fun _ _ _ h => h) (Or.inl ⟨by rfl, ?_⟩) (by assumption) ?_
  rotate_left
  · (intro w hSw; (try dsimp only at hSw); first | (go_simp; done) | (go_simp; with_reducible rfl))
  try simp only [Act.put, List.setIfInBounds_toArray, List.set_cons_zero, List.set_cons_succ]
  refine wpAnyH_take (i := 13) (oi := { dst := some 34, op := Go.Op.call { callee := Go.Callee.builtin Go.Builtin.len, args := #[Go.Operand.tmp 33], argTypes := #[9] }, type := 3, pos := "l7_sets.go:105", after := #[{ on := 12, ground := Go.Ground.data }], guard := none }) (v := ?_) rfl (by kernel_rfl) (by kernel_rfl) (by kernel_rfl) (fun _ _ _ h => h) (Or.inl ⟨by rfl, ?_⟩) (by assumption) ?_
  rotate_left
  · (intro w hSw; (try dsimp only at hSw); first | (go_simp; done) | (go_simp; with_reducible rfl))
  try simp only [Act.put, List.setIfInBounds_toArray, List.set_cons_zero, List.set_cons_succ]
  refine wpAnyH_ready (rs := [9]) (by kernel_rfl) (by simp) ?_
  refine AllReadyH.cons (o := { dst := some 30, op := Go.Op.call { callee := Go.Callee.value (Go.Operand.func 81), args := #[Go.Operand.tmp 26, Go.Operand.tmp 29], argTypes := #[3, 3] }, type := 3, pos := "l7_sets.go:105", after := #[{ on := 5, ground := Go.Ground.data }, { on := 8, ground := Go.Ground.data }], guard := none }) rfl (fun K hK => ?_) AllReadyH.nil
  go_simp
  (go_at_call 81; refine (HG.out _).mono ?_; rintro e w5 ⟨rfl, rfl⟩)
  (try go_wp2_with fail)
  refine hK.out _ _ ?_ (fun hHeld => ?_)
  · try dsimp only
    exact ⟨s2_keep X2.out (by go_grown), s2_keep Z2.out (by go_grown)⟩
  clear hK K
  try simp only [Act.put, List.setIfInBounds_toArray, List.set_cons_zero, List.set_cons_succ]
  refine wpAnyH_take (i := 10) (oi := { dst := some 31, op := Go.Op.binOp Go.BinOp.quo 3 (Go.Operand.tmp 23) (Go.Operand.tmp 30) 3, type := 3, pos := "l7_sets.go:105", after := #[{ on := 2, ground := Go.Ground.data }, { on := 9, ground := Go.Ground.data }], guard := none }) (v := ?_) rfl (by kernel_rfl) (by kernel_rfl) (by kernel_rfl) (fun _ _ _ h => h) (Or.inl ⟨by rfl, ?_⟩) (by assumption) ?_
  rotate_left
  · (intro w hSw; (try dsimp only at hSw); first | (go_simp; done) | (go_simp; with_reducible rfl))
  try simp only [Act.put, List.setIfInBounds_toArray, List.set_cons_zero, List.set_cons_succ]
  refine wpAnyH_take (i := 14) (oi := { dst := some 35, op := Go.Op.binOp Go.BinOp.mul 3 (Go.Operand.tmp 31) (Go.Operand.tmp 34) 3, type := 3, pos := "l7_sets.go:105", after := #[{ on := 10, ground := Go.Ground.data }, { on := 13, ground := Go.Ground.data }], guard := none }) (v := ?_) rfl (by kernel_rfl) (by kernel_rfl) (by kernel_rfl) (fun _ _ _ h => h) (Or.inl ⟨by rfl, ?_⟩) (by assumption) ?_
  rotate_left
  · (intro w hSw; (try dsimp only at hSw); first | (go_simp; done) | (go_simp; with_reducible rfl))
  try simp only [Act.put, List.setIfInBounds_toArray, List.set_cons_zero, List.set_cons_succ]
  refine wpAnyH_take (i := 15) (oi := { dst := some 9, op := Go.Op.assign (Go.Operand.tmp 35), type := 3, pos := "l7_sets.go:105", after := #[{ on := 14, ground := Go.Ground.data }, { on := 9, ground := Go.Ground.chain }, { on := 0, ground := Go.Ground.phase }, { on := 1, ground := Go.Ground.phase }, { on := 2, ground := Go.Ground.phase }, { on := 3, ground := Go.Ground.phase }, { on := 4, ground := Go.Ground.phase }, { on := 5, ground := Go.Ground.phase }, { on := 6, ground := Go.Ground.phase }, { on := 7, ground := Go.Ground.phase }, { on := 8, ground := Go.Ground.phase }, { on := 9, ground := Go.Ground.phase }, { on := 10, ground := Go.Ground.phase }, { on := 11, ground := Go.Ground.phase }, { on := 12, ground := Go.Ground.phase }, { on := 13, ground := Go.Ground.phase }, { on := 14, ground := Go.Ground.phase }], guard := none }) (v := ?_) rfl (by kernel_rfl) (by kernel_rfl) (by kernel_rfl) (fun _ _ _ h => h) (Or.inl ⟨by rfl, ?_⟩) (by assumption) ?_
  rotate_left
  · (intro w hSw; (try dsimp only at hSw); first | (go_simp; done) | (go_simp; with_reducible rfl))
  try simp only [Act.put, List.setIfInBounds_toArray, List.set_cons_zero, List.set_cons_succ]
  refine wpAnyH_done (by kernel_rfl) ?_ _
  generalize hWd : World.drew _ = Wd
  have hbd : Below W2.heap.size W2 Wd := by rw [← hWd]; go_grown
  have hsd : Wd.heap.size = w.heap.size + 1 + 1 + 1 := by rw [← hWd, ← S2s]; rfl
  clear hWd
  go_wp2_with fail
  generalize hW : World.alloc Wd _ = W3
  obtain ⟨hr0, hs3', hwW⟩ := heap_last hW
  rw [hsd] at hr0
  clear hW
  have X3 := Lib.hid (s2_on X2.out (below_on hbd hwW))
  have Z3 := Lib.hid (s2_on Z2.out (below_on hbd hwW))
  have R3 := Lib.hid (s2_on R2.out (below_on hbd hwW))
  have B3 := Lib.hid (below_on B2.out (below_on hbd hwW))
  have HBR : Hid (BR W3 (w.heap.size + 1 + 1 + 1) (fun i => bitS (f i)) m 0) := Lib.hid ⟨M, hr0, HMS.out, fun i h => absurd h (by omega)⟩
  clear hr0 hs3' hwW hbd hsd hmk
  go_loopw [11] (fun i wr => ∃ k : Nat, i = .int .i64 k ∧ k ≤ m ∧ BR wr (w.heap.size + 1 + 1 + 1) (fun i => bitS (f i)) m k ∧ S2 wr w.heap.size (bs h) (bs l) ∧ S2 wr (w.heap.size + 1) (bs h') (bs l') ∧ S2 wr (w.heap.size + 1 + 1) ⟨#[]⟩ ⟨#[]⟩ ∧ Below w.heap.size w wr) (fun i _ => m - (intOf i).toNat)
  case atStart => exact ⟨0, rfl, Nat.zero_le _, HBR.out, X3.out, Z3.out, R3.out, B3.out⟩
  case round =>
    obtain ⟨k, rfl, hk, hbr, hx, hz, hrz, hb⟩ := hrel
    by_cases hlt : k < m
    · have hk' : (k : Int) < (m : Int) := by omega
      have hwk : IntKind.i64.wrap ((k : Int) + 1) = ((k + 1 : Nat) : Int) := by rw [IntKind.wrap_i64]; omega
      have C1 := Lib.hid (HA.out k (by omega))
      have C2 := Lib.hid (HB0.out k (by omega))
      obtain ⟨x, hxe⟩ : ∃ x, inS (atS h l) k = x := ⟨_, rfl⟩
      obtain ⟨y, hye⟩ : ∃ x, inS (atS h' l') k = x := ⟨_, rfl⟩
      have HFK := Lib.hid (HAF.out k x y hxe hye)
      rw [hxe] at C1
      rw [hye] at C2
      clear hxe hye
      obtain ⟨x0, x1, x2, x3⟩ := id hx
      go_wp2_with fail
      refine (C1.out _).mono ?_
      rintro e w3 ⟨rfl, hb3⟩
      have hz3 := s2_on hz hb3
      clear x0 x1 x2 x3
      obtain ⟨z0, z1, z2, z3⟩ := id hz3
      go_wp2_with fail
      refine (C2.out _).mono ?_
      rintro e w4 ⟨rfl, hb4⟩
      have hb34 := below_on hb3 hb4
      have hbr4 := br_on hbr hb34
      have X4 := Lib.hid (s2_on hx hb34)
      have Z4 := Lib.hid (s2_on hz hb34)
      have R4 := Lib.hid (s2_on hrz hb34)
      have B4 := Lib.hid (below_on hb hb34)
      obtain ⟨⟨v1, hv1⟩, hf1, hbl1⟩ := br_cell hbr4 hlt
      have HBR4 := Lib.hid hbr4
      clear z0 z1 z2 z3 hz3 hb3 hb4 hb34 hbr hx hz hrz hb hbr4
      cases x <;> cases y <;> cases all
      all_goals
        go_wp2_with fail
        refine (l7Bit_any _ _).mono ?_
        rintro e w5 ⟨rfl, rfl⟩
        go_wp2
        go_roundw
        case rel =>
          refine ⟨k + 1, rfl, by omega, br_put HBR4.out hlt (by rw [HFK.out]; rfl), ?_, ?_, ?_, B4.out.setCell (by show w.heap.size ≤ w.heap.size + 1 + 1 + 1; omega) _⟩
          · exact s2_set X4.out (by omega)
          · exact s2_set Z4.out (by omega)
          · exact s2_set R4.out (by omega)
        case measure => simp [intOf]; omega
    · have hk' : ¬ (k : Int) < (m : Int) := by omega
      obtain rfl : k = m := by omega
      have hrow := br_row hbr
      rw [HLB.out] at hrow
      have HROW := Lib.hid hrow
      have hsl1 := slice_upto (w.heap.size + 1 + 1 + 1) N k (Nat.le_of_lt hNm)
      have hsl2 := slice_from (w.heap.size + 1 + 1 + 1) N k hNm
      rw [HMN.out] at hsl2
      have hcv1 : ∀ W, RowB W (w.heap.size + 1 + 1 + 1) lb → (convert 52 9 (.slice (some ⟨w.heap.size + 1 + 1 + 1, 0, none⟩) N k)).run Tryd.prog W = .ok (.string (bs A)) W := fun W hW => conv_upto hW (by rw [HLN.out]; omega) HHT.out
      have hcv2 : ∀ W, RowB W (w.heap.size + 1 + 1 + 1) lb → (convert 52 9 (.slice (some ⟨w.heap.size + 1 + 1 + 1, N, none⟩) p p)).run Tryd.prog W = .ok (.string (bs B)) W := fun W hW => conv_from hW (by rw [HLN.out, ← HMN.out]; omega) HLT.out
      have R5 := Lib.hid hrz
      have B5 := Lib.hid hb
      have hne : w.heap.size ≤ w.heap.size + 1 + 1 := by omega
      clear hbr hrow hx hz hrz hb
      go_wp2_with fail
      refine wp_region_held_drew (S := (fun w' => RowB w' (w.heap.size + 1 + 1 + 1) lb)) (by kernel_rfl) ?_ (fun hHeld => ?_)
      · try dsimp only
        first | (refine rowb_on HROW.out ?_; go_grown; done) | exact rowb_set (rowb_set (rowb_on HROW.out hb05) (by omega)) (by omega)
      refine wpAnyH_take (i := 0) (oi := { dst := some 70, op := Go.Op.move (Go.Operand.tmp 10), type := 52, pos := "l7_sets.go:112", after := #[], guard := none }) (v := ?_) rfl (by kernel_rfl) (by kernel_rfl) (by kernel_rfl) (fun _ _ _ h => h) (Or.inl ⟨by rfl, ?_⟩) (by assumption) ?_
      rotate_left
      · (intro w hSw; (try dsimp only at hSw); first | (go_simp; done) | (go_simp; with_reducible rfl))
      try simp only [Act.put, List.setIfInBounds_toArray, List.set_cons_zero, List.set_cons_succ]
      refine wpAnyH_take (i := 1) (oi := { dst := some 71, op := Go.Op.move (Go.Operand.tmp 8), type := 3, pos := "l7_sets.go:112", after := #[], guard := none }) (v := ?_) rfl (by kernel_rfl) (by kernel_rfl) (by kernel_rfl) (fun _ _ _ h => h) (Or.inl ⟨by rfl, ?_⟩) (by assumption) ?_
      rotate_left
      · (intro w hSw; (try dsimp only at hSw); first | (go_simp; done) | (go_simp; with_reducible rfl))
      try simp only [Act.put, List.setIfInBounds_toArray, List.set_cons_zero, List.set_cons_succ]
      refine wpAnyH_take (i := 2) (oi := { dst := some 72, op := Go.Op.slice 52 (Go.Operand.tmp 70) none (some (Go.Operand.tmp 71)) none, type := 52, pos := "l7_sets.go:112", after := #[{ on := 0, ground := Go.Ground.data }, { on := 1, ground := Go.Ground.data }], guard := none }) (v := ?_) rfl (by kernel_rfl) (by kernel_rfl) (by kernel_rfl) (fun _ _ _ h => h) (Or.inl ⟨by rfl, ?_⟩) (by assumption) ?_
      rotate_left
      · (intro w hSw; (try dsimp only at hSw); first | (go_simp; done) | (go_simp; with_reducible rfl))
      try simp only [Act.put, List.setIfInBounds_toArray, List.set_cons_zero, List.set_cons_succ]
      refine wpAnyH_take (i := 3) (oi := { dst := some 73, op := Go.Op.convert 52 9 (Go.Operand.tmp 72), type := 9, pos := "l7_sets.go:112", after := #[{ on := 2, ground := Go.Ground.data }], guard := none }) (v := ?_) rfl (by kernel_rfl) (by kernel_rfl) (by kernel_rfl) (fun _ _ _ h => h) (Or.inl ⟨by rfl, ?_⟩) (by assumption) ?_
      rotate_left
      · (intro w hSw; (try dsimp only at hSw); first | (go_simp; done) | (go_simp; with_reducible rfl))
      try simp only [Act.put, List.setIfInBounds_toArray, List.set_cons_zero, List.set_cons_succ]
      refine wpAnyH_take (i := 4) (oi := { dst := some 74, op := Go.Op.move (Go.Operand.tmp 10), type := 52, pos := "l7_sets.go:112", after := #[], guard := none }) (v := ?_) rfl (by kernel_rfl) (by kernel_rfl) (by kernel_rfl) (fun _ _ _ h => h) (Or.inl ⟨by rfl, ?_⟩) (by assumption) ?_
      rotate_left
      · (intro w hSw; (try dsimp only at hSw); first | (go_simp; done) | (go_simp; with_reducible rfl))
      try simp only [Act.put, List.setIfInBounds_toArray, List.set_cons_zero, List.set_cons_succ]
      refine wpAnyH_take (i := 5) (oi := { dst := some 75, op := Go.Op.move (Go.Operand.tmp 8), type := 3, pos := "l7_sets.go:112", after := #[], guard := none }) (v := ?_) rfl (by kernel_rfl) (by kernel_rfl) (by kernel_rfl) (fun _ _ _ h => h) (Or.inl ⟨by rfl, ?_⟩) (by assumption) ?_
      rotate_left
      · (intro w hSw; (try dsimp only at hSw); first | (go_simp; done) | (go_simp; with_reducible rfl))
      try simp only [Act.put, List.setIfInBounds_toArray, List.set_cons_zero, List.set_cons_succ]
      refine wpAnyH_take (i := 6) (oi := { dst := some 76, op := Go.Op.slice 52 (Go.Operand.tmp 74) (some (Go.Operand.tmp 75)) none none, type := 52, pos := "l7_sets.go:112", after := #[{ on := 4, ground := Go.Ground.data }, { on := 5, ground := Go.Ground.data }], guard := none }) (v := ?_) rfl (by kernel_rfl) (by kernel_rfl) (by kernel_rfl) (fun _ _ _ h => h) (Or.inl ⟨by rfl, ?_⟩) (by assumption) ?_
      rotate_left
      · (intro w hSw; (try dsimp only at hSw); first | (go_simp; done) | (go_simp; with_reducible rfl))
      try simp only [Act.put, List.setIfInBounds_toArray, List.set_cons_zero, List.set_cons_succ]
      refine wpAnyH_take (i := 7) (oi := { dst := some 77, op := Go.Op.convert 52 9 (Go.Operand.tmp 76), type := 9, pos := "l7_sets.go:112", after := #[{ on := 6, ground := Go.Ground.data }], guard := none }) (v := ?_) rfl (by kernel_rfl) (by kernel_rfl) (by kernel_rfl) (fun _ _ _ h => h) (Or.inl ⟨by rfl, ?_⟩) (by assumption) ?_
      rotate_left
      · (intro w hSw; (try dsimp only at hSw); first | (go_simp; done) | (go_simp; with_reducible rfl))
      try simp only [Act.put, List.setIfInBounds_toArray, List.set_cons_zero, List.set_cons_succ]
      refine wpAnyH_ready (rs := [8]) (by kernel_rfl) (by simp) ?_
      refine AllReadyH.cons (o := { dst := some 78, op := Go.Op.call { callee := Go.Callee.value (Go.Operand.func 44), args := #[Go.Operand.tmp 73, Go.Operand.tmp 77], argTypes := #[9, 9] }, type := 29, pos := "l7_sets.go:112", after := #[{ on := 3, ground := Go.Ground.data }, { on := 7, ground := Go.Ground.data }], guard := none }) rfl (fun K hK => ?_) AllReadyH.nil
      go_simp
      (go_at_call 44; refine (HRD.out _).mono ?_; rintro e w5 ⟨rfl, hb5⟩; have hb05 := below_on (w := wr) (by go_grown) hb5; have R6 := s2_on R5.out hb05; obtain ⟨a0, a1, a2, a3⟩ := id R6)
      (try go_wp2_with fail)
      refine hK.out _ _ ?_ (fun hHeld => ?_)
      · try dsimp only
        first | (refine rowb_on HROW.out ?_; go_grown; done) | exact rowb_set (rowb_set (rowb_on HROW.out hb05) (by omega)) (by omega)
      clear hK K
      try simp only [Act.put, List.setIfInBounds_toArray, List.set_cons_zero, List.set_cons_succ]
      refine wpAnyH_take (i := 9) (oi := { dst := some 79, op := Go.Op.extract (Go.Operand.tmp 78) 0, type := 26, pos := "l7_sets.go:112", after := #[{ on := 8, ground := Go.Ground.data }], guard := none }) (v := ?_) rfl (by kernel_rfl) (by kernel_rfl) (by kernel_rfl) (fun _ _ _ h => h) (Or.inl ⟨by rfl, ?_⟩) (by assumption) ?_
      rotate_left
      · (intro w hSw; (try dsimp only at hSw); first | (go_simp; done) | (go_simp; with_reducible rfl))
      try simp only [Act.put, List.setIfInBounds_toArray, List.set_cons_zero, List.set_cons_succ]
      refine wpAnyH_take (i := 10) (oi := { dst := some 80, op := Go.Op.extract (Go.Operand.tmp 78) 1, type := 4, pos := "l7_sets.go:112", after := #[{ on := 8, ground := Go.Ground.data }], guard := none }) (v := ?_) rfl (by kernel_rfl) (by kernel_rfl) (by kernel_rfl) (fun _ _ _ h => h) (Or.inl ⟨by rfl, ?_⟩) (by assumption) ?_
      rotate_left
      · (intro w hSw; (try dsimp only at hSw); first | (go_simp; done) | (go_simp; with_reducible rfl))
      try simp only [Act.put, List.setIfInBounds_toArray, List.set_cons_zero, List.set_cons_succ]
      refine wpAnyH_ready (rs := [11]) (by kernel_rfl) (by simp) ?_
      refine AllReadyH.cons (o := { dst := none, op := Go.Op.store 26 (Go.Operand.tmp 6) (Go.Operand.tmp 79), type := 0, pos := "l7_sets.go:112", after := #[{ on := 9, ground := Go.Ground.data }, { on := 8, ground := Go.Ground.chain }, { on := 0, ground := Go.Ground.phase }, { on := 1, ground := Go.Ground.phase }, { on := 2, ground := Go.Ground.phase }, { on := 3, ground := Go.Ground.phase }, { on := 4, ground := Go.Ground.phase }, { on := 5, ground := Go.Ground.phase }, { on := 6, ground := Go.Ground.phase }, { on := 7, ground := Go.Ground.phase }, { on := 8, ground := Go.Ground.phase }, { on := 9, ground := Go.Ground.phase }, { on := 10, ground := Go.Ground.phase }], guard := none }) rfl (fun K hK => ?_) AllReadyH.nil
      go_simp
      refine hK.out _ _ ?_ (fun hHeld => ?_)
      · try dsimp only
        first | (refine rowb_on HROW.out ?_; go_grown; done) | exact rowb_set (rowb_set (rowb_on HROW.out hb05) (by omega)) (by omega)
      clear hK K
      try simp only [Act.put, List.setIfInBounds_toArray, List.set_cons_zero, List.set_cons_succ]
      refine wpAnyH_take (i := 12) (oi := { dst := some 7, op := Go.Op.assign (Go.Operand.tmp 80), type := 4, pos := "l7_sets.go:112", after := #[{ on := 10, ground := Go.Ground.data }, { on := 11, ground := Go.Ground.chain }, { on := 0, ground := Go.Ground.phase }, { on := 1, ground := Go.Ground.phase }, { on := 2, ground := Go.Ground.phase }, { on := 3, ground := Go.Ground.phase }, { on := 4, ground := Go.Ground.phase }, { on := 5, ground := Go.Ground.phase }, { on := 6, ground := Go.Ground.phase }, { on := 7, ground := Go.Ground.phase }, { on := 8, ground := Go.Ground.phase }, { on := 9, ground := Go.Ground.phase }, { on := 10, ground := Go.Ground.phase }, { on := 11, ground := Go.Ground.phase }], guard := none }) (v := ?_) rfl (by kernel_rfl) (by kernel_rfl) (by kernel_rfl) (fun _ _ _ h => h) (Or.inl ⟨by rfl, ?_⟩) (by assumption) ?_
      rotate_left
      · (intro w hSw; (try dsimp only at hSw); first | (go_simp; done) | (go_simp; with_reducible rfl))
      try simp only [Act.put, List.setIfInBounds_toArray, List.set_cons_zero, List.set_cons_succ]
      refine wpAnyH_done (by kernel_rfl) ?_ _
      go_wp2
      generalize hW8 : World.setCell _ _ _ = W8
      obtain ⟨⟨_, r1, r2, _⟩, _, _, hb8⟩ := s2_put hW8 _ _ R6
      refine bodyPost_ret (v := .tuple #[.agg #[.string (bs r.1.1), .string (bs r.1.2)], .bool r.2]) (by simp [results, Tryd.results49, go_sem, r1, r2]) rfl ⟨rfl, ?_⟩
      exact below_on (hb8 w (below_on B5.out hb05) hne) (by go_grown)

end Go.Proofs.YtmhpjaaffpomnaaDoor
