/- Several texts in one: AtN AtF AtO AtP. -/
import Derived.Test.YtahilpccnabbgaaAtM
import Derived.Test.YtahilpccnabbgaaAtC
import Derived.Test.YtahilpccnabbgaaSpecD
import Derived.Test.YtahilpccnabbgaaFormG
import Derived.Test.YtahilpccnabbgaaOwn2
import Derived.Deep.RegionHeld3
import Derived.Deep.RegionWith
import Derived.Laws.AppendOwn

/- Contracts of the model's l2All, l2Negate and NegateAtom. -/
namespace Go.Proofs.Ytahilpccnabbgaa
open Go.RowKit

def avD (x : AtD) : Bool := avB x.k x.m x.a x.b x.c x.d x.n
/-- The atoms of which one is true where an atom is false. -/
def ngL (k m a b c d n : Int) : List AtD :=
  if k = 0 then [mostD (-a) (-b) (-c) (-d) (-n + 1)] else if k = 1 then [mostD a b c d (n + 1), mostD (-a) (-b) (-c) (-d) (-n + 1)] else if k = 2 then [⟨3, m, a, b, c, d, n⟩] else [⟨2, m, a, b, c, d, n⟩]
def ngOk (k m a b c d n : Int) : Bool := avB k m a b c d n && (ngL k m a b c d n).all avD

theorem ownA_lit2 (w : World) (o : Obj) (cs : Array Value) (L : List AtD) (hl : L.length ≤ 1000) (hcs : cs.toList = AL L) : OwnA ((w.alloc o).alloc (.cells cs 27)) w.heap.size (.slice (some ⟨w.heap.size + 1, 0, none⟩) L.length L.length) L := by
  have h := ownA_lit (w := w.alloc o) (B := w.heap.size) cs L (by simp) hl hcs
  have e : (w.alloc o).heap.size = w.heap.size + 1 := by simp
  rwa [e] at h

/-- A new list of atoms. -/
def AtvT (L : List AtD) (w : World) (e : Ending) (w' : World) : Prop := ∃ v, e = .returned v ∧ OwnA w' w.heap.size v L ∧ Below w.heap.size w w'

set_option maxRecDepth 10000 in
set_option maxHeartbeats 2000000 in
theorem l2Negate_t (k m a b c d n : Int) (w : World) (hav : avB k m a b c d n = true) :
    Calls Try.prog 94 #[.agg #[.int .i64 k, .int .i64 m, .int .i64 a, .int .i64 b, .int .i64 c, .int .i64 d, .int .i64 n]] w (AtvT (ngL k m a b c d n) w) := by
  have hk := (avB_cases hav).1
  have htv := (avB_cases hav).2
  have HM := Lib.hid fun W => l2Most_neg a b c d n 1 W htv (by omega)
  have HP := Lib.hid fun W => l2Most_pos a b c d n 1 W htv (by omega)
  clear hav htv
  have hk' : k = 0 ∨ k = 1 ∨ k = 2 ∨ k = 3 := by omega
  clear hk
  rcases hk' with rfl | rfl | rfl | rfl
  · show Calls Try.prog 94 #[.agg #[.int .i64 0, .int .i64 m, .int .i64 a, .int .i64 b, .int .i64 c, .int .i64 d, .int .i64 n]] w (AtvT [mostD (-a) (-b) (-c) (-d) (-n + 1)] w)
    go_enter Try.func94, Try.ntmps94
    go_wp2_with fail
    refine (HM.out _).mono ?_
    rintro e w1 ⟨rfl, hb1⟩
    have hw1 : Below w.heap.size w w1 := below_on (by go_grown) hb1
    have hs1 := hw1.size
    have HO := Lib.hid (ownA_lit (w := w1) (B := w.heap.size) #[.int .i64 0, .int .i64 0, .int .i64 (-a), .int .i64 (-b), .int .i64 (-c), .int .i64 (-d), .int .i64 (-n + 1)] [mostD (-a) (-b) (-c) (-d) (-n + 1)] hw1.size (by simp) rfl)
    clear hb1
    go_wp2
    go_ret
    exact ⟨_, rfl, HO.out, by go_grown⟩
  · show Calls Try.prog 94 #[.agg #[.int .i64 1, .int .i64 m, .int .i64 a, .int .i64 b, .int .i64 c, .int .i64 d, .int .i64 n]] w (AtvT [mostD a b c d (n + 1), mostD (-a) (-b) (-c) (-d) (-n + 1)] w)
    go_enter Try.func94, Try.ntmps94
    go_wp2_with fail
    generalize hW : World.alloc _ _ = W1
    have hx1 : C7 W1 w.heap.size 1 m a b c d n := by subst hW; exact (by refine ⟨?_, ?_, ?_, ?_, ?_, ?_, ?_, ?_⟩ <;> first | (simp [go_sem]; done) | (simp; omega))
    have hw1 : Below w.heap.size w W1 := by subst hW; go_grown
    clear hW
    obtain ⟨x0, x1, x2, x3, x4, x5, x6, x7⟩ := id hx1
    refine wp_region_held_drew (S := (fun w' => Below W1.heap.size W1 w' ∧ w'.cell? ⟨w.heap.size, 0, none⟩ = some (.int .i64 1) ∧ w'.cell? ⟨w.heap.size, 1, none⟩ = some (.int .i64 m) ∧ w'.cell? ⟨w.heap.size, 2, none⟩ = some (.int .i64 a) ∧ w'.cell? ⟨w.heap.size, 3, none⟩ = some (.int .i64 b) ∧ w'.cell? ⟨w.heap.size, 4, none⟩ = some (.int .i64 c) ∧ w'.cell? ⟨w.heap.size, 5, none⟩ = some (.int .i64 d) ∧ w'.cell? ⟨w.heap.size, 6, none⟩ = some (.int .i64 n))) (by kernel_rfl) ?_ (fun hHeld => ?_)
    · try dsimp only
      exact keep7 hx1 (by go_grown)
    refine wpAnyH_take (i := 0) (oi := { dst := some 13, op := Go.Op.fieldAddr 27 (Go.Operand.tmp 1) 2, type := 0, pos := "l2_atoms.go:110", after := #[], guard := none }) (v := ?_) rfl (by kernel_rfl) (by kernel_rfl) (by kernel_rfl) (fun _ _ _ h => h) (Or.inl ⟨by rfl, ?_⟩) (by assumption) ?_
    rotate_left
    · (intro w hSw; (try dsimp only at hSw); first | (go_simp; done) | (go_simp; with_reducible rfl))
    try simp only [Act.put, List.setIfInBounds_toArray, List.set_cons_zero, List.set_cons_succ]
    refine wpAnyH_take (i := 1) (oi := { dst := some 14, op := Go.Op.load 25 (Go.Operand.tmp 13), type := 25, pos := "l2_atoms.go:110", after := #[{ on := 0, ground := Go.Ground.data }], guard := none }) (v := ?_) rfl (by kernel_rfl) (by kernel_rfl) (by kernel_rfl) (fun _ _ _ h => h) (Or.inl ⟨by rfl, ?_⟩) (by assumption) ?_
    rotate_left
    · (intro w hSw; (try dsimp only at hSw); first | (go_simp; done) | (go_simp; with_reducible rfl))
    try simp only [Act.put, List.setIfInBounds_toArray, List.set_cons_zero, List.set_cons_succ]
    refine wpAnyH_take (i := 3) (oi := { dst := some 16, op := Go.Op.fieldAddr 27 (Go.Operand.tmp 1) 2, type := 0, pos := "l2_atoms.go:110", after := #[], guard := none }) (v := ?_) rfl (by kernel_rfl) (by kernel_rfl) (by kernel_rfl) (fun _ _ _ h => h) (Or.inl ⟨by rfl, ?_⟩) (by assumption) ?_
    rotate_left
    · (intro w hSw; (try dsimp only at hSw); first | (go_simp; done) | (go_simp; with_reducible rfl))
    try simp only [Act.put, List.setIfInBounds_toArray, List.set_cons_zero, List.set_cons_succ]
    refine wpAnyH_take (i := 4) (oi := { dst := some 17, op := Go.Op.load 25 (Go.Operand.tmp 16), type := 25, pos := "l2_atoms.go:110", after := #[{ on := 3, ground := Go.Ground.data }], guard := none }) (v := ?_) rfl (by kernel_rfl) (by kernel_rfl) (by kernel_rfl) (fun _ _ _ h => h) (Or.inl ⟨by rfl, ?_⟩) (by assumption) ?_
    rotate_left
    · (intro w hSw; (try dsimp only at hSw); first | (go_simp; done) | (go_simp; with_reducible rfl))
    try simp only [Act.put, List.setIfInBounds_toArray, List.set_cons_zero, List.set_cons_succ]
    refine wpAnyH_ready (rs := [2]) (by kernel_rfl) (by simp) ?_
    refine AllReadyH.cons (o := { dst := some 15, op := Go.Op.call { callee := Go.Callee.value (Go.Operand.func 100), args := #[Go.Operand.const (Go.Value.int Go.IntKind.i64 1), Go.Operand.tmp 14, Go.Operand.const (Go.Value.int Go.IntKind.i64 1)], argTypes := #[3, 25, 3] }, type := 27, pos := "l2_atoms.go:110", after := #[{ on := 1, ground := Go.Ground.data }], guard := none }) rfl (fun K hK => ?_) AllReadyH.nil
    go_simp
    (first | (go_at_call 100; (with_reducible refine (HP.out _).mono ?_); rintro e w4 ⟨rfl, hb4⟩; have hbb4 := below_on (w := W1) (by go_grown) hb4; have hsb4 : W1.heap.size ≤ w4.heap.size := hbb4.size) | (go_at_call 100; (with_reducible refine (HM.out _).mono ?_); rintro e w5 ⟨rfl, hb5⟩; have hbb5 := below_on hbb4 hb5; have hsb5 : W1.heap.size ≤ w5.heap.size := hbb5.size))
    (try go_wp2_with fail)
    refine hK.out _ _ ?_ (fun hHeld => ?_)
    · try dsimp only
      exact keep7 hx1 (by go_grown)
    clear hK K
    try simp only [Act.put, List.setIfInBounds_toArray, List.set_cons_zero, List.set_cons_succ]
    refine wpAnyH_ready (rs := [5]) (by kernel_rfl) (by simp) ?_
    refine AllReadyH.cons (o := { dst := some 18, op := Go.Op.call { callee := Go.Callee.value (Go.Operand.func 100), args := #[Go.Operand.const (Go.Value.int Go.IntKind.i64 (-1)), Go.Operand.tmp 17, Go.Operand.const (Go.Value.int Go.IntKind.i64 1)], argTypes := #[3, 25, 3] }, type := 27, pos := "l2_atoms.go:110", after := #[{ on := 4, ground := Go.Ground.data }, { on := 2, ground := Go.Ground.chain }], guard := none }) rfl (fun K hK => ?_) AllReadyH.nil
    go_simp
    (first | (go_at_call 100; (with_reducible refine (HP.out _).mono ?_); rintro e w4 ⟨rfl, hb4⟩; have hbb4 := below_on (w := W1) (by go_grown) hb4; have hsb4 : W1.heap.size ≤ w4.heap.size := hbb4.size) | (go_at_call 100; (with_reducible refine (HM.out _).mono ?_); rintro e w5 ⟨rfl, hb5⟩; have hbb5 := below_on hbb4 hb5; have hsb5 : W1.heap.size ≤ w5.heap.size := hbb5.size))
    (try go_wp2_with fail)
    refine hK.out _ _ ?_ (fun hHeld => ?_)
    · try dsimp only
      exact keep7 hx1 (by go_grown)
    clear hK K
    try simp only [Act.put, List.setIfInBounds_toArray, List.set_cons_zero, List.set_cons_succ]
    refine wpAnyH_ready (rs := [6]) (by kernel_rfl) (by simp) ?_
    refine AllReadyH.cons (o := { dst := some 19, op := Go.Op.buildSlice 73 2 #[(0, Go.Operand.tmp 15), (1, Go.Operand.tmp 18)], type := 73, pos := "l2_atoms.go:110", after := #[{ on := 2, ground := Go.Ground.data }, { on := 5, ground := Go.Ground.data }], guard := none }) rfl (fun K hK => ?_) AllReadyH.nil
    go_simp
    refine hK.out _ _ ?_ (fun hHeld => ?_)
    · try dsimp only
      exact keep7 hx1 (by go_grown)
    clear hK K
    try simp only [Act.put, List.setIfInBounds_toArray, List.set_cons_zero, List.set_cons_succ]
    refine wpAnyH_take (i := 7) (oi := { dst := some 2, op := Go.Op.assign (Go.Operand.tmp 19), type := 73, pos := "l2_atoms.go:110", after := #[{ on := 6, ground := Go.Ground.data }, { on := 5, ground := Go.Ground.chain }, { on := 0, ground := Go.Ground.phase }, { on := 1, ground := Go.Ground.phase }, { on := 2, ground := Go.Ground.phase }, { on := 3, ground := Go.Ground.phase }, { on := 4, ground := Go.Ground.phase }, { on := 5, ground := Go.Ground.phase }, { on := 6, ground := Go.Ground.phase }], guard := none }) (v := ?_) rfl (by kernel_rfl) (by kernel_rfl) (by kernel_rfl) (fun _ _ _ h => h) (Or.inl ⟨by rfl, ?_⟩) (by assumption) ?_
    rotate_left
    · (intro w hSw; (try dsimp only at hSw); first | (go_simp; done) | (go_simp; with_reducible rfl))
    try simp only [Act.put, List.setIfInBounds_toArray, List.set_cons_zero, List.set_cons_succ]
    refine wpAnyH_done (by kernel_rfl) ?_ _
    have hw5 := below_on hw1 hbb5
    have hs5 := hw5.size
    have HO := Lib.hid (ownA_lit (w := w5) (B := w.heap.size) #[.int .i64 0, .int .i64 0, .int .i64 a, .int .i64 b, .int .i64 c, .int .i64 d, .int .i64 (n + 1), .int .i64 0, .int .i64 0, .int .i64 (-a), .int .i64 (-b), .int .i64 (-c), .int .i64 (-d), .int .i64 (-n + 1)] [mostD a b c d (n + 1), mostD (-a) (-b) (-c) (-d) (-n + 1)] hw5.size (by simp) rfl)
    go_wp2
    go_ret
    exact ⟨_, rfl, HO.out, by go_grown⟩
  · show Calls Try.prog 94 #[.agg #[.int .i64 2, .int .i64 m, .int .i64 a, .int .i64 b, .int .i64 c, .int .i64 d, .int .i64 n]] w (AtvT [⟨3, m, a, b, c, d, n⟩] w)
    have HO := Lib.hid (ownA_lit2 w (.cells #[.int .i64 2, .int .i64 m, .int .i64 a, .int .i64 b, .int .i64 c, .int .i64 d, .int .i64 n] 27) #[.int .i64 3, .int .i64 m, .int .i64 a, .int .i64 b, .int .i64 c, .int .i64 d, .int .i64 n] [⟨3, m, a, b, c, d, n⟩] (by simp) rfl)
    go_enter Try.func94, Try.ntmps94
    go_wp2
    go_ret
    exact ⟨_, rfl, HO.out, by go_grown⟩
  · show Calls Try.prog 94 #[.agg #[.int .i64 3, .int .i64 m, .int .i64 a, .int .i64 b, .int .i64 c, .int .i64 d, .int .i64 n]] w (AtvT [⟨2, m, a, b, c, d, n⟩] w)
    have HO := Lib.hid (ownA_lit2 w (.cells #[.int .i64 3, .int .i64 m, .int .i64 a, .int .i64 b, .int .i64 c, .int .i64 d, .int .i64 n] 27) #[.int .i64 2, .int .i64 m, .int .i64 a, .int .i64 b, .int .i64 c, .int .i64 d, .int .i64 n] [⟨2, m, a, b, c, d, n⟩] (by simp) rfl)
    go_enter Try.func94, Try.ntmps94
    go_wp2
    go_ret
    exact ⟨_, rfl, HO.out, by go_grown⟩

/-- The same list, if all its atoms are valid. -/
def AllT (v : Value) (L : List AtD) (w : World) (e : Ending) (w' : World) : Prop :=
  Below w.heap.size w w' ∧ ((L.all avD = true ∧ e = .returned (.tuple #[v, .bool true])) ∨ (L.all avD = false ∧ ∃ u, e = .returned (.tuple #[u, .bool false]) ∧ OwnA w' w.heap.size u []))

def AllR (L : List AtD) (w : World) (ok i : Value) (wr : World) : Prop := ∃ k : Nat, i = .int .i64 k ∧ k ≤ L.length ∧ ok = .bool ((L.take k).all avD) ∧ Below w.heap.size w wr

theorem ngL_len (k m a b c d n : Int) : (ngL k m a b c d n).length ≤ 2 := by
  unfold ngL
  repeat' split
  all_goals simp

end Go.Proofs.Ytahilpccnabbgaa

/- Contracts of withSum and ScaleAtom of the program, and of l2One and ScaleAtom of the model; the walk of the law that says that ScaleAtom answers as its model does. -/
namespace Go.Proofs.Ytahilpccnabbgaa
open Go.RowKit

set_option maxHeartbeats 1000000 in
theorem withSum_yes (k m a' b' c' d' n' a b c d n : Int) (bl : Nat) (w : World) (hl : C5 w bl a b c d n) (h : avB k m a b c d n = true) :
    Calls Try.prog 116 #[.agg #[.int .i64 k, .int .i64 m, .int .i64 a', .int .i64 b', .int .i64 c', .int .i64 d', .int .i64 n'], .slice (some ⟨bl, 0, none⟩) 5 5] w fun e w' => e = .returned (.tuple #[.agg #[.int .i64 k, .int .i64 m, .int .i64 a, .int .i64 b, .int .i64 c, .int .i64 d, .int .i64 n], .bool true]) ∧ Below w.heap.size w w' := by
  have htv := (avB_cases h).2
  have HT := Lib.hid htv
  have HA := Lib.hid h
  have HL := Lib.hid hl
  clear htv h
  go_enter Try.func116, Try.ntmps116
  go_wp2_with fail
  generalize hW : (w.alloc (.cells #[.int .i64 k, .int .i64 m, .int .i64 a', .int .i64 b', .int .i64 c', .int .i64 d', .int .i64 n'] 27)).alloc (.cells #[.int .i64 0, .int .i64 0, .int .i64 0, .int .i64 0, .int .i64 0, .int .i64 0, .int .i64 0] 27) = W
  have hx : C7 W w.heap.size k m a' b' c' d' n' := by subst hW; exact (by refine ⟨?_, ?_, ?_, ?_, ?_, ?_, ?_, ?_⟩ <;> first | (simp [go_sem]; done) | (simp; omega))
  have hz : C7 W (w.heap.size + 1) 0 0 0 0 0 0 0 := by subst hW; exact (by refine ⟨?_, ?_, ?_, ?_, ?_, ?_, ?_, ?_⟩ <;> first | (simp [go_sem]; done) | (simp; omega))
  have fx : Hid (∀ o, W.frozen? ⟨w.heap.size, o, none⟩ = false) := by intro o; subst hW; simp [go_sem]
  have fz : Hid (∀ o, W.frozen? ⟨w.heap.size + 1, o, none⟩ = false) := by intro o; subst hW; simp [go_sem]
  have hb0 : Below w.heap.size w W := by subst hW; go_grown
  have hl2 : C5 W bl a b c d n := c5_on hl hb0
  have hs0 : w.heap.size + 1 + 1 = W.heap.size := by subst hW; simp
  clear hW
  refine (term_ok a b c d n bl W hl2 HT.out).mono ?_
  rintro e w1 ⟨rfl, hb1⟩
  obtain ⟨x0, x1, x2, x3, x4, x5, x6, x7⟩ := c7_on hx hb1
  have fx1 := fz7_on hx.1 fx hb1
  obtain ⟨z0, z1, z2, z3, z4, z5, z6, z7⟩ := c7_on hz hb1
  have fz1 := fz7_on hz.1 fz hb1
  have hs1 := hb1.size
  have hbw1 := below_on hb0 hb1
  go_wp2_with fail
  generalize hW2 : World.setCell _ _ _ = W2
  have hx2 : C7 W2 w.heap.size k m a b c d n := by subst hW2; refine ⟨?_, ?_, ?_, ?_, ?_, ?_, ?_, ?_⟩ <;> first | (simp [go_sem, *]; done) | (simp [World.setCell]; omega)
  have hz2 : C7 W2 (w.heap.size + 1) 0 0 0 0 0 0 0 := by subst hW2; refine ⟨?_, ?_, ?_, ?_, ?_, ?_, ?_, ?_⟩ <;> first | (simp [go_sem, *]; done) | (simp [World.setCell]; omega)
  have fz2 : Hid (∀ o, W2.frozen? ⟨w.heap.size + 1, o, none⟩ = false) := by intro o; subst hW2; simp [go_sem, fz1]
  have hb2 : Below w.heap.size w W2 := by subst hW2; go_grown
  clear hW2
  refine (AtomValid_is _ _ _ _ _ _ _ true _ HA.out).mono ?_
  rintro e w4 ⟨rfl, hb4⟩
  clear x0 x1 x2 x3 x4 x5 x6 x7 z0 z1 z2 z3 z4 z5 z6 z7 fx1 fz1
  have hb24 : Below W2.heap.size W2 w4 := below_on (by go_grown) hb4
  obtain ⟨x0, x1, x2, x3, x4, x5, x6, x7⟩ := c7_on hx2 hb24
  obtain ⟨z0, z1, z2, z3, z4, z5, z6, z7⟩ := c7_on hz2 hb24
  have fz4 := fz7_on hz2.1 fz2 hb24
  have hb5 := below_on hb2 hb24
  go_wp2
  refine bodyPost_ret (v := .tuple #[.agg #[.int .i64 k, .int .i64 m, .int .i64 a, .int .i64 b, .int .i64 c, .int .i64 d, .int .i64 n], .bool true]) (by simp [results, Try.results116, go_sem, z1, z2, z3, z4, z5, z6, z7]) rfl ⟨rfl, ?_⟩
  go_grown

set_option maxHeartbeats 1000000 in
theorem withSum_off (k m a' b' c' d' n' a b c d n : Int) (bl : Nat) (w : World) (hl : C5 w bl a b c d n) (htv : tvB a b c d n = true) (h : avB k m a b c d n = false) :
    Calls Try.prog 116 #[.agg #[.int .i64 k, .int .i64 m, .int .i64 a', .int .i64 b', .int .i64 c', .int .i64 d', .int .i64 n'], .slice (some ⟨bl, 0, none⟩) 5 5] w fun e w' => e = .returned (.tuple #[.agg #[.int .i64 0, .int .i64 0, .int .i64 0, .int .i64 0, .int .i64 0, .int .i64 0, .int .i64 0], .bool false]) ∧ Below w.heap.size w w' := by
  have HT := Lib.hid htv
  have HA := Lib.hid h
  have HL := Lib.hid hl
  clear htv h
  go_enter Try.func116, Try.ntmps116
  go_wp2_with fail
  generalize hW : (w.alloc (.cells #[.int .i64 k, .int .i64 m, .int .i64 a', .int .i64 b', .int .i64 c', .int .i64 d', .int .i64 n'] 27)).alloc (.cells #[.int .i64 0, .int .i64 0, .int .i64 0, .int .i64 0, .int .i64 0, .int .i64 0, .int .i64 0] 27) = W
  have hx : C7 W w.heap.size k m a' b' c' d' n' := by subst hW; exact (by refine ⟨?_, ?_, ?_, ?_, ?_, ?_, ?_, ?_⟩ <;> first | (simp [go_sem]; done) | (simp; omega))
  have hz : C7 W (w.heap.size + 1) 0 0 0 0 0 0 0 := by subst hW; exact (by refine ⟨?_, ?_, ?_, ?_, ?_, ?_, ?_, ?_⟩ <;> first | (simp [go_sem]; done) | (simp; omega))
  have fx : Hid (∀ o, W.frozen? ⟨w.heap.size, o, none⟩ = false) := by intro o; subst hW; simp [go_sem]
  have fz : Hid (∀ o, W.frozen? ⟨w.heap.size + 1, o, none⟩ = false) := by intro o; subst hW; simp [go_sem]
  have hb0 : Below w.heap.size w W := by subst hW; go_grown
  have hl2 : C5 W bl a b c d n := c5_on hl hb0
  have hs0 : w.heap.size + 1 + 1 = W.heap.size := by subst hW; simp
  clear hW
  refine (term_ok a b c d n bl W hl2 HT.out).mono ?_
  rintro e w1 ⟨rfl, hb1⟩
  obtain ⟨x0, x1, x2, x3, x4, x5, x6, x7⟩ := c7_on hx hb1
  have fx1 := fz7_on hx.1 fx hb1
  obtain ⟨z0, z1, z2, z3, z4, z5, z6, z7⟩ := c7_on hz hb1
  have fz1 := fz7_on hz.1 fz hb1
  have hs1 := hb1.size
  have hbw1 := below_on hb0 hb1
  go_wp2_with fail
  generalize hW2 : World.setCell _ _ _ = W2
  have hx2 : C7 W2 w.heap.size k m a b c d n := by subst hW2; refine ⟨?_, ?_, ?_, ?_, ?_, ?_, ?_, ?_⟩ <;> first | (simp [go_sem, *]; done) | (simp [World.setCell]; omega)
  have hz2 : C7 W2 (w.heap.size + 1) 0 0 0 0 0 0 0 := by subst hW2; refine ⟨?_, ?_, ?_, ?_, ?_, ?_, ?_, ?_⟩ <;> first | (simp [go_sem, *]; done) | (simp [World.setCell]; omega)
  have fz2 : Hid (∀ o, W2.frozen? ⟨w.heap.size + 1, o, none⟩ = false) := by intro o; subst hW2; simp [go_sem, fz1]
  have hb2 : Below w.heap.size w W2 := by subst hW2; go_grown
  clear hW2
  refine (AtomValid_is _ _ _ _ _ _ _ false _ HA.out).mono ?_
  rintro e w4 ⟨rfl, hb4⟩
  clear x0 x1 x2 x3 x4 x5 x6 x7 z0 z1 z2 z3 z4 z5 z6 z7 fx1 fz1
  have hb24 : Below W2.heap.size W2 w4 := below_on (by go_grown) hb4
  obtain ⟨x0, x1, x2, x3, x4, x5, x6, x7⟩ := c7_on hx2 hb24
  obtain ⟨z0, z1, z2, z3, z4, z5, z6, z7⟩ := c7_on hz2 hb24
  have fz4 := fz7_on hz2.1 fz2 hb24
  have hb5 := below_on hb2 hb24
  go_wp2
  refine bodyPost_ret (v := .tuple #[.agg #[.int .i64 0, .int .i64 0, .int .i64 0, .int .i64 0, .int .i64 0, .int .i64 0, .int .i64 0], .bool false]) (by simp [results, Try.results116, go_sem, z1, z2, z3, z4, z5, z6, z7]) rfl ⟨rfl, ?_⟩
  go_grown

set_option maxHeartbeats 1000000 in
theorem withSum_far (k m a' b' c' d' n' a b c d n : Int) (bl : Nat) (w : World) (hl : C5 w bl a b c d n) (htv : tvB a b c d n = false) :
    Calls Try.prog 116 #[.agg #[.int .i64 k, .int .i64 m, .int .i64 a', .int .i64 b', .int .i64 c', .int .i64 d', .int .i64 n'], .slice (some ⟨bl, 0, none⟩) 5 5] w fun e w' => e = .returned (.tuple #[.agg #[.int .i64 0, .int .i64 0, .int .i64 0, .int .i64 0, .int .i64 0, .int .i64 0, .int .i64 0], .bool false]) ∧ Below w.heap.size w w' := by
  have HT := Lib.hid htv
  have HL := Lib.hid hl
  clear htv
  go_enter Try.func116, Try.ntmps116
  go_wp2_with fail
  generalize hW : (w.alloc (.cells #[.int .i64 k, .int .i64 m, .int .i64 a', .int .i64 b', .int .i64 c', .int .i64 d', .int .i64 n'] 27)).alloc (.cells #[.int .i64 0, .int .i64 0, .int .i64 0, .int .i64 0, .int .i64 0, .int .i64 0, .int .i64 0] 27) = W
  have hx : C7 W w.heap.size k m a' b' c' d' n' := by subst hW; exact (by refine ⟨?_, ?_, ?_, ?_, ?_, ?_, ?_, ?_⟩ <;> first | (simp [go_sem]; done) | (simp; omega))
  have hz : C7 W (w.heap.size + 1) 0 0 0 0 0 0 0 := by subst hW; exact (by refine ⟨?_, ?_, ?_, ?_, ?_, ?_, ?_, ?_⟩ <;> first | (simp [go_sem]; done) | (simp; omega))
  have fx : Hid (∀ o, W.frozen? ⟨w.heap.size, o, none⟩ = false) := by intro o; subst hW; simp [go_sem]
  have fz : Hid (∀ o, W.frozen? ⟨w.heap.size + 1, o, none⟩ = false) := by intro o; subst hW; simp [go_sem]
  have hb0 : Below w.heap.size w W := by subst hW; go_grown
  have hl2 : C5 W bl a b c d n := c5_on hl hb0
  have hs0 : w.heap.size + 1 + 1 = W.heap.size := by subst hW; simp
  clear hW
  refine (term_bad a b c d n bl W hl2 HT.out).mono ?_
  rintro e w1 ⟨rfl, hb1⟩
  obtain ⟨x0, x1, x2, x3, x4, x5, x6, x7⟩ := c7_on hx hb1
  have fx1 := fz7_on hx.1 fx hb1
  obtain ⟨z0, z1, z2, z3, z4, z5, z6, z7⟩ := c7_on hz hb1
  have fz1 := fz7_on hz.1 fz hb1
  have hs1 := hb1.size
  have hbw1 := below_on hb0 hb1
  go_upto_region 4 with fail
  generalize hW2 : World.setCell _ _ _ = W2
  have hz2 : C7 W2 (w.heap.size + 1) 0 0 0 0 0 0 0 := by subst hW2; refine ⟨?_, ?_, ?_, ?_, ?_, ?_, ?_, ?_⟩ <;> first | (simp [go_sem, *]; done) | (simp [World.setCell]; omega)
  have fz2 : Hid (∀ o, W2.frozen? ⟨w.heap.size + 1, o, none⟩ = false) := by intro o; subst hW2; simp [go_sem, fz1]
  have hb2 : Below w.heap.size w W2 := by subst hW2; go_grown
  clear hW2 x0 x1 x2 x3 x4 x5 x6 x7 z0 z1 z2 z3 z4 z5 z6 z7 fx1 fz1
  generalize hW3 : W2.alloc _ = W3
  have hb23 : Below W2.heap.size W2 W3 := by subst hW3; go_grown
  clear hW3
  have hb5 := below_on hb2 hb23
  obtain ⟨z0, z1, z2, z3, z4, z5, z6, z7⟩ := c7_on hz2 hb23
  have fz4 := fz7_on hz2.1 fz2 hb23
  clear hz2 hx hz hl hl2 hb0 hbw1 hb1 hb23 hb2
  go_wp2
  refine bodyPost_ret (v := .tuple #[.agg #[.int .i64 0, .int .i64 0, .int .i64 0, .int .i64 0, .int .i64 0, .int .i64 0, .int .i64 0], .bool false]) (by simp [results, Try.results116, go_sem, z1, z2, z3, z4, z5, z6, z7]) rfl ⟨rfl, ?_⟩
  go_grown

theorem withSum_no (k m a' b' c' d' n' a b c d n : Int) (bl : Nat) (w : World) (hl : C5 w bl a b c d n) (h : avB k m a b c d n = false) :
    Calls Try.prog 116 #[.agg #[.int .i64 k, .int .i64 m, .int .i64 a', .int .i64 b', .int .i64 c', .int .i64 d', .int .i64 n'], .slice (some ⟨bl, 0, none⟩) 5 5] w fun e w' => e = .returned (.tuple #[.agg #[.int .i64 0, .int .i64 0, .int .i64 0, .int .i64 0, .int .i64 0, .int .i64 0, .int .i64 0], .bool false]) ∧ Below w.heap.size w w' := by
  by_cases htv : tvB a b c d n = true
  · exact withSum_off k m a' b' c' d' n' a b c d n bl w hl htv h
  · exact withSum_far k m a' b' c' d' n' a b c d n bl w hl (by simpa using htv)

end Go.Proofs.Ytahilpccnabbgaa

/- Contracts of the program's atMost, SplitZero and NegateAtom. -/
namespace Go.Proofs.Ytahilpccnabbgaa
open Go.RowKit

/-- A new list of multiples. -/
def MulT (a b c d n : Int) (w : World) (e : Ending) (w' : World) : Prop := ∃ bl, e = .returned (.slice (some ⟨bl, 0, none⟩) 5 5) ∧ C5 w' bl a b c d n ∧ Below w.heap.size w w' ∧ w.heap.size ≤ bl

theorem multiples_new (a b c d n : Int) (w : World) : Calls Try.prog 80 #[.agg #[.int .i64 a, .int .i64 b, .int .i64 c, .int .i64 d, .int .i64 n]] w (MulT a b c d n w) :=
  (multiples_any a b c d n w).mono fun e w' ⟨he, hw⟩ => ⟨_, he, by subst hw; exact (by refine ⟨?_, ?_, ?_, ?_, ?_, ?_⟩ <;> first | (simp [go_sem]; done) | (simp; omega)), by subst hw; go_grown, by omega⟩
theorem times_new (a b c d n k A B C D M : Int) (bl : Nat) (w : World) (hl : C5 w bl a b c d n) (hA : a * k = A) (hB : b * k = B) (hC : c * k = C) (hD : d * k = D) (hM : n * k = M)
    (hs : (-100000000 ≤ A ∧ A ≤ 100000000) ∧ (-100000000 ≤ B ∧ B ≤ 100000000) ∧ (-100000000 ≤ C ∧ C ≤ 100000000) ∧ (-100000000 ≤ D ∧ D ≤ 100000000) ∧ (-100000000 ≤ M ∧ M ≤ 100000000)) :
    Calls Try.prog 98 #[.slice (some ⟨bl, 0, none⟩) 5 5, .int .i64 k] w (MulT A B C D M w) := by
  subst hA hB hC hD hM
  exact (times_of a b c d n k bl w hl hs).mono fun e w' ⟨he, hw⟩ => ⟨_, he, by subst hw; exact (by refine ⟨?_, ?_, ?_, ?_, ?_, ?_⟩ <;> first | (simp [go_sem]; done) | (simp; omega)), by subst hw; go_grown, by omega⟩
theorem plus_new (a b c d n a' b' c' d' n' A B C D M : Int) (bl bm : Nat) (w : World) (hl : C5 w bl a b c d n) (hm : C5 w bm a' b' c' d' n') (hA : a + a' = A) (hB : b + b' = B) (hC : c + c' = C) (hD : d + d' = D) (hM : n + n' = M)
    (hs : (-1000000000 ≤ A ∧ A ≤ 1000000000) ∧ (-1000000000 ≤ B ∧ B ≤ 1000000000) ∧ (-1000000000 ≤ C ∧ C ≤ 1000000000) ∧ (-1000000000 ≤ D ∧ D ≤ 1000000000) ∧ (-1000000000 ≤ M ∧ M ≤ 1000000000)) :
    Calls Try.prog 97 #[.slice (some ⟨bl, 0, none⟩) 5 5, .slice (some ⟨bm, 0, none⟩) 5 5] w (MulT A B C D M w) := by
  subst hA hB hC hD hM
  exact (plus_of a b c d n a' b' c' d' n' bl bm w hl hm hs).mono fun e w' ⟨he, hw⟩ => ⟨_, he, by subst hw; exact (by refine ⟨?_, ?_, ?_, ?_, ?_, ?_⟩ <;> first | (simp [go_sem]; done) | (simp; omega)), by subst hw; go_grown, by omega⟩

/-- A list of sums reads as the terms of the atoms L. -/
def SumsAt (w : World) (v : Value) (L : List AtD) : Prop :=
  ∃ g cap, v = .slice (some ⟨g, 0, none⟩) L.length cap ∧ g < w.heap.size ∧ L.length ≤ 1000 ∧ (∀ x ∈ L, x.k = 0 ∧ x.m = 0) ∧ ∀ i x, L[i]? = some x → ∃ bl, w.cell? ⟨g, i, none⟩ = some (.slice (some ⟨bl, 0, none⟩) 5 5) ∧ C5 w bl x.a x.b x.c x.d x.n

theorem Try.infoAtom : (Try.prog.info? 27).map (fun i => (i.zero, i.size, i.bytes)) = some (some (.agg #[.int .i64 0, .int .i64 0, .int .i64 0, .int .i64 0, .int .i64 0, .int .i64 0, .int .i64 0]), 7, 56) := by kernel_rfl
theorem Try.infoMul : (Try.prog.info? 105).map (fun i => (i.zero, i.size, i.bytes)) = some (some (.slice none 0 0), 1, 24) := by kernel_rfl

theorem acells_one (x : AtD) : ∀ u ∈ acells x, u.oneCell' = true := by
  intro u hu
  simp only [acells, List.mem_cons, List.not_mem_nil, or_false] at hu
  rcases hu with rfl | rfl | rfl | rfl | rfl | rfl | rfl <;> rfl
theorem grown_below2 {w W W' : World} {v : Value} {B e size n : Nat} {xs : List Value} (hb : Below w.heap.size w W) (hown : W.ownsRow B e size v n xs) (hB : w.heap.size ≤ B) (hg : W.grownBy W' v.ownBlock) : Below w.heap.size w W' :=
  ⟨hg.os.trans hb.os, hg.tape.trans hb.tape, hg.output.trans hb.output, Nat.le_trans hb.size hg.size, fun i hi =>
    (hg.block i (Nat.lt_of_lt_of_le hi hb.size) (fun e => by have := hown.lt i e.symm; omega)).trans (hb.block i hi)⟩

def AmR (L : List AtD) (w : World) (v i : Value) (wr : World) : Prop := ∃ k : Nat, i = .int .i64 k ∧ k ≤ L.length ∧ (L.take k).all avD = true ∧ OwnA wr w.heap.size v (L.take k) ∧ Below w.heap.size w wr

theorem atom_news {w : World} (x : AtD) : ∀ j u, (acells x)[j]? = some u → (w.alloc (.cells (acells x).toArray 27)).cell? ((⟨w.heap.size, 0, none⟩ : Addr).add j) = some u := by
  intro j u hj
  match j, hj with
  | 0, hj => simp [acells] at hj; subst hj; simp [Addr.add, acells]
  | 1, hj => simp [acells] at hj; subst hj; simp [Addr.add, acells]
  | 2, hj => simp [acells] at hj; subst hj; simp [Addr.add, acells]
  | 3, hj => simp [acells] at hj; subst hj; simp [Addr.add, acells]
  | 4, hj => simp [acells] at hj; subst hj; simp [Addr.add, acells]
  | 5, hj => simp [acells] at hj; subst hj; simp [Addr.add, acells]
  | 6, hj => simp [acells] at hj; subst hj; simp [Addr.add, acells]
  | j + 7, hj => simp [acells] at hj

set_option maxRecDepth 10000 in
set_option maxHeartbeats 2000000 in
theorem atMost_t (v : Value) (L : List AtD) (w : World) (h : SumsAt w v L) (M : List AtD) (t : Bool) (ht : L.all avD = t) (hM : M = if t then L else []) :
    Calls Try.prog 99 #[v] w (AtsT M t w) := by
  obtain ⟨g, cap, rfl, hg, hL, hz, hc⟩ := h
  obtain ⟨i0, hi, hz0, hz1, hz2⟩ := info_parts Try.infoAtom
  have HI := Lib.hid (And.intro hi (And.intro hz0 (And.intro hz1 hz2)))
  obtain ⟨N, hN⟩ : ∃ N, N = L.length := ⟨_, rfl⟩
  rw [← hN] at hL ⊢
  have HN := Lib.hid hN
  have HC := Lib.hid hc
  have HZ := Lib.hid hz
  have HT := Lib.hid ht
  have HM := Lib.hid hM
  clear hN hc hz ht hM hi hz0 hz1 hz2
  go_enter Try.func99, Try.ntmps99
  go_wp2
  go_loopw [4, 11] (fun v i wr => AmR L w v i wr) (fun _ i _ => N - (intOf i).toNat)
  case atStart => exact ⟨0, rfl, by omega, rfl, World.ownsRow_nil _ _ _ _, Below.refl _ _⟩
  case round =>
    obtain ⟨k, rfl, hk, hall, hown, hbw⟩ := hrel
    have hk' : k ≤ N := by rw [HN.out]; exact hk
    have HALL := Lib.hid hall
    have HO := Lib.hid hown
    have HB := Lib.hid hbw
    have hsw := hbw.size
    clear hk hall hown
    by_cases hlt : k < N
    · have hkN : (k : Int) < (N : Int) := by omega
      have hk0 : (0 : Int) ≤ k := by omega
      obtain ⟨y, hy⟩ : ∃ y, L[k]? = some y := ⟨_, List.getElem?_eq_getElem (by rw [← HN.out]; exact hlt)⟩
      obtain ⟨bl, hcell, hc5⟩ := HC.out k y hy
      have hc1 := (hbw.cell (p := ⟨g, k, none⟩) hg).trans hcell
      have HC5 := Lib.hid (c5_on hc5 hbw)
      have HT1 := Lib.hid (show L.take (k + 1) = L.take k ++ [y] by rw [List.take_add_one, hy]; rfl)
      have hyz := HZ.out y (List.mem_of_getElem? hy)
      have hav : avD y = avB 0 0 y.a y.b y.c y.d y.n := by unfold avD; rw [hyz.1, hyz.2]
      have HNN := Lib.hid (show k + 1 ≤ L.length by rw [← HN.out]; omega)
      have HY := Lib.hid (show y = mostD y.a y.b y.c y.d y.n by obtain ⟨q0, q1, q2, q3, q4, q5, q6⟩ := y; obtain ⟨rfl, rfl⟩ := hyz; rfl)
      have HMEM := Lib.hid (List.mem_of_getElem? hy)
      clear hcell hc5 hy hyz hbw
      cases ha : avB 0 0 y.a y.b y.c y.d y.n with
      | true =>
        have HA := Lib.hid ha
        have HAV := Lib.hid (hav.trans ha)
        clear ha hav
        go_wp2_with fail
        refine (withSum_yes 0 0 0 0 0 0 0 _ _ _ _ _ bl wr HC5.out HA.out).mono ?_
        rintro e w1 ⟨rfl, hb1⟩
        have hown1 := own_below (show wr.ownsRow w.heap.size 27 7 _ (L.take k).length (AL (L.take k)) from HO.out) hb1
        have HB1 := Lib.hid (below_on HB.out hb1)
        have hs1 := HB1.out.size
        have hlen : (L.take k).length ≤ 1000 := by rw [List.length_take]; omega
        obtain ⟨hi, hz0, hz1, hz2⟩ := HI.out
        clear hc1 hb1
        go_upto_region 8 with fail
        generalize hW : w1.alloc _ = W
        have hx : C7 W w1.heap.size 0 0 y.a y.b y.c y.d y.n := by subst hW; exact (by refine ⟨?_, ?_, ?_, ?_, ?_, ?_, ?_, ?_⟩ <;> first | (simp [go_sem]; done) | (simp; omega))
        have hbW : Below w1.heap.size w1 W := by subst hW; go_grown
        have hownW := own_below hown1 hbW
        have HBW := Lib.hid (below_on HB1.out hbW)
        have hsW := HBW.out.size
        obtain ⟨x0, x1, x2, x3, x4, x5, x6, x7⟩ := hx
        clear hW hbW hown1
        go_wp2_with (at_builtin; refine wpList_append_own _ rfl _ _ 73 rfl w.heap.size 27 i0 (.agg #[.int .i64 0, .int .i64 0, .int .i64 0, .int .i64 0, .int .i64 0, .int .i64 0, .int .i64 0]) 7 56 Try.underlying73 hi hz0 hz1 hz2 rfl (by decide) _ _ _ rfl (hownW.alloc _) ⟨W.heap.size, 0, none⟩ 1 1 (acells (mostD y.a y.b y.c y.d y.n)) rfl rfl ?c1 ?c2 ?c3 ?c4 ?c5 ?_)
        case c1 => exact atom_news (w := W) (mostD y.a y.b y.c y.d y.n)
        case c2 => exact acells_one _
        case c3 => unfold maxLen; omega
        case c4 => omega
        case c5 => simp; omega
        · intro v' w4 hown4 hgrow _
          have hbA : Below W.heap.size W (W.alloc (.cells (acells (mostD y.a y.b y.c y.d y.n)).toArray 27)) := by go_grown
          have HN4 : Hid (OwnA w4 w.heap.size v' (L.take (k + 1))) := by
            show w4.ownsRow _ _ _ _ _ _
            rw [HT1.out, al_app, List.length_append]
            have e : AL [y] = acells (mostD y.a y.b y.c y.d y.n) := by rw [← HY.out]; simp [AL]
            rw [e, List.length_take]
            exact hown4
          have HB4 : Hid (Below w.heap.size w w4) := grown_below2 (HBW.out.trans (hbA.mono (by omega))) (own_below hownW hbA) (Nat.le_refl _) hgrow
          have HA4 := Lib.hid (show (L.take (k + 1)).all avD = true by rw [HT1.out, List.all_append, HALL.out]; simp [HAV.out])
          clear hown4 hgrow hbA hownW hi hz0 hz1 hz2 x0 x1 x2 x3 x4 x5 x6 x7
          go_wp2
          go_roundw
          case rel => exact ⟨k + 1, by go_num, HNN.out, HA4.out, HN4.out, HB4.out⟩
          case measure => simp [intOf]; omega
      | false =>
        have HA := Lib.hid ha
        have HAV := Lib.hid (hav.trans ha)
        clear ha hav
        go_wp2_with fail
        refine (withSum_no 0 0 0 0 0 0 0 _ _ _ _ _ bl wr HC5.out HA.out).mono ?_
        rintro e w1 ⟨rfl, hb1⟩
        have HB1 := Lib.hid (below_on HB.out hb1)
        have hs1 := HB1.out.size
        have ht : t = false := by rw [← HT.out, List.all_eq_false]; exact ⟨y, HMEM.out, by rw [HAV.out]; simp⟩
        have HT2 := Lib.hid ht
        clear hc1 ht
        go_wp2
        go_ret2
        have e := HT2.out
        subst e
        have e := HM.out
        subst e
        exact ⟨_, rfl, World.ownsRow_nil _ _ _ _, by have := HB1.out; go_grown⟩
    · have hkN : ¬ (k : Int) < (N : Int) := by omega
      obtain rfl : k = N := by omega
      have ht : t = true := by have := HALL.out; rw [HN.out, List.take_length] at this; rw [← HT.out]; exact this
      have HT2 := Lib.hid ht
      clear ht
      go_wp2
      go_ret2
      have e := HT2.out
      subst e
      have e := HM.out
      subst e
      exact ⟨_, rfl, by have := HO.out; rw [HN.out, List.take_length] at this; exact this, hbw⟩

theorem sums_of {w : World} {g cap : Nat} (L : List AtD) (hg : g < w.heap.size) (hL : L.length ≤ 1000) (hz : ∀ x ∈ L, x.k = 0 ∧ x.m = 0) (h : ∀ i x, L[i]? = some x → ∃ bl, w.cell? ⟨g, i, none⟩ = some (.slice (some ⟨bl, 0, none⟩) 5 5) ∧ C5 w bl x.a x.b x.c x.d x.n) : SumsAt w (.slice (some ⟨g, 0, none⟩) L.length cap) L :=
  ⟨g, cap, rfl, hg, hL, hz, h⟩
theorem sums_one {w : World} {g cap bl : Nat} {a b c d n : Int} (hg : g < w.heap.size) (hc : w.cell? ⟨g, 0, none⟩ = some (.slice (some ⟨bl, 0, none⟩) 5 5)) (h5 : C5 w bl a b c d n) : SumsAt w (.slice (some ⟨g, 0, none⟩) 1 cap) [mostD a b c d n] :=
  sums_of [mostD a b c d n] hg (by simp) (by intro x hx; simp at hx; subst hx; exact ⟨rfl, rfl⟩) (by
    intro i x hx
    match i, hx with
    | 0, hx => simp at hx; subst hx; exact ⟨bl, hc, h5⟩
    | i + 1, hx => simp at hx)
theorem sums_two {w : World} {g cap bl bm : Nat} {a b c d n a' b' c' d' n' : Int} (hg : g < w.heap.size) (hc : w.cell? ⟨g, 0, none⟩ = some (.slice (some ⟨bl, 0, none⟩) 5 5)) (h5 : C5 w bl a b c d n) (hc' : w.cell? ⟨g, 1, none⟩ = some (.slice (some ⟨bm, 0, none⟩) 5 5)) (h5' : C5 w bm a' b' c' d' n') : SumsAt w (.slice (some ⟨g, 0, none⟩) 2 cap) [mostD a b c d n, mostD a' b' c' d' n'] :=
  sums_of [mostD a b c d n, mostD a' b' c' d' n'] hg (by simp) (by intro x hx; simp at hx; rcases hx with rfl | rfl <;> exact ⟨rfl, rfl⟩) (by
    intro i x hx
    match i, hx with
    | 0, hx => simp at hx; subst hx; exact ⟨bl, hc, h5⟩
    | 1, hx => simp at hx; subst hx; exact ⟨bm, hc', h5'⟩
    | i + 2, hx => simp at hx)

theorem szL_ok {a b c d n : Int} (h : tvB a b c d n = true) : (szL a b c d n).all avD = true := by
  obtain ⟨⟨a0, a1⟩, ⟨b0, b1⟩, ⟨c0, c1⟩, ⟨d0, d1⟩, n0, n1⟩ := tv_bd h
  have e : ∀ a b c d n : Int, avD (mostD a b c d n) = tvB a b c d n := fun a b c d n => avB_most a b c d n
  simp only [szL, List.all_cons, List.all_nil, Bool.and_true, e, Bool.and_eq_true]
  refine ⟨h, ?_⟩
  simp only [tvB, wlB, Bool.and_eq_true, decide_eq_true_eq]
  omega

set_option maxRecDepth 10000 in
set_option maxHeartbeats 2000000 in
theorem SplitZero_t (k m a b c d n : Int) (w : World) :
    Calls Try.prog 76 #[.agg #[.int .i64 k, .int .i64 m, .int .i64 a, .int .i64 b, .int .i64 c, .int .i64 d, .int .i64 n]] w (AtsT (if avB k m a b c d n = true ∧ k = 1 then szL a b c d n else []) (decide (avB k m a b c d n = true ∧ k = 1)) w) := by
  cases hav : avB k m a b c d n with
  | false =>
    have HA := Lib.hid hav
    rw [if_neg (by simp), decide_eq_false (by simp)]
    clear hav
    go_enter Try.func76, Try.ntmps76
    go_wp2_with fail
    generalize hW : World.alloc _ _ = W
    have hw : Below w.heap.size w W := by subst hW; go_grown
    clear hW
    refine (AtomValid_is _ _ _ _ _ _ _ false _ HA.out).mono ?_
    rintro e w1 ⟨rfl, hb1⟩
    go_wp2
    go_ret2
    exact ⟨_, rfl, World.ownsRow_nil _ _ _ _, below_on hw hb1⟩
  | true =>
    have HA := Lib.hid hav
    by_cases hk : k = 1
    · subst hk
      rw [if_pos ⟨rfl, rfl⟩, decide_eq_true ⟨rfl, rfl⟩]
      have htv := (avB_cases hav).2
      obtain ⟨q1, q2, q3, q4, q5⟩ := tv_bd htv
      have HALL := Lib.hid (szL_ok htv)
      have HTM := Lib.hid fun bl W hl => times_new a b c d n (-1) (-a) (-b) (-c) (-d) (-n) bl W hl (by omega) (by omega) (by omega) (by omega) (by omega) (by omega)
      clear hav htv q1 q2 q3 q4 q5
      go_enter Try.func76, Try.ntmps76
      go_wp2_with fail
      generalize hW : World.alloc _ _ = W
      have hx : C7 W w.heap.size 1 m a b c d n := by subst hW; exact (by refine ⟨?_, ?_, ?_, ?_, ?_, ?_, ?_, ?_⟩ <;> first | (simp [go_sem]; done) | (simp; omega))
      have hw : Below w.heap.size w W := by subst hW; go_grown
      clear hW
      refine (AtomValid_is _ _ _ _ _ _ _ true _ HA.out).mono ?_
      rintro e w1 ⟨rfl, hb1⟩
      obtain ⟨x0, x1, x2, x3, x4, x5, x6, x7⟩ := c7_on hx hb1
      have hw1 := below_on hw hb1
      go_wp2_with fail
      refine (multiples_new a b c d n w1).mono ?_
      rintro e w2 ⟨b2, rfl, h2, hb2, _⟩
      have hw2 := below_on hw1 hb2
      clear x0 x1 x2 x3 x4 x5 x6 x7 hx hb1
      go_wp2_with fail
      refine (HTM.out b2 w2 h2).mono ?_
      rintro e w3 ⟨b3, rfl, h3, hb3, _⟩
      have hw3 := below_on hw2 hb3
      have h23 := c5_on h2 hb3
      go_wp2_with fail
      generalize hW : World.alloc _ _ = W4
      have hb4 : Below w3.heap.size w3 W4 := by subst hW; go_grown
      have hs : SumsAt W4 (.slice (some ⟨w3.heap.size, 0, none⟩) 2 2) (szL a b c d n) := by
        refine sums_two (bl := b2) (bm := b3) (by subst hW; simp) (by subst hW; simp [go_sem]) (c5_on h23 hb4) (by subst hW; simp [go_sem]) (c5_on h3 hb4)
      have hw4 := below_on hw3 hb4
      clear hW h2 h23 h3
      refine (atMost_t _ _ W4 hs (szL a b c d n) true HALL.out rfl).mono ?_
      rintro e w5 ⟨v5, rfl, ho5, hb5⟩
      have HO := Lib.hid (show OwnA w5 w.heap.size v5 (szL a b c d n) from own_mono ho5 hw4.size)
      have hw5 := below_on hw4 hb5
      clear ho5 hs
      go_wp2
      go_ret2
      exact ⟨_, rfl, HO.out, hw5⟩
    · have hk1 : (k == 1) = false := by simpa using hk
      have hk2 : (k != 1) = true := by simpa using hk
      rw [if_neg (fun h => hk h.2), decide_eq_false (fun h => hk h.2)]
      clear hav hk
      go_enter Try.func76, Try.ntmps76
      go_wp2_with fail
      generalize hW : World.alloc _ _ = W
      have hx : C7 W w.heap.size k m a b c d n := by subst hW; exact (by refine ⟨?_, ?_, ?_, ?_, ?_, ?_, ?_, ?_⟩ <;> first | (simp [go_sem]; done) | (simp; omega))
      have hw : Below w.heap.size w W := by subst hW; go_grown
      clear hW
      refine (AtomValid_is _ _ _ _ _ _ _ true _ HA.out).mono ?_
      rintro e w1 ⟨rfl, hb1⟩
      obtain ⟨x0, x1, x2, x3, x4, x5, x6, x7⟩ := c7_on hx hb1
      go_wp2
      go_ret2
      exact ⟨_, rfl, World.ownsRow_nil _ _ _ _, below_on hw hb1⟩

end Go.Proofs.Ytahilpccnabbgaa

/- The contract of the program's NegateAtom. -/
namespace Go.Proofs.Ytahilpccnabbgaa
open Go.RowKit

theorem c5_gr {W W' : World} {x : Nat} {a b c d n : Int} {r : Option Nat} (h : C5 W x a b c d n) (hg : W.grownBy W' r) (hne : some x ≠ r) : C5 W' x a b c d n := by
  have f : ∀ o, W'.cell? ⟨x, o, none⟩ = W.cell? ⟨x, o, none⟩ := fun o => World.cell?_of_block (hg.block x h.1 hne)
  exact ⟨Nat.lt_of_lt_of_le h.1 hg.size, (f 0).trans h.2.1, (f 1).trans h.2.2.1, (f 2).trans h.2.2.2.1, (f 3).trans h.2.2.2.2.1, (f 4).trans h.2.2.2.2.2⟩

theorem one_news {e : TypeId} (w : World) (x : Value) : ∀ j u, [x][j]? = some u → (w.alloc (.cells #[x] e)).cell? ((⟨w.heap.size, 0, none⟩ : Addr).add j) = some u := by
  intro j u hj
  match j, hj with
  | 0, hj => simp at hj; subst hj; simp [Addr.add]

set_option maxRecDepth 10000 in
set_option maxHeartbeats 4000000 in
theorem NegateAtom_t (k m a b c d n : Int) (w : World) :
    Calls Try.prog 72 #[.agg #[.int .i64 k, .int .i64 m, .int .i64 a, .int .i64 b, .int .i64 c, .int .i64 d, .int .i64 n]] w (AtsT (if ngOk k m a b c d n = true then ngL k m a b c d n else []) (ngOk k m a b c d n) w) := by
  cases hav : avB k m a b c d n with
  | false =>
    have HA := Lib.hid hav
    rw [show ngOk k m a b c d n = false by unfold ngOk; rw [hav]; rfl, if_neg (by simp)]
    clear hav
    go_enter Try.func72, Try.ntmps72
    go_wp2_with fail
    generalize hW : World.alloc _ _ = W
    have hw : Below w.heap.size w W := by subst hW; go_grown
    clear hW
    refine (AtomValid_is _ _ _ _ _ _ _ false _ HA.out).mono ?_
    rintro e w1 ⟨rfl, hb1⟩
    go_wp2
    go_ret2
    exact ⟨_, rfl, World.ownsRow_nil _ _ _ _, below_on hw hb1⟩
  | true =>
    have HA := Lib.hid hav
    have hok : ngOk k m a b c d n = (ngL k m a b c d n).all avD := by unfold ngOk; rw [hav, Bool.true_and]
    have hk := (avB_cases hav).1
    have htv := (avB_cases hav).2
    obtain ⟨q1, q2, q3, q4, q5⟩ := tv_bd htv
    obtain ⟨i0, hi, hz0, hz1, hz2⟩ := info_parts Try.infoMul
    have HI := Lib.hid (And.intro hi (And.intro hz0 (And.intro hz1 hz2)))
    have HTM := Lib.hid fun bl W hl => times_new a b c d n (-1) (-a) (-b) (-c) (-d) (-n) bl W hl (by omega) (by omega) (by omega) (by omega) (by omega) (by omega)
    have HPM := Lib.hid fun bl bm W hl hm => plus_new (-a) (-b) (-c) (-d) (-n) 0 0 0 0 1 (-a) (-b) (-c) (-d) (-n + 1) bl bm W hl hm (by omega) (by omega) (by omega) (by omega) (by omega) (by omega)
    have HPP := Lib.hid fun bl bm W hl hm => plus_new a b c d n 0 0 0 0 1 a b c d (n + 1) bl bm W hl hm (by omega) (by omega) (by omega) (by omega) (by omega) (by omega)
    rw [hok]
    have hk' : k = 0 ∨ k = 1 ∨ k = 2 ∨ k = 3 := by omega
    have HALL2 := Lib.hid (show k = 2 ∨ k = 3 → (ngL k m a b c d n).all avD = true by
      intro h
      have hm : 1 ≤ m ∧ m ≤ 100 := by omega
      rcases h with rfl | rfl
      · show [(⟨3, m, a, b, c, d, n⟩ : AtD)].all avD = true
        simp only [List.all_cons, List.all_nil, Bool.and_true]
        exact (avB_not hm.1 hm.2).trans htv
      · show [(⟨2, m, a, b, c, d, n⟩ : AtD)].all avD = true
        simp only [List.all_cons, List.all_nil, Bool.and_true]
        exact (avB_div hm.1 hm.2).trans htv)
    clear hav hok hk htv q1 q2 q3 q4 q5 hi hz0 hz1 hz2
    rcases hk' with rfl | rfl | rfl | rfl
    · obtain ⟨t, ht⟩ : ∃ t, [mostD (-a) (-b) (-c) (-d) (-n + 1)].all avD = t := ⟨_, rfl⟩
      obtain ⟨M, hM⟩ : ∃ M, M = if t then [mostD (-a) (-b) (-c) (-d) (-n + 1)] else [] := ⟨_, rfl⟩
      have HT := Lib.hid ht
      have HM := Lib.hid hM
      have e1 : (ngL 0 m a b c d n).all avD = t := ht
      have e2 : (if (ngL 0 m a b c d n).all avD = true then ngL 0 m a b c d n else []) = M := by rw [e1, hM]; rfl
      rw [e2, e1]
      clear ht hM e1 e2
      go_enter Try.func72, Try.ntmps72
      go_wp2_with fail
      generalize hW : World.alloc _ _ = W
      have hx : C7 W w.heap.size 0 m a b c d n := by subst hW; exact (by refine ⟨?_, ?_, ?_, ?_, ?_, ?_, ?_, ?_⟩ <;> first | (simp [go_sem]; done) | (simp; omega))
      have hw : Below w.heap.size w W := by subst hW; go_grown
      clear hW
      refine (AtomValid_is _ _ _ _ _ _ _ true _ HA.out).mono ?_
      rintro e w1 ⟨rfl, hb1⟩
      have hw1 := below_on hw hb1
      have hx1 := c7_on hx hb1
      clear hx hw hb1
      go_wp2_with fail
      refine (multiples_new 0 0 0 0 1 w1).mono ?_
      rintro e w2 ⟨b2, rfl, h2, hb2, hbb2⟩
      obtain ⟨x0, x1, x2, x3, x4, x5, x6, x7⟩ := c7_on hx1 hb2
      have hw2 := below_on hw1 hb2
      clear hx1 hb2
      go_wp2_with fail
      refine (multiples_new a b c d n w2).mono ?_
      rintro e w3 ⟨b3, rfl, h3, hb3, hbb3⟩
      have hw3 := below_on hw2 hb3
      have h23 := c5_on h2 hb3
      obtain ⟨x0, x1, x2, x3, x4, x5, x6, x7⟩ := c7_on ⟨x0, x1, x2, x3, x4, x5, x6, x7⟩ hb3
      clear h2 hb3
      go_wp2_with fail
      refine (HTM.out b3 w3 h3).mono ?_
      rintro e w4 ⟨b4, rfl, h4, hb4, hbb4⟩
      have hw4 := below_on hw3 hb4
      have h24 := c5_on h23 hb4
      clear h3 h23 hb4
      go_wp2_with fail
      refine (HPM.out b4 b2 w4 h4 h24).mono ?_
      rintro e w5 ⟨b5, rfl, h5, hb5, hbb5⟩
      have hw5 := below_on hw4 hb5
      have hs5 := hw5.size
      clear h4 h24 hb5
      have hown0 : w5.ownsRow w5.heap.size 105 1 (.slice none 0 0) 0 [] := World.ownsRow_nil _ _ _ _
      obtain ⟨hi, hz0, hz1, hz2⟩ := HI.out
      obtain ⟨v6, w6, hrun, hown6, hgrow, _⟩ := append_one (P := Try.prog) (ty := 127) Try.underlying127 hi hz0 hz1 hz2 rfl (hown0.alloc (.cells #[.slice (some ⟨b5, 0, none⟩) 5 5] 105)) (a := ⟨w5.heap.size, 0, none⟩) (x := .slice (some ⟨b5, 0, none⟩) 5 5) (by simp) rfl (by omega) (by omega) (by first | (simp; done) | (simp; omega))
      have HRUN := Lib.hid hrun
      clear hrun
      go_wp2_with (at_builtin; refine wpList_append_run rfl _ _ 127 rfl rfl rfl HRUN.out ?_)
      clear HRUN
      have hb6 : Below w5.heap.size w5 w6 := ((Below.refl _ w5).alloc (Nat.le_refl _) _).grown hgrow (by simp) (by simp [Value.ownBlock])
      obtain ⟨g, cap, rfl, _, _, _, hgs, hgc⟩ := own_read hown6 (by omega)
      have hsum : SumsAt w6 (.slice (some ⟨g, 0, none⟩) 1 cap) [mostD (-a) (-b) (-c) (-d) (-n + 1)] := sums_one hgs (hgc 0 (by omega)) (c5_on h5 hb6)
      have hw6 := below_on hw5 hb6
      clear hown6 hgrow hown0 hi hz0 hz1 hz2 hgc h5 hb6 x0 x1 x2 x3 x4 x5 x6 x7
      have HS := Lib.hid hsum
      clear hsum
      go_wp2_with fail
      refine (atMost_t _ _ w6 HS.out M t HT.out HM.out).mono ?_
      rintro e w7 ⟨v7, rfl, ho7, hb7⟩
      have HO := Lib.hid (show OwnA w7 w.heap.size v7 M from own_mono ho7 hw6.size)
      have hw7 := below_on hw6 hb7
      clear ho7
      go_wp2
      go_ret2
      exact ⟨_, rfl, HO.out, hw7⟩
    · obtain ⟨t, ht⟩ : ∃ t, [mostD a b c d (n + 1), mostD (-a) (-b) (-c) (-d) (-n + 1)].all avD = t := ⟨_, rfl⟩
      obtain ⟨M, hM⟩ : ∃ M, M = if t then [mostD a b c d (n + 1), mostD (-a) (-b) (-c) (-d) (-n + 1)] else [] := ⟨_, rfl⟩
      have HT := Lib.hid ht
      have HM := Lib.hid hM
      have e1 : (ngL 1 m a b c d n).all avD = t := ht
      have e2 : (if (ngL 1 m a b c d n).all avD = true then ngL 1 m a b c d n else []) = M := by rw [e1, hM]; rfl
      rw [e2, e1]
      clear ht hM e1 e2
      go_enter Try.func72, Try.ntmps72
      go_wp2_with fail
      generalize hW : World.alloc _ _ = W
      have hx : C7 W w.heap.size 1 m a b c d n := by subst hW; exact (by refine ⟨?_, ?_, ?_, ?_, ?_, ?_, ?_, ?_⟩ <;> first | (simp [go_sem]; done) | (simp; omega))
      have hw : Below w.heap.size w W := by subst hW; go_grown
      clear hW
      refine (AtomValid_is _ _ _ _ _ _ _ true _ HA.out).mono ?_
      rintro e w1 ⟨rfl, hb1⟩
      have hw1 := below_on hw hb1
      have hx1 := c7_on hx hb1
      clear hx hw hb1
      go_wp2_with fail
      refine (multiples_new 0 0 0 0 1 w1).mono ?_
      rintro e w2 ⟨b2, rfl, h2, hb2, hbb2⟩
      obtain ⟨x0, x1, x2, x3, x4, x5, x6, x7⟩ := c7_on hx1 hb2
      have hw2 := below_on hw1 hb2
      clear hx1 hb2
      go_wp2_with fail
      refine (multiples_new a b c d n w2).mono ?_
      rintro e w3 ⟨b3, rfl, h3, hb3, hbb3⟩
      have hw3 := below_on hw2 hb3
      have h23 := c5_on h2 hb3
      obtain ⟨x0, x1, x2, x3, x4, x5, x6, x7⟩ := c7_on ⟨x0, x1, x2, x3, x4, x5, x6, x7⟩ hb3
      clear h2 hb3
      go_wp2_with fail
      refine (HPP.out b3 b2 w3 h3 h23).mono ?_
      rintro e w4 ⟨b4, rfl, h4, hb4, hbb4⟩
      have Hb4 := Lib.hid h4.1
      have hw4 := below_on hw3 hb4
      have hs4 := hw4.size
      have h24 := c5_on h23 hb4
      have h34 := c5_on h3 hb4
      obtain ⟨x0, x1, x2, x3, x4, x5, x6, x7⟩ := c7_on ⟨x0, x1, x2, x3, x4, x5, x6, x7⟩ hb4
      clear h3 h23 hb4
      have hown0 : w4.ownsRow w4.heap.size 105 1 (.slice none 0 0) 0 [] := World.ownsRow_nil _ _ _ _
      obtain ⟨hi, hz0, hz1, hz2⟩ := HI.out
      obtain ⟨v5, w5, hrun, hown5, hgrow, _⟩ := append_one (P := Try.prog) (ty := 127) Try.underlying127 hi hz0 hz1 hz2 rfl (hown0.alloc (.cells #[.slice (some ⟨b4, 0, none⟩) 5 5] 105)) (a := ⟨w4.heap.size, 0, none⟩) (x := .slice (some ⟨b4, 0, none⟩) 5 5) (by simp) rfl (by omega) (by omega) (by first | (simp; done) | (simp; omega))
      have HRUN := Lib.hid hrun
      clear hrun
      go_wp2_with (at_builtin; refine wpList_append_run rfl _ _ 127 rfl rfl rfl HRUN.out ?_)
      clear HRUN
      have hb5 : Below w4.heap.size w4 w5 := ((Below.refl _ w4).alloc (Nat.le_refl _) _).grown hgrow (by simp) (by simp [Value.ownBlock])
      obtain ⟨g, cap, rfl, hcg, hcm, _, hgs, _⟩ := own_read hown5 (by omega)
      simp only [Nat.zero_add, List.nil_append] at hown5
      have hw5 := below_on hw4 hb5
      have h25 := c5_on h24 hb5
      have h35 := c5_on h34 hb5
      have h45 := c5_on h4 hb5
      obtain ⟨x0, x1, x2, x3, x4, x5, x6, x7⟩ := c7_on ⟨x0, x1, x2, x3, x4, x5, x6, x7⟩ hb5
      have HOW5 := Lib.hid hown5
      clear hgrow hown0 hi hz0 hz1 hz2 h4 h24 h34 hb5 hown5
      go_wp2_with fail
      refine (HTM.out b3 w5 h35).mono ?_
      rintro e w6 ⟨b6, rfl, h6, hb6, hbb6⟩
      have hw6 := below_on hw5 hb6
      have h26 := c5_on h25 hb6
      have h46 := c5_on h45 hb6
      have HOW6 := Lib.hid (own_below HOW5.out hb6)
      clear h25 h35 h45 hb6
      go_wp2_with fail
      refine (HPM.out b6 b2 w6 h6 h26).mono ?_
      rintro e w7 ⟨b7, rfl, h7, hb7, hbb7⟩
      have hw7 := below_on hw6 hb7
      have hs7 := hw7.size
      have h47 := c5_on h46 hb7
      have hown7 := own_below HOW6.out hb7
      have hg6 : g < w6.heap.size := (HOW6.out.lt g rfl).2
      have hb47 : w4.heap.size ≤ g := (HOW6.out.lt g rfl).1
      have h4lt : b4 < w4.heap.size := Hb4.out
      have hs47 : w4.heap.size ≤ w7.heap.size := by have := hown7.lt g rfl; omega
      clear h6 h26 h46 hb7
      obtain ⟨hi, hz0, hz1, hz2⟩ := HI.out
      obtain ⟨v8, w8, hrun, hown8, hgrow, _⟩ := append_one (P := Try.prog) (ty := 127) Try.underlying127 hi hz0 hz1 hz2 rfl (hown7.alloc (.cells #[.slice (some ⟨b7, 0, none⟩) 5 5] 105)) (a := ⟨w7.heap.size, 0, none⟩) (x := .slice (some ⟨b7, 0, none⟩) 5 5) (by simp) rfl (by omega) (by omega) (by first | (simp; done) | (simp; omega))
      have HRUN := Lib.hid hrun
      clear hrun
      go_wp2_with (at_builtin; refine wpList_append_run rfl _ _ 127 rfl rfl rfl HRUN.out ?_)
      clear HRUN
      have h48 : C5 w8 b4 a b c d (n + 1) := c5_gr (c5_on h47 (by go_grown : Below w7.heap.size w7 (w7.alloc _))) hgrow (by intro e; simp [Value.ownBlock] at e; omega)
      have h78 : C5 w8 b7 (-a) (-b) (-c) (-d) (-n + 1) := c5_gr (c5_on h7 (by go_grown : Below w7.heap.size w7 (w7.alloc _))) hgrow (by intro e; simp [Value.ownBlock] at e; omega)
      have hw8 : Below w.heap.size w w8 := grown_below2 (below_on hw7 (by go_grown : Below w7.heap.size w7 (w7.alloc _))) (own_below hown7 (by go_grown : Below w7.heap.size w7 (w7.alloc _))) hs4 hgrow
      obtain ⟨g', cap', rfl, _, _, _, hgs', hgc'⟩ := own_read hown8 (by omega)
      have hsum : SumsAt w8 (.slice (some ⟨g', 0, none⟩) 2 cap') [mostD a b c d (n + 1), mostD (-a) (-b) (-c) (-d) (-n + 1)] := sums_two hgs' (hgc' 0 (by omega)) h48 (hgc' 1 (by omega)) h78
      have HS := Lib.hid hsum
      clear hown8 hgrow hown7 hi hz0 hz1 hz2 hgc' h48 h78 h7 h47 hsum x0 x1 x2 x3 x4 x5 x6 x7
      go_wp2_with fail
      refine (atMost_t _ _ w8 HS.out M t HT.out HM.out).mono ?_
      rintro e w9 ⟨v9, rfl, ho9, hb9⟩
      have HO := Lib.hid (show OwnA w9 w.heap.size v9 M from own_mono ho9 hw8.size)
      have hw9 := below_on hw8 hb9
      clear ho9
      go_wp2
      go_ret2
      exact ⟨_, rfl, HO.out, hw9⟩
    · obtain ⟨t, ht⟩ : ∃ t, [(⟨3, m, a, b, c, d, n⟩ : AtD)].all avD = t := ⟨_, rfl⟩
      obtain ⟨M, hM⟩ : ∃ M, M = if t then [(⟨3, m, a, b, c, d, n⟩ : AtD)] else [] := ⟨_, rfl⟩
      have HT := Lib.hid ht
      have HM := Lib.hid hM
      have e1 : (ngL 2 m a b c d n).all avD = t := ht
      have e2 : (if (ngL 2 m a b c d n).all avD = true then ngL 2 m a b c d n else []) = M := by rw [e1, hM]; rfl
      have HALL := Lib.hid (show [(⟨3, m, a, b, c, d, n⟩ : AtD)].all avD = true from HALL2.out (by omega))
      rw [e2, e1]
      clear ht hM e1 e2
      go_enter Try.func72, Try.ntmps72
      go_wp2_with fail
      generalize hW : World.alloc _ _ = W
      have hx : C7 W w.heap.size 2 m a b c d n := by subst hW; exact (by refine ⟨?_, ?_, ?_, ?_, ?_, ?_, ?_, ?_⟩ <;> first | (simp [go_sem]; done) | (simp; omega))
      have fx : Hid (∀ o, W.frozen? ⟨w.heap.size, o, none⟩ = false) := by intro o; subst hW; simp [go_sem]
      have hw : Below w.heap.size w W := by subst hW; go_grown
      clear hW
      refine (AtomValid_is _ _ _ _ _ _ _ true _ HA.out).mono ?_
      rintro e w1 ⟨rfl, hb1⟩
      have hw1 := below_on hw hb1
      have hx1 := c7_on hx hb1
      have fx1 : Hid _ := fz7_on hx.1 fx hb1
      clear hx hw fx hb1
      go_wp2_with fail
      refine (multiples_new 0 0 0 0 1 w1).mono ?_
      rintro e w2 ⟨b2, rfl, h2, hb2, hbb2⟩
      have hx2 := c7_on hx1 hb2
      have fx2 : Hid _ := fz7_on hx1.1 fx1 hb2
      obtain ⟨x0, x1, x2, x3, x4, x5, x6, x7⟩ := id hx2
      have hw2 := below_on hw1 hb2
      clear hx1 fx1 hb2
      go_wp2_with fail
      refine (multiples_new a b c d n w2).mono ?_
      rintro e w3 ⟨b3, rfl, h3, hb3, hbb3⟩
      have hw3 := below_on hw2 hb3
      have fx3 := fz7_on hx2.1 fx2 hb3
      obtain ⟨x0, x1, x2, x3, x4, x5, x6, x7⟩ := c7_on hx2 hb3
      have hs3 := hw3.size
      have htt : t = true := by rw [← HT.out]; exact HALL.out
      subst htt
      have hMM := HM.out
      simp only [if_true] at hMM
      subst hMM
      clear h2 h3 hb3 hx2 fx2
      go_upto_region 11 with fail
      generalize hW : World.setCell _ _ _ = W4
      have hx4 : C7 W4 w.heap.size 3 m a b c d n := by subst hW; refine ⟨?_, ?_, ?_, ?_, ?_, ?_, ?_, ?_⟩ <;> first | (simp [go_sem, *]; done) | (simp [World.setCell]; omega)
      have hw4 : Below w.heap.size w W4 := by subst hW; go_grown
      have hs4 := hw4.size
      clear hW x0 x1 x2 x3 x4 x5 x6 x7
      obtain ⟨x0, x1, x2, x3, x4, x5, x6, x7⟩ := id hx4
      have HO := Lib.hid (ownA_lit (w := W4) (B := w.heap.size) #[.int .i64 3, .int .i64 m, .int .i64 a, .int .i64 b, .int .i64 c, .int .i64 d, .int .i64 n] [⟨3, m, a, b, c, d, n⟩] hw4.size (by simp) rfl)
      go_wp2
      go_ret2
      exact ⟨_, rfl, HO.out, by go_grown⟩
    · obtain ⟨t, ht⟩ : ∃ t, [(⟨2, m, a, b, c, d, n⟩ : AtD)].all avD = t := ⟨_, rfl⟩
      obtain ⟨M, hM⟩ : ∃ M, M = if t then [(⟨2, m, a, b, c, d, n⟩ : AtD)] else [] := ⟨_, rfl⟩
      have HT := Lib.hid ht
      have HM := Lib.hid hM
      have e1 : (ngL 3 m a b c d n).all avD = t := ht
      have e2 : (if (ngL 3 m a b c d n).all avD = true then ngL 3 m a b c d n else []) = M := by rw [e1, hM]; rfl
      have HALL := Lib.hid (show [(⟨2, m, a, b, c, d, n⟩ : AtD)].all avD = true from HALL2.out (by omega))
      rw [e2, e1]
      clear ht hM e1 e2
      go_enter Try.func72, Try.ntmps72
      go_wp2_with fail
      generalize hW : World.alloc _ _ = W
      have hx : C7 W w.heap.size 3 m a b c d n := by subst hW; exact (by refine ⟨?_, ?_, ?_, ?_, ?_, ?_, ?_, ?_⟩ <;> first | (simp [go_sem]; done) | (simp; omega))
      have fx : Hid (∀ o, W.frozen? ⟨w.heap.size, o, none⟩ = false) := by intro o; subst hW; simp [go_sem]
      have hw : Below w.heap.size w W := by subst hW; go_grown
      clear hW
      refine (AtomValid_is _ _ _ _ _ _ _ true _ HA.out).mono ?_
      rintro e w1 ⟨rfl, hb1⟩
      have hw1 := below_on hw hb1
      have hx1 := c7_on hx hb1
      have fx1 : Hid _ := fz7_on hx.1 fx hb1
      clear hx hw fx hb1
      go_wp2_with fail
      refine (multiples_new 0 0 0 0 1 w1).mono ?_
      rintro e w2 ⟨b2, rfl, h2, hb2, hbb2⟩
      have hx2 := c7_on hx1 hb2
      have fx2 : Hid _ := fz7_on hx1.1 fx1 hb2
      obtain ⟨x0, x1, x2, x3, x4, x5, x6, x7⟩ := id hx2
      have hw2 := below_on hw1 hb2
      clear hx1 fx1 hb2
      go_wp2_with fail
      refine (multiples_new a b c d n w2).mono ?_
      rintro e w3 ⟨b3, rfl, h3, hb3, hbb3⟩
      have hw3 := below_on hw2 hb3
      have fx3 := fz7_on hx2.1 fx2 hb3
      obtain ⟨x0, x1, x2, x3, x4, x5, x6, x7⟩ := c7_on hx2 hb3
      have hs3 := hw3.size
      have htt : t = true := by rw [← HT.out]; exact HALL.out
      subst htt
      have hMM := HM.out
      simp only [if_true] at hMM
      subst hMM
      clear h2 h3 hb3 hx2 fx2
      go_upto_region 13 with fail
      generalize hW : World.setCell _ _ _ = W4
      have hx4 : C7 W4 w.heap.size 2 m a b c d n := by subst hW; refine ⟨?_, ?_, ?_, ?_, ?_, ?_, ?_, ?_⟩ <;> first | (simp [go_sem, *]; done) | (simp [World.setCell]; omega)
      have hw4 : Below w.heap.size w W4 := by subst hW; go_grown
      have hs4 := hw4.size
      clear hW x0 x1 x2 x3 x4 x5 x6 x7
      obtain ⟨x0, x1, x2, x3, x4, x5, x6, x7⟩ := id hx4
      have HO := Lib.hid (ownA_lit (w := W4) (B := w.heap.size) #[.int .i64 2, .int .i64 m, .int .i64 a, .int .i64 b, .int .i64 c, .int .i64 d, .int .i64 n] [⟨2, m, a, b, c, d, n⟩] hw4.size (by simp) rfl)
      go_wp2
      go_ret2
      exact ⟨_, rfl, HO.out, by go_grown⟩

end Go.Proofs.Ytahilpccnabbgaa
