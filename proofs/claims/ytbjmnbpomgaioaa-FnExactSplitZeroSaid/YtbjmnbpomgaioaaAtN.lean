/- Contracts of the model's l2All, l2Negate and NegateAtom. -/
import Derived.Test.YtbjmnbpomgaioaaAtM
namespace Go.Proofs.Ytbjmnbpomgaioaa
open Go.RowKit

def avD (x : AtD) : Bool := avB x.k x.m x.a x.b x.c x.d x.n
/-- The atoms of which one is true where an atom is false. -/
def ngL (k m a b c d n : Int) : List AtD :=
  if k = 0 then [mostD (-a) (-b) (-c) (-d) (-n + 1)] else if k = 1 then [mostD a b c d (n + 1), mostD (-a) (-b) (-c) (-d) (-n + 1)] else if k = 2 then [⟨3, m, a, b, c, d, n⟩] else [⟨2, m, a, b, c, d, n⟩]
def ngOk (k m a b c d n : Int) : Bool := avB k m a b c d n && (ngL k m a b c d n).all avD

theorem ownA_lit2 (w : World) (o : Obj) (cs : Array Value) (L : List AtD) (hl : L.length ≤ 1000) (hcs : cs.toList = AL L) : OwnA ((w.alloc o).alloc (.cells cs 41)) w.heap.size (.slice (some ⟨w.heap.size + 1, 0, none⟩) L.length L.length) L := by
  have h := ownA_lit (w := w.alloc o) (B := w.heap.size) cs L (by simp) hl hcs
  have e : (w.alloc o).heap.size = w.heap.size + 1 := by simp
  rwa [e] at h

/-- A new list of atoms. -/
def AtvT (L : List AtD) (w : World) (e : Ending) (w' : World) : Prop := ∃ v, e = .returned v ∧ OwnA w' w.heap.size v L ∧ Below w.heap.size w w'

set_option maxRecDepth 10000 in
set_option maxHeartbeats 2000000 in
theorem l2Negate_t (k m a b c d n : Int) (w : World) (hav : avB k m a b c d n = true) :
    Calls Try.prog 69 #[.agg #[.int .i64 k, .int .i64 m, .int .i64 a, .int .i64 b, .int .i64 c, .int .i64 d, .int .i64 n]] w (AtvT (ngL k m a b c d n) w) := by
  have hk := (avB_cases hav).1
  have htv := (avB_cases hav).2
  have HM := Lib.hid fun W => l2Most_neg a b c d n 1 W htv (by omega)
  have HP := Lib.hid fun W => l2Most_pos a b c d n 1 W htv (by omega)
  clear hav htv
  have hk' : k = 0 ∨ k = 1 ∨ k = 2 ∨ k = 3 := by omega
  clear hk
  rcases hk' with rfl | rfl | rfl | rfl
  · show Calls Try.prog 69 #[.agg #[.int .i64 0, .int .i64 m, .int .i64 a, .int .i64 b, .int .i64 c, .int .i64 d, .int .i64 n]] w (AtvT [mostD (-a) (-b) (-c) (-d) (-n + 1)] w)
    go_enter Try.func69, Try.ntmps69
    go_wp2_with fail
    refine (HM.out _).mono ?_
    rintro e w1 ⟨rfl, hb1⟩
    have hw1 : Below w.heap.size w w1 := below_on (by go_grown) hb1
    have hs1 := hw1.size
    have HO := Lib.hid (ownA_lit (w := w1) (B := w.heap.size) #[.int .i64 0, .int .i64 0, .int .i64 (-a), .int .i64 (-b), .int .i64 (-c), .int .i64 (-d), .int .i64 (-n + 1)] [mostD (-a) (-b) (-c) (-d) (-n + 1)] hw1.size (by simp) rfl)
    clear hb1
    go_wp2
    go_ret
    exact ⟨_, rfl, HO.out, by go_grown⟩
  · show Calls Try.prog 69 #[.agg #[.int .i64 1, .int .i64 m, .int .i64 a, .int .i64 b, .int .i64 c, .int .i64 d, .int .i64 n]] w (AtvT [mostD a b c d (n + 1), mostD (-a) (-b) (-c) (-d) (-n + 1)] w)
    go_enter Try.func69, Try.ntmps69
    go_wp2_with fail
    generalize hW : World.alloc _ _ = W1
    have hx1 : C7 W1 w.heap.size 1 m a b c d n := by subst hW; exact (by refine ⟨?_, ?_, ?_, ?_, ?_, ?_, ?_, ?_⟩ <;> first | (simp [go_sem]; done) | (simp; omega))
    have hw1 : Below w.heap.size w W1 := by subst hW; go_grown
    clear hW
    obtain ⟨x0, x1, x2, x3, x4, x5, x6, x7⟩ := id hx1
    refine wp_region_held_drew (S := (fun w' => Below W1.heap.size W1 w' ∧ w'.cell? ⟨w.heap.size, 0, none⟩ = some (.int .i64 1) ∧ w'.cell? ⟨w.heap.size, 1, none⟩ = some (.int .i64 m) ∧ w'.cell? ⟨w.heap.size, 2, none⟩ = some (.int .i64 a) ∧ w'.cell? ⟨w.heap.size, 3, none⟩ = some (.int .i64 b) ∧ w'.cell? ⟨w.heap.size, 4, none⟩ = some (.int .i64 c) ∧ w'.cell? ⟨w.heap.size, 5, none⟩ = some (.int .i64 d) ∧ w'.cell? ⟨w.heap.size, 6, none⟩ = some (.int .i64 n))) (by kernel_rfl) ?_ (fun hHeld => ?_)
    · try dsimp only
      exact keep7 hx1 (by go_grown)
    refine wpAnyH_take (i := 0) (oi := { dst := some 13, op := Go.Op.fieldAddr 41 (Go.Operand.tmp 1) 2, type := 0, pos := "l2_atoms.go:110", after := #[], guard := none }) (v := ?_) rfl (by kernel_rfl) (by kernel_rfl) (by kernel_rfl) (fun _ _ _ h => h) (Or.inl ⟨by rfl, ?_⟩) (by assumption) ?_
    rotate_left
    · (intro w hSw; (try dsimp only at hSw); first | (go_simp; done) | (go_simp; with_reducible rfl))
    try simp only [Act.put, List.setIfInBounds_toArray, List.set_cons_zero, List.set_cons_succ]
    refine wpAnyH_take (i := 1) (oi := { dst := some 14, op := Go.Op.load 39 (Go.Operand.tmp 13), type := 39, pos := "l2_atoms.go:110", after := #[{ on := 0, ground := Go.Ground.data }], guard := none }) (v := ?_) rfl (by kernel_rfl) (by kernel_rfl) (by kernel_rfl) (fun _ _ _ h => h) (Or.inl ⟨by rfl, ?_⟩) (by assumption) ?_
    rotate_left
    · (intro w hSw; (try dsimp only at hSw); first | (go_simp; done) | (go_simp; with_reducible rfl))
    try simp only [Act.put, List.setIfInBounds_toArray, List.set_cons_zero, List.set_cons_succ]
    refine wpAnyH_take (i := 3) (oi := { dst := some 16, op := Go.Op.fieldAddr 41 (Go.Operand.tmp 1) 2, type := 0, pos := "l2_atoms.go:110", after := #[], guard := none }) (v := ?_) rfl (by kernel_rfl) (by kernel_rfl) (by kernel_rfl) (fun _ _ _ h => h) (Or.inl ⟨by rfl, ?_⟩) (by assumption) ?_
    rotate_left
    · (intro w hSw; (try dsimp only at hSw); first | (go_simp; done) | (go_simp; with_reducible rfl))
    try simp only [Act.put, List.setIfInBounds_toArray, List.set_cons_zero, List.set_cons_succ]
    refine wpAnyH_take (i := 4) (oi := { dst := some 17, op := Go.Op.load 39 (Go.Operand.tmp 16), type := 39, pos := "l2_atoms.go:110", after := #[{ on := 3, ground := Go.Ground.data }], guard := none }) (v := ?_) rfl (by kernel_rfl) (by kernel_rfl) (by kernel_rfl) (fun _ _ _ h => h) (Or.inl ⟨by rfl, ?_⟩) (by assumption) ?_
    rotate_left
    · (intro w hSw; (try dsimp only at hSw); first | (go_simp; done) | (go_simp; with_reducible rfl))
    try simp only [Act.put, List.setIfInBounds_toArray, List.set_cons_zero, List.set_cons_succ]
    refine wpAnyH_ready (rs := [2]) (by kernel_rfl) (by simp) ?_
    refine AllReadyH.cons (o := { dst := some 15, op := Go.Op.call { callee := Go.Callee.value (Go.Operand.func 77), args := #[Go.Operand.const (Go.Value.int Go.IntKind.i64 1), Go.Operand.tmp 14, Go.Operand.const (Go.Value.int Go.IntKind.i64 1)], argTypes := #[3, 39, 3] }, type := 41, pos := "l2_atoms.go:110", after := #[{ on := 1, ground := Go.Ground.data }], guard := none }) rfl (fun K hK => ?_) AllReadyH.nil
    go_simp
    (first | (go_at_call 77; (with_reducible refine (HP.out _).mono ?_); rintro e w4 ⟨rfl, hb4⟩; have hbb4 := below_on (w := W1) (by go_grown) hb4; have hsb4 : W1.heap.size ≤ w4.heap.size := hbb4.size) | (go_at_call 77; (with_reducible refine (HM.out _).mono ?_); rintro e w5 ⟨rfl, hb5⟩; have hbb5 := below_on hbb4 hb5; have hsb5 : W1.heap.size ≤ w5.heap.size := hbb5.size))
    (try go_wp2_with fail)
    refine hK.out _ _ ?_ (fun hHeld => ?_)
    · try dsimp only
      exact keep7 hx1 (by go_grown)
    clear hK K
    try simp only [Act.put, List.setIfInBounds_toArray, List.set_cons_zero, List.set_cons_succ]
    refine wpAnyH_ready (rs := [5]) (by kernel_rfl) (by simp) ?_
    refine AllReadyH.cons (o := { dst := some 18, op := Go.Op.call { callee := Go.Callee.value (Go.Operand.func 77), args := #[Go.Operand.const (Go.Value.int Go.IntKind.i64 (-1)), Go.Operand.tmp 17, Go.Operand.const (Go.Value.int Go.IntKind.i64 1)], argTypes := #[3, 39, 3] }, type := 41, pos := "l2_atoms.go:110", after := #[{ on := 4, ground := Go.Ground.data }, { on := 2, ground := Go.Ground.chain }], guard := none }) rfl (fun K hK => ?_) AllReadyH.nil
    go_simp
    (first | (go_at_call 77; (with_reducible refine (HP.out _).mono ?_); rintro e w4 ⟨rfl, hb4⟩; have hbb4 := below_on (w := W1) (by go_grown) hb4; have hsb4 : W1.heap.size ≤ w4.heap.size := hbb4.size) | (go_at_call 77; (with_reducible refine (HM.out _).mono ?_); rintro e w5 ⟨rfl, hb5⟩; have hbb5 := below_on hbb4 hb5; have hsb5 : W1.heap.size ≤ w5.heap.size := hbb5.size))
    (try go_wp2_with fail)
    refine hK.out _ _ ?_ (fun hHeld => ?_)
    · try dsimp only
      exact keep7 hx1 (by go_grown)
    clear hK K
    try simp only [Act.put, List.setIfInBounds_toArray, List.set_cons_zero, List.set_cons_succ]
    refine wpAnyH_ready (rs := [6]) (by kernel_rfl) (by simp) ?_
    refine AllReadyH.cons (o := { dst := some 19, op := Go.Op.buildSlice 36 2 #[(0, Go.Operand.tmp 15), (1, Go.Operand.tmp 18)], type := 36, pos := "l2_atoms.go:110", after := #[{ on := 2, ground := Go.Ground.data }, { on := 5, ground := Go.Ground.data }], guard := none }) rfl (fun K hK => ?_) AllReadyH.nil
    go_simp
    refine hK.out _ _ ?_ (fun hHeld => ?_)
    · try dsimp only
      exact keep7 hx1 (by go_grown)
    clear hK K
    try simp only [Act.put, List.setIfInBounds_toArray, List.set_cons_zero, List.set_cons_succ]
    refine wpAnyH_take (i := 7) (oi := { dst := some 2, op := Go.Op.assign (Go.Operand.tmp 19), type := 36, pos := "l2_atoms.go:110", after := #[{ on := 6, ground := Go.Ground.data }, { on := 5, ground := Go.Ground.chain }, { on := 0, ground := Go.Ground.phase }, { on := 1, ground := Go.Ground.phase }, { on := 2, ground := Go.Ground.phase }, { on := 3, ground := Go.Ground.phase }, { on := 4, ground := Go.Ground.phase }, { on := 5, ground := Go.Ground.phase }, { on := 6, ground := Go.Ground.phase }], guard := none }) (v := ?_) rfl (by kernel_rfl) (by kernel_rfl) (by kernel_rfl) (fun _ _ _ h => h) (Or.inl ⟨by rfl, ?_⟩) (by assumption) ?_
    rotate_left
    · (intro w hSw; (try dsimp only at hSw); first | (go_simp; done) | (go_simp; with_reducible rfl))
    try simp only [Act.put, List.setIfInBounds_toArray, List.set_cons_zero, List.set_cons_succ]
    refine wpAnyH_done (by kernel_rfl) ?_ _
    have hw5 := below_on hw1 hbb5
    have hs5 := hw5.size
    have HO := Lib.hid (ownA_lit (w := w5) (B := w.heap.size) #[.int .i64 0, .int .i64 0, .int .i64 a, .int .i64 b, .int .i64 c, .int .i64 d, .int .i64 (n + 1), .int .i64 0, .int .i64 0, .int .i64 (-a), .int .i64 (-b), .int .i64 (-c), .int .i64 (-d), .int .i64 (-n + 1)] [mostD a b c d (n + 1), mostD (-a) (-b) (-c) (-d) (-n + 1)] hw5.size (by simp) rfl)
    go_wp2
    go_ret
    exact ⟨_, rfl, HO.out, by go_grown⟩
  · show Calls Try.prog 69 #[.agg #[.int .i64 2, .int .i64 m, .int .i64 a, .int .i64 b, .int .i64 c, .int .i64 d, .int .i64 n]] w (AtvT [⟨3, m, a, b, c, d, n⟩] w)
    have HO := Lib.hid (ownA_lit2 w (.cells #[.int .i64 2, .int .i64 m, .int .i64 a, .int .i64 b, .int .i64 c, .int .i64 d, .int .i64 n] 41) #[.int .i64 3, .int .i64 m, .int .i64 a, .int .i64 b, .int .i64 c, .int .i64 d, .int .i64 n] [⟨3, m, a, b, c, d, n⟩] (by simp) rfl)
    go_enter Try.func69, Try.ntmps69
    go_wp2
    go_ret
    exact ⟨_, rfl, HO.out, by go_grown⟩
  · show Calls Try.prog 69 #[.agg #[.int .i64 3, .int .i64 m, .int .i64 a, .int .i64 b, .int .i64 c, .int .i64 d, .int .i64 n]] w (AtvT [⟨2, m, a, b, c, d, n⟩] w)
    have HO := Lib.hid (ownA_lit2 w (.cells #[.int .i64 3, .int .i64 m, .int .i64 a, .int .i64 b, .int .i64 c, .int .i64 d, .int .i64 n] 41) #[.int .i64 2, .int .i64 m, .int .i64 a, .int .i64 b, .int .i64 c, .int .i64 d, .int .i64 n] [⟨2, m, a, b, c, d, n⟩] (by simp) rfl)
    go_enter Try.func69, Try.ntmps69
    go_wp2
    go_ret
    exact ⟨_, rfl, HO.out, by go_grown⟩

/-- The same list, if all its atoms are valid. -/
def AllT (v : Value) (L : List AtD) (w : World) (e : Ending) (w' : World) : Prop :=
  Below w.heap.size w w' ∧ ((L.all avD = true ∧ e = .returned (.tuple #[v, .bool true])) ∨ (L.all avD = false ∧ ∃ u, e = .returned (.tuple #[u, .bool false]) ∧ OwnA w' w.heap.size u []))

def AllR (L : List AtD) (w : World) (ok i : Value) (wr : World) : Prop := ∃ k : Nat, i = .int .i64 k ∧ k ≤ L.length ∧ ok = .bool ((L.take k).all avD) ∧ Below w.heap.size w wr

set_option maxRecDepth 10000 in
set_option maxHeartbeats 1000000 in
theorem l2All_t (v : Value) (L : List AtD) (w : World) (h : RdA w v L) (hL : L.length ≤ 1000) :
    Calls Try.prog 68 #[v, .bool true] w (AllT v L w) := by
  obtain ⟨sp, cap, rfl, hc⟩ := h
  obtain ⟨N, hN⟩ : ∃ N, N = L.length := ⟨_, rfl⟩
  rw [← hN] at hL hc ⊢
  have HN := Lib.hid hN
  have HC := Lib.hid hc
  clear hN hc
  go_enter Try.func68, Try.ntmps68
  go_wp2
  go_loopw [1, 6] (fun ok i wr => AllR L w ok i wr) (fun _ i _ => N - (intOf i).toNat)
  case atStart => exact ⟨0, rfl, by omega, rfl, Below.refl _ _⟩
  case round =>
    obtain ⟨k, rfl, hk, rfl, hbw⟩ := hrel
    have hk' : k ≤ N := by rw [HN.out]; exact hk
    clear hk
    by_cases hlt : k < N
    · have hkN : (k : Int) < (N : Int) := by omega
      have hk0 : (0 : Int) ≤ k := by omega
      obtain ⟨y, hy⟩ : ∃ y, L[k]? = some y := ⟨_, List.getElem?_eq_getElem (by rw [← HN.out]; exact hlt)⟩
      have HT := Lib.hid (show (L.take (k + 1)).all avD = ((L.take k).all avD && avD y) by rw [List.take_add_one, hy]; simp)
      have HNN := Lib.hid (show k + 1 ≤ L.length by rw [← HN.out]; omega)
      cases hok : (L.take k).all avD with
      | false =>
        have HK := Lib.hid hok
        clear hok hy
        go_wp2
        go_roundw
        case rel => exact ⟨k + 1, by go_num, HNN.out, by rw [HT.out, HK.out]; rfl, hbw⟩
        case measure => simp [intOf]; omega
      | true =>
        have HK := Lib.hid hok
        obtain ⟨b, rfl, hbl, hcell⟩ := HC.out.resolve_left (by omega)
        have f : ∀ o, wr.cell? ⟨b, o, none⟩ = w.cell? ⟨b, o, none⟩ := fun o => hbw.cell (p := ⟨b, o, none⟩) hbl
        have r1 : ARow wr b (k * 7) y := by have := hcell k y hy; simpa only [ARow, f] using this
        obtain ⟨c0, c1, c2, c3, c4, c5, c6⟩ := r1
        have HB := Lib.hid hbw
        obtain ⟨t, ht⟩ : ∃ t, avD y = t := ⟨_, rfl⟩
        have HA := Lib.hid (show avB y.k y.m y.a y.b y.c y.d y.n = t from ht)
        rw [ht] at HT
        clear hok hy hcell f hbw ht
        go_wp2_with fail
        refine (specAtomValid_is _ _ _ _ _ _ _ t _ HA.out).mono ?_
        rintro e w1 ⟨rfl, hb1⟩
        have HB1 := Lib.hid (below_on HB.out hb1)
        clear c0 c1 c2 c3 c4 c5 c6 hb1
        go_wp2
        go_roundw
        case rel => exact ⟨k + 1, by go_num, HNN.out, by rw [HT.out, HK.out]; rfl, HB1.out⟩
        case measure => simp [intOf]; omega
    · have hkN : ¬ (k : Int) < (N : Int) := by omega
      obtain rfl : k = N := by omega
      have HT := Lib.hid (show (L.take k).all avD = L.all avD by rw [HN.out, List.take_length])
      have hsw := hbw.size
      cases hok : (L.take k).all avD with
      | true =>
        have HK := Lib.hid hok
        clear hok
        go_wp2
        go_ret2
        exact ⟨hbw, .inl ⟨by rw [← HT.out]; exact HK.out, rfl⟩⟩
      | false =>
        have HK := Lib.hid hok
        have HO := Lib.hid (ownA_lit (w := wr) (B := w.heap.size) #[] [] hbw.size (by simp) rfl)
        clear hok
        go_wp2
        go_ret2
        exact ⟨by go_grown, .inr ⟨by rw [← HT.out]; exact HK.out, _, rfl, HO.out⟩⟩

theorem ngL_len (k m a b c d n : Int) : (ngL k m a b c d n).length ≤ 2 := by
  unfold ngL
  repeat' split
  all_goals simp

set_option maxHeartbeats 1000000 in
theorem specNegateAtom_t (k m a b c d n : Int) (w : World) :
    Calls Try.prog 19 #[.agg #[.int .i64 k, .int .i64 m, .int .i64 a, .int .i64 b, .int .i64 c, .int .i64 d, .int .i64 n]] w (AtsT (if ngOk k m a b c d n = true then ngL k m a b c d n else []) (ngOk k m a b c d n) w) := by
  cases hav : avB k m a b c d n with
  | false =>
    have HA := Lib.hid hav
    rw [show ngOk k m a b c d n = false by unfold ngOk; rw [hav]; rfl, if_neg (by simp)]
    clear hav
    go_enter Try.func19, Try.ntmps19
    go_wp2_with fail
    generalize hW : World.alloc _ _ = W
    have hw : Below w.heap.size w W := by subst hW; go_grown
    clear hW
    refine (specAtomValid_is _ _ _ _ _ _ _ false _ HA.out).mono ?_
    rintro e w1 ⟨rfl, hb1⟩
    have hw1 := below_on hw hb1
    have hs1 := hw1.size
    have HO := Lib.hid (ownA_lit (w := w1) (B := w.heap.size) #[] [] hw1.size (by simp) rfl)
    go_wp2
    go_ret2
    exact ⟨_, rfl, HO.out, by go_grown⟩
  | true =>
    have HA := Lib.hid hav
    have HN := Lib.hid fun W => l2Negate_t k m a b c d n W hav
    have hlen := ngL_len k m a b c d n
    have hok : ngOk k m a b c d n = (ngL k m a b c d n).all avD := by unfold ngOk; rw [hav, Bool.true_and]
    rw [hok]
    obtain ⟨L, hL⟩ : ∃ L, L = ngL k m a b c d n := ⟨_, rfl⟩
    rw [← hL] at HN hlen ⊢
    obtain ⟨t, ht⟩ : ∃ t, L.all avD = t := ⟨_, rfl⟩
    obtain ⟨M, hM⟩ : ∃ M, (if L.all avD = true then L else []) = M := ⟨_, rfl⟩
    rw [hM, ht]
    have HT := Lib.hid ht
    have HMM := Lib.hid hM
    clear hav hok hL ht hM
    go_enter Try.func19, Try.ntmps19
    go_wp2_with fail
    generalize hW : World.alloc _ _ = W
    have hx : C7 W w.heap.size k m a b c d n := by subst hW; exact (by refine ⟨?_, ?_, ?_, ?_, ?_, ?_, ?_, ?_⟩ <;> first | (simp [go_sem]; done) | (simp; omega))
    have hw : Below w.heap.size w W := by subst hW; go_grown
    clear hW
    refine (specAtomValid_is _ _ _ _ _ _ _ true _ HA.out).mono ?_
    rintro e w1 ⟨rfl, hb1⟩
    obtain ⟨x0, x1, x2, x3, x4, x5, x6, x7⟩ := c7_on hx hb1
    have hw1 := below_on hw hb1
    go_wp2_with fail
    refine (HN.out _).mono ?_
    rintro e w2 ⟨v, rfl, ho, hb2⟩
    have hw2 := below_on hw1 hb2
    have HO := Lib.hid (show OwnA w2 w.heap.size v L from own_mono ho hw1.size)
    clear x0 x1 x2 x3 x4 x5 x6 x7
    have HR := Lib.hid (ownA_reads HO.out)
    clear ho
    go_wp2_with fail
    refine (l2All_t v L w2 HR.out (by omega)).mono ?_
    rintro e w3 ⟨hb3, hr⟩
    have hw3 := below_on hw2 hb3
    rcases hr with ⟨ha, rfl⟩ | ⟨ha, u, rfl, ho3⟩
    · have HA2 := Lib.hid ha
      have HO3 := Lib.hid (show OwnA w3 w.heap.size v L from own_below HO.out hb3)
      clear ha
      go_wp2
      go_ret2
      have ht : t = true := HT.out.symm.trans HA2.out
      subst ht
      have hM := HMM.out
      rw [if_pos HA2.out] at hM
      subst hM
      exact ⟨_, rfl, HO3.out, hw3⟩
    · have HA2 := Lib.hid ha
      have HO3 := Lib.hid (show OwnA w3 w.heap.size u [] from own_mono ho3 hw2.size)
      clear ha ho3
      go_wp2
      go_ret2
      have ht : t = false := HT.out.symm.trans HA2.out
      subst ht
      have hM := HMM.out
      rw [if_neg (by rw [HA2.out]; simp)] at hM
      subst hM
      exact ⟨_, rfl, HO3.out, hw3⟩

end Go.Proofs.Ytbjmnbpomgaioaa
