/- Several texts in one: NfH NfI. -/
import Derived.Test.YtfiddndgidfgoaaNm

/- The contract of the model's l4Neg. -/
namespace Go.Proofs.Ytfiddndgidfgoaa
open Go.RowKit

theorem ng_snoc (b : Bool) (h : FH) (s : Fo) : ∀ f : Fo, (f.app (.cons h s .nil)).ng b = (f.ng b).app (.cons (ngF b h s).1 (ngF b h s).2 .nil) := by
  intro f
  induction f with
  | nil => rfl
  | cons h' s' r _ ih => simp only [Fo.app, Fo.ng, ih]

/-- A formula whose list lies in new blocks. -/
def LnT (q : FH × Fo) (w : World) (e : Ending) (w' : World) : Prop := ∃ s, e = .returned (.agg #[.int .i64 q.1.k, .int .i64 q.1.ak, .int .i64 q.1.am, .int .i64 q.1.a, .int .i64 q.1.b, .int .i64 q.1.c, .int .i64 q.1.d, .int .i64 q.1.n, .int .i64 q.1.v, s]) ∧ FS w' w.heap.size q.2 s ∧ Below w.heap.size w w'
def LnF (b : Bool) (h : FH) (f : Fo) : Prop := ownB h f.len = true → f.okB = true → ∀ (w : World) (lo : Nat) (s : Value), FS w lo f s → Calls Try.prog 89 #[.agg #[.int .i64 h.k, .int .i64 h.ak, .int .i64 h.am, .int .i64 h.a, .int .i64 h.b, .int .i64 h.c, .int .i64 h.d, .int .i64 h.n, .int .i64 h.v, s], .bool b] w (LnT (ngF b h f) w)

def LnR (b : Bool) (f : Fo) (s : Value) (bb o lo : Nat) (w W0 : World) (h ho : FH) (i : Value) (wr : World) : Prop :=
  ∃ (k : Nat) (pre0 r : Fo) (v : Value), i = .int .i64 k ∧ pre0.len = k ∧ pre0.app r = f ∧ r.okB = true ∧ FEl w lo r bb (o + k * 10) ∧
    MlSt w W0 w.heap.size (w.heap.size + 1 + 1) (w.heap.size + 1) h ho s v wr ∧ FOwn wr W0.heap.size W0.heap.size v (pre0.ng b)

theorem fs_len0 {w : World} {lo : Nat} {f : Fo} {s : Value} (hs : FS w lo f s) : ∃ a c, s = .slice a f.len c := by
  rcases hs with ⟨h0, x, cap, e, _⟩ | ⟨_, b, o, cap, e, _⟩
  · exact ⟨_, _, by rw [e, h0]⟩
  · exact ⟨_, _, e⟩
theorem fs_shape {w : World} {lo : Nat} {f : Fo} {sa : Option Addr} {sc : Nat} (hs : FS w lo f (.slice sa f.len sc)) : ∃ b o, FEl w lo f b (o + 0 * 10) ∧ (0 < f.len → sa = some ⟨b, o, none⟩ ∧ sc ≤ maxLen ∧ f.len ≤ sc ∧ lo ≤ b ∧ b < w.heap.size) := by
  rcases hs with ⟨h0, _⟩ | ⟨h0, b, o, cap, e, hcc1, hcc2, hlo, hb, hel⟩
  · obtain rfl : f = .nil := Fo.len_zero h0
    exact ⟨0, 0, trivial, fun h => absurd h (by simp [Fo.len])⟩
  · injection e with e1 e2 e3
    subst e1 e3
    exact ⟨b, o, by simpa using hel, fun _ => ⟨rfl, hcc2, hcc1, hlo, hb⟩⟩


set_option maxRecDepth 10000 in
set_option maxHeartbeats 4000000 in
/-- A formula that is neither a negation nor an atom. -/
theorem ln_keep (h : FH) (f : Fo) (HF : ∀ h s, s.size < f.size → ∀ b, LnF b h s) (h3 : h.k ≠ 3) (h2 : h.k ≠ 2) : LnF false h f := by
  intro ho hok w lo s hs
  have H := Lib.hid HF
  have hq := ngF_else (b := false) (f := f) h3 (.inl rfl)
  obtain ⟨sa, sc, rfl⟩ := fs_len0 hs
  obtain ⟨bb, o, hel, hsh⟩ := fs_shape hs
  have HEL := Lib.hid hel
  have HSH := Lib.hid hsh
  have hlen := Fo.len_le f
  have hf6 : f.len ≤ 2 := by rcases own_kind ho with ⟨h, _⟩ | ⟨h, _⟩ | ⟨h, _⟩ <;> omega
  have hkk : h.k = 0 ∨ h.k = 1 ∨ h.k = 4 ∨ h.k = 5 ∨ h.k = 6 ∨ h.k = 7 := by rcases own_kind ho with ⟨_, h | h | h⟩ | ⟨_, h | h | h⟩ | ⟨_, h | h⟩ <;> omega
  obtain ⟨z1, z2, z3, z4, z5, z6, z7⟩ := own_zero ho h2
  have b3 : ((h.k : Int) == 3) = false := by simpa using h3
  have b2 : ((h.k : Int) == 2) = false := by simpa using h2
  obtain ⟨kk, ak, am, a, bq, c, d, n, u⟩ := h
  dsimp only at z1 z2 z3 z4 z5 z6 z7 b3 b2 hkk
  subst z1 z2 z3 z4 z5 z6 z7
  have HOK := Lib.hid hok
  clear HF hs hel hsh ho hok h2 h3
  have HQ := Lib.hid hq
  clear hq hkk
  go_enter Try.func89, Try.ntmps89
  go_upto_region 10 with fail
  generalize hW0 : World.alloc _ _ = W0
  have hst : MlSt w W0 w.heap.size (w.heap.size + 1 + 1) (w.heap.size + 1) ⟨kk, 0, 0, 0, 0, 0, 0, 0, u⟩ ⟨kk, 0, 0, 0, 0, 0, 0, 0, u⟩ (.slice sa f.len sc) (.slice none 0 0) W0 := by
    have hz : w.heap.size + 1 + 1 < W0.heap.size := by subst hW0; simp only [World.size_alloc]; omega
    refine ⟨?_, ?_, ?_, ?_, ?_, ?_, Nat.le_refl _, by omega, by omega, by omega, by omega, by omega, by omega, by omega, by omega, by omega⟩
    · subst hW0; exact (by refine ⟨?_, ?_, ?_, ?_, ?_, ?_, ?_, ?_, ?_, ?_, ?_⟩ <;> first | (simp [go_sem]; done) | (simp; omega))
    · subst hW0; exact (by refine ⟨?_, ?_, ?_, ?_, ?_, ?_, ?_, ?_, ?_, ?_, ?_⟩ <;> first | (simp [go_sem]; done) | (simp; omega))
    · intro o; subst hW0; simp [go_sem]
    · subst hW0; exact (by refine ⟨?_, ?_, ?_, ?_, ?_, ?_, ?_, ?_, ?_, ?_, ?_⟩ <;> first | (simp [go_sem]; done) | (simp; omega))
    · intro o; subst hW0; simp [go_sem]
    · subst hW0; go_grown
  have HST := Lib.hid (show LnR false f (.slice sa f.len sc) bb o lo w W0 ⟨kk, 0, 0, 0, 0, 0, 0, 0, u⟩ ⟨kk, 0, 0, 0, 0, 0, 0, 0, u⟩ (.int .i64 0) W0 from ⟨0, .nil, f, _, rfl, rfl, rfl, HOK.out, HEL.out, hst, fown_nil _ _ _⟩)
  clear hW0 hst b2 b3
  go_wp2_with fail
  go_loopw [6] (fun i wr => LnR false f (.slice sa f.len sc) bb o lo w W0 ⟨kk, 0, 0, 0, 0, 0, 0, 0, u⟩ ⟨kk, 0, 0, 0, 0, 0, 0, 0, u⟩ i wr) (fun i _ => f.len - (intOf i).toNat)
  case atStart => exact HST.out
  case round =>
    obtain ⟨k, pre0, r, v, rfl, hpl, hap, hrok, hr, hst, how⟩ := hrel
    clear HST
    have HAP := Lib.hid hap
    have HPL := Lib.hid hpl
    have HST := Lib.hid hst
    have HOW := Lib.hid how
    have hkf : k + r.len = f.len := by rw [← hap, Fo.app_len, hpl]
    have hszr : r.size ≤ f.size := by rw [← hap, size_app]; omega
    obtain ⟨va, vc, hv⟩ := fown_slice how
    subst hv
    have hlv : (pre0.ng false).len = k := by rw [ng_len, hpl]
    obtain ⟨⟨x0, c0, c1, c2, c3, c4, c5, c6, c7, c8, c9⟩, ⟨y0, e0, e1, e2, e3, e4, e5, e6, e7, e8, e9⟩, yf, ⟨z0, d0, d1, d2, d3, d4, d5, d6, d7, d8, d9⟩, zf, hbw, hsW, _⟩ := id hst
    rw [hlv] at e9
    have HLV := Lib.hid hlv
    have hzz : w.heap.size + 1 < W0.heap.size := HST.out.2.2.2.2.2.2.2.2.2.2.2.2.1
    have hyy : w.heap.size + 1 + 1 < W0.heap.size := HST.out.2.2.2.2.2.2.2.2.2.2.2.1
    clear hap hpl hst how hlv
    cases r with
    | nil =>
      simp only [Fo.len] at hkf
      have hkl : ¬ (k : Int) < (f.len : Int) := by omega
      have e : pre0 = f := by have := HAP.out; rwa [Fo.app_nil] at this
      subst e
      obtain rfl : k = pre0.len := by omega
      go_wp2_with fail
      generalize hW7 : World.setCell _ _ _ = W7
      have hblk7 : ∀ x, x ≠ w.heap.size + 1 → W7.heap[x]? = wr.heap[x]? := fun x hx => by subst hW7; repeat rw [Below.heap_setCell _ _ _ _ (by dsimp only; omega)]
      have hsz7 : W7.heap.size = wr.heap.size := by subst hW7; simp [World.setCell]
      obtain ⟨hx7, hb7⟩ := put10b (g := ⟨kk, 0, 0, 0, 0, 0, 0, 0, u⟩) HST.out.2.2.2.1 hW7
      have hww7 := hbw.trans (hb7 w.heap.size (by omega))
      have HS7 := Lib.hid (FS.mono (lo' := w.heap.size) (by omega) (fown_fs (fown_put HOW.out (by omega) (by omega) hblk7 hsz7) (Nat.le_refl _)))
      obtain ⟨q0, k0, k1, k2, k3, k4, k5, k6, k7, k8, k9⟩ := hx7
      rw [HLV.out] at HS7
      (try simp only [Exit.inBlock, Exit.then])
      refine bodyPost_ret (v := .agg #[.int .i64 kk, .int .i64 0, .int .i64 0, .int .i64 0, .int .i64 0, .int .i64 0, .int .i64 0, .int .i64 0, .int .i64 u, .slice va pre0.len vc]) ?_ rfl ⟨_, by rw [HQ.out]; rfl, by rw [HQ.out]; exact HS7.out, hww7⟩
      rw [results_cell1 rfl]
      go_simp
    | cons h' s' r' =>
      simp only [Fo.len] at hkf
      simp only [Fo.size] at hszr
      simp only [Fo.okB, Bool.and_eq_true] at hrok
      have hkl : (k : Int) < (f.len : Int) := by omega
      have hk0 : (0 : Int) ≤ k := by omega
      obtain ⟨rfl, hcc2, hcc1, hlo, hbb⟩ := HSH.out (by omega)
      have hcc2' := hcc2
      unfold maxLen at hcc2'
      have HR := Lib.hid hr.2
      obtain ⟨⟨sl, hrow, hsl⟩, _⟩ := FEl.below hbw (Nat.le_refl _) hlo hbb hr
      obtain ⟨la, ln, lc, rfl⟩ : ∃ a n c, sl = .slice a n c := FS.slice (w := wr) (lo := lo) (f := s') hsl
      have HC := Lib.hid (H.out h' s' (by omega) false hrok.1.1 hrok.1.2 wr.drew lo _ (FS.below (w := wr) (Below.drew (Below.refl _ _)) (Nat.le_refl _) hsl))
      have HSE := Lib.hid (show wr.cell? ⟨w.heap.size, 9, none⟩ = some (.slice (some ⟨bb, o, none⟩) f.len sc) ∧ FRow wr bb (o + k * 10) h' (.slice la ln lc) from ⟨c9, hrow⟩)
      clear hrow
      have hlen1 : k ≤ 1048576 := by omega
      clear hsl hr
      go_wp2_with fail
      refine wp_region_held_drew (S := (fun w' => w'.cell? ⟨w.heap.size, 9, none⟩ = some (.slice (some ⟨bb, o, none⟩) f.len sc) ∧ w'.cell? ⟨bb, o + k * 10, none⟩ = some (.int .i64 h'.k) ∧ w'.cell? ⟨bb, o + k * 10 + 1, none⟩ = some (.int .i64 h'.ak) ∧ w'.cell? ⟨bb, o + k * 10 + 2, none⟩ = some (.int .i64 h'.am) ∧ w'.cell? ⟨bb, o + k * 10 + 3, none⟩ = some (.int .i64 h'.a) ∧ w'.cell? ⟨bb, o + k * 10 + 4, none⟩ = some (.int .i64 h'.b) ∧ w'.cell? ⟨bb, o + k * 10 + 5, none⟩ = some (.int .i64 h'.c) ∧ w'.cell? ⟨bb, o + k * 10 + 6, none⟩ = some (.int .i64 h'.d) ∧ w'.cell? ⟨bb, o + k * 10 + 7, none⟩ = some (.int .i64 h'.n) ∧ w'.cell? ⟨bb, o + k * 10 + 8, none⟩ = some (.int .i64 h'.v) ∧ w'.cell? ⟨bb, o + k * 10 + 9, none⟩ = some (.slice la ln lc))) (by kernel_rfl) ?_ (fun hHeld => ?_)
      · try dsimp only
        first | exact HSE.out | exact keepP HS5.out (show w.heap.size ≠ w.heap.size + 1 + 1 by omega) (show bb ≠ w.heap.size + 1 + 1 by omega) (fun q hq => Below.heap_setCell _ _ _ _ (by dsimp only; omega)) | exact keepE HSE.out (show w.heap.size < W0.heap.size by omega) (show bb < W0.heap.size by omega) (by go_grown)
      refine wpAnyH_take (i := 0) (oi := { dst := some 47, op := Go.Op.fieldAddr 29 (Go.Operand.tmp 5) 3, type := 0, pos := "l4_forms.go:43", after := #[], guard := none }) (v := ?_) rfl (by kernel_rfl) (by kernel_rfl) (by kernel_rfl) (fun _ _ _ h => h) (Or.inl ⟨by rfl, ?_⟩) (by assumption) ?_
      rotate_left
      · (intro w hSw; (try dsimp only at hSw); first | (go_simp; done) | (go_simp; with_reducible rfl))
      try simp only [Act.put, List.setIfInBounds_toArray, List.set_cons_zero, List.set_cons_succ]
      refine wpAnyH_take (i := 2) (oi := { dst := some 49, op := Go.Op.fieldAddr 29 (Go.Operand.tmp 2) 3, type := 0, pos := "l4_forms.go:43", after := #[], guard := none }) (v := ?_) rfl (by kernel_rfl) (by kernel_rfl) (by kernel_rfl) (fun _ _ _ h => h) (Or.inl ⟨by rfl, ?_⟩) (by assumption) ?_
      rotate_left
      · (intro w hSw; (try dsimp only at hSw); first | (go_simp; done) | (go_simp; with_reducible rfl))
      try simp only [Act.put, List.setIfInBounds_toArray, List.set_cons_zero, List.set_cons_succ]
      refine wpAnyH_take (i := 3) (oi := { dst := some 50, op := Go.Op.load 27 (Go.Operand.tmp 49), type := 27, pos := "l4_forms.go:43", after := #[{ on := 2, ground := Go.Ground.data }], guard := none }) (v := ?_) rfl (by kernel_rfl) (by kernel_rfl) (by kernel_rfl) (fun _ _ _ h => h) (Or.inl ⟨by rfl, ?_⟩) (by assumption) ?_
      rotate_left
      · (intro w hSw; (try dsimp only at hSw); first | (go_simp; done) | (go_simp; with_reducible rfl))
      try simp only [Act.put, List.setIfInBounds_toArray, List.set_cons_zero, List.set_cons_succ]
      refine wpAnyH_take (i := 4) (oi := { dst := some 51, op := Go.Op.move (Go.Operand.tmp 6), type := 3, pos := "l4_forms.go:43", after := #[], guard := none }) (v := ?_) rfl (by kernel_rfl) (by kernel_rfl) (by kernel_rfl) (fun _ _ _ h => h) (Or.inl ⟨by rfl, ?_⟩) (by assumption) ?_
      rotate_left
      · (intro w hSw; (try dsimp only at hSw); first | (go_simp; done) | (go_simp; with_reducible rfl))
      try simp only [Act.put, List.setIfInBounds_toArray, List.set_cons_zero, List.set_cons_succ]
      refine wpAnyH_take (i := 5) (oi := { dst := some 52, op := Go.Op.indexAddr 27 (Go.Operand.tmp 50) (Go.Operand.tmp 51), type := 0, pos := "l4_forms.go:43", after := #[{ on := 3, ground := Go.Ground.data }, { on := 4, ground := Go.Ground.data }], guard := none }) (v := ?_) rfl (by kernel_rfl) (by kernel_rfl) (by kernel_rfl) (fun _ _ _ h => h) (Or.inl ⟨by rfl, ?_⟩) (by assumption) ?_
      rotate_left
      · (intro w hSw; (try dsimp only at hSw); first | (go_simp; done) | (go_simp; with_reducible rfl))
      try simp only [Act.put, List.setIfInBounds_toArray, List.set_cons_zero, List.set_cons_succ]
      refine wpAnyH_take (i := 6) (oi := { dst := some 53, op := Go.Op.load 29 (Go.Operand.tmp 52), type := 29, pos := "l4_forms.go:43", after := #[{ on := 5, ground := Go.Ground.data }], guard := none }) (v := ?_) rfl (by kernel_rfl) (by kernel_rfl) (by kernel_rfl) (fun _ _ _ h => h) (Or.inl ⟨by rfl, ?_⟩) (by assumption) ?_
      rotate_left
      · (intro w hSw; (try dsimp only at hSw); first | (go_simp; done) | (go_simp; with_reducible rfl))
      try simp only [Act.put, List.setIfInBounds_toArray, List.set_cons_zero, List.set_cons_succ]
      refine wpAnyH_take (i := 7) (oi := { dst := some 54, op := Go.Op.move (Go.Operand.tmp 1), type := 4, pos := "l4_forms.go:43", after := #[], guard := none }) (v := ?_) rfl (by kernel_rfl) (by kernel_rfl) (by kernel_rfl) (fun _ _ _ h => h) (Or.inl ⟨by rfl, ?_⟩) (by assumption) ?_
      rotate_left
      · (intro w hSw; (try dsimp only at hSw); first | (go_simp; done) | (go_simp; with_reducible rfl))
      try simp only [Act.put, List.setIfInBounds_toArray, List.set_cons_zero, List.set_cons_succ]
      refine wpAnyH_ready (rs := [1, 8]) (by kernel_rfl) (by simp) ?_
      refine AllReadyH.cons (o := { dst := some 48, op := Go.Op.load 27 (Go.Operand.tmp 47), type := 27, pos := "l4_forms.go:43", after := #[{ on := 0, ground := Go.Ground.data }], guard := none }) rfl (fun K hK => ?_) (AllReadyH.cons (o := { dst := some 55, op := Go.Op.call { callee := Go.Callee.value (Go.Operand.func 89), args := #[Go.Operand.tmp 53, Go.Operand.tmp 54], argTypes := #[29, 4] }, type := 29, pos := "l4_forms.go:43", after := #[{ on := 6, ground := Go.Ground.data }, { on := 7, ground := Go.Ground.data }], guard := none }) rfl (fun K hK => ?_) AllReadyH.nil)
      ·
        go_simp
        refine hK.out _ _ ?_ (fun hHeld => ?_)
        · try dsimp only
          first | exact HSE.out | exact keepP HS5.out (show w.heap.size ≠ w.heap.size + 1 + 1 by omega) (show bb ≠ w.heap.size + 1 + 1 by omega) (fun q hq => Below.heap_setCell _ _ _ _ (by dsimp only; omega)) | exact keepE HSE.out (show w.heap.size < W0.heap.size by omega) (show bb < W0.heap.size by omega) (by go_grown)
        clear hK K
        try simp only [Act.put, List.setIfInBounds_toArray, List.set_cons_zero, List.set_cons_succ]
        refine wpAnyH_ready (rs := [8]) (by kernel_rfl) (by simp) ?_
        refine AllReadyH.cons (o := { dst := some 55, op := Go.Op.call { callee := Go.Callee.value (Go.Operand.func 89), args := #[Go.Operand.tmp 53, Go.Operand.tmp 54], argTypes := #[29, 4] }, type := 29, pos := "l4_forms.go:43", after := #[{ on := 6, ground := Go.Ground.data }, { on := 7, ground := Go.Ground.data }], guard := none }) rfl (fun K hK => ?_) AllReadyH.nil
        go_simp
        (go_at_call 89; refine HC.out.mono ?_; rintro e w4 ⟨s4, rfl, hs4, hb4⟩; have HS4 := Lib.hid hs4; obtain ⟨ga, gn, gc, rfl⟩ := hs4.slice; have hs44 : wr.heap.size ≤ w4.heap.size := hb4.size; have hlt4 : w.heap.size + 1 + 1 < w4.heap.size := (by omega); have hbl4 : Below W0.heap.size wr w4 := Below.mono (below_on (Below.drew (Below.refl _ _)) hb4) hsW; have hd9 : w4.cell? ⟨w.heap.size + 1 + 1, 9, none⟩ = some (.slice va k vc) := ((bcell hb4).1 _ 9 y0).trans e9; obtain ⟨v5, w5, hr5, ho5, hb5⟩ := fown_app (wa := wr.drew) (w4 := w4) (ngF false h' s').1 (ngF false h' s').2 ga gn gc (fown_below HOW.out (Below.drew (Below.refl _ _))) (by rw [HLV.out]; exact hlen1) (by omega) hb4 (FSP.kept (Nat.le_refl _) (fun _ _ _ => rfl) (fun q hq => ⟨Nat.le_trans hsW hq.1, .inr hq.1, hq.2⟩) (FSP.of HS4.out)); obtain ⟨a5, c5x, rfl⟩ := fown_slice ho5; rw [HLV.out] at hr5; have he9 : w5.cell? ⟨w.heap.size + 1 + 1, 9, none⟩ = some (.slice va k vc) := (World.cell?_of_block (a := ⟨w.heap.size + 1 + 1, 9, none⟩) (hb5.block _ hyy)).trans hd9; have hf5 : ∀ o, w5.frozen? ⟨w.heap.size + 1 + 1, o, none⟩ = false := (fun o => (World.frozen?_of_block (a := ⟨w.heap.size + 1 + 1, o, none⟩) (hb5.block _ hyy)).trans (((bcell hb4).2 _ o y0).trans (yf o))); have hbl5 : Below W0.heap.size wr w5 := hbl4.trans hb5; have HS5 := Lib.hid (keepE HSE.out (show w.heap.size < W0.heap.size by omega) (show bb < W0.heap.size by omega) hbl5))
        (try go_wp2_with fail)
        refine hK.out _ _ ?_ (fun hHeld => ?_)
        · try dsimp only
          first | exact HSE.out | exact keepP HS5.out (show w.heap.size ≠ w.heap.size + 1 + 1 by omega) (show bb ≠ w.heap.size + 1 + 1 by omega) (fun q hq => Below.heap_setCell _ _ _ _ (by dsimp only; omega)) | exact keepE HSE.out (show w.heap.size < W0.heap.size by omega) (show bb < W0.heap.size by omega) (by go_grown)
        clear hK K
        try simp only [Act.put, List.setIfInBounds_toArray, List.set_cons_zero, List.set_cons_succ]
        refine wpAnyH_ready (rs := [9]) (by kernel_rfl) (by simp) ?_
        refine AllReadyH.cons (o := { dst := some 56, op := Go.Op.buildSlice 27 1 #[(0, Go.Operand.tmp 55)], type := 27, pos := "l4_forms.go:43", after := #[{ on := 8, ground := Go.Ground.data }], guard := none }) rfl (fun K hK => ?_) AllReadyH.nil
        go_simp
        refine hK.out _ _ ?_ (fun hHeld => ?_)
        · try dsimp only
          first | exact HSE.out | exact keepP HS5.out (show w.heap.size ≠ w.heap.size + 1 + 1 by omega) (show bb ≠ w.heap.size + 1 + 1 by omega) (fun q hq => Below.heap_setCell _ _ _ _ (by dsimp only; omega)) | exact keepE HSE.out (show w.heap.size < W0.heap.size by omega) (show bb < W0.heap.size by omega) (by go_grown)
        clear hK K
        try simp only [Act.put, List.setIfInBounds_toArray, List.set_cons_zero, List.set_cons_succ]
        refine wpAnyH_ready (rs := [10]) (by kernel_rfl) (by simp) ?_
        refine AllReadyH.cons (o := { dst := some 57, op := Go.Op.call { callee := Go.Callee.builtin Go.Builtin.append, args := #[Go.Operand.tmp 48, Go.Operand.tmp 56], argTypes := #[27, 27] }, type := 27, pos := "l4_forms.go:43", after := #[{ on := 1, ground := Go.Ground.data }, { on := 9, ground := Go.Ground.data }, { on := 8, ground := Go.Ground.chain }], guard := none }) rfl (fun K hK => ?_) AllReadyH.nil
        rw [if_pos (by rfl)]
        (refine oper_append _ _ _ rfl rfl rfl hr5 ?_)
        refine hK.out _ _ ?_ (fun hHeld => ?_)
        · try dsimp only
          first | exact HSE.out | exact keepP HS5.out (show w.heap.size ≠ w.heap.size + 1 + 1 by omega) (show bb ≠ w.heap.size + 1 + 1 by omega) (fun q hq => Below.heap_setCell _ _ _ _ (by dsimp only; omega)) | exact keepE HSE.out (show w.heap.size < W0.heap.size by omega) (show bb < W0.heap.size by omega) (by go_grown)
        clear hK K
        try simp only [Act.put, List.setIfInBounds_toArray, List.set_cons_zero, List.set_cons_succ]
        refine wpAnyH_take (i := 11) (oi := { dst := some 58, op := Go.Op.fieldAddr 29 (Go.Operand.tmp 5) 3, type := 0, pos := "l4_forms.go:43", after := #[{ on := 0, ground := Go.Ground.phase }, { on := 1, ground := Go.Ground.phase }, { on := 2, ground := Go.Ground.phase }, { on := 3, ground := Go.Ground.phase }, { on := 4, ground := Go.Ground.phase }, { on := 5, ground := Go.Ground.phase }, { on := 6, ground := Go.Ground.phase }, { on := 7, ground := Go.Ground.phase }, { on := 8, ground := Go.Ground.phase }, { on := 9, ground := Go.Ground.phase }, { on := 10, ground := Go.Ground.phase }], guard := none }) (v := ?_) rfl (by kernel_rfl) (by kernel_rfl) (by kernel_rfl) (fun _ _ _ h => h) (Or.inl ⟨by rfl, ?_⟩) (by assumption) ?_
        rotate_left
        · (intro w hSw; (try dsimp only at hSw); first | (go_simp; done) | (go_simp; with_reducible rfl))
        try simp only [Act.put, List.setIfInBounds_toArray, List.set_cons_zero, List.set_cons_succ]
        refine wpAnyH_ready (rs := [12]) (by kernel_rfl) (by simp) ?_
        refine AllReadyH.cons (o := { dst := none, op := Go.Op.store 27 (Go.Operand.tmp 58) (Go.Operand.tmp 57), type := 0, pos := "l4_forms.go:43", after := #[{ on := 11, ground := Go.Ground.data }, { on := 10, ground := Go.Ground.data }, { on := 10, ground := Go.Ground.chain }, { on := 0, ground := Go.Ground.phase }, { on := 1, ground := Go.Ground.phase }, { on := 2, ground := Go.Ground.phase }, { on := 3, ground := Go.Ground.phase }, { on := 4, ground := Go.Ground.phase }, { on := 5, ground := Go.Ground.phase }, { on := 6, ground := Go.Ground.phase }, { on := 7, ground := Go.Ground.phase }, { on := 8, ground := Go.Ground.phase }, { on := 9, ground := Go.Ground.phase }, { on := 10, ground := Go.Ground.phase }], guard := none }) rfl (fun K hK => ?_) AllReadyH.nil
        go_simp
        refine hK.out _ _ ?_ (fun hHeld => ?_)
        · try dsimp only
          first | exact HSE.out | exact keepP HS5.out (show w.heap.size ≠ w.heap.size + 1 + 1 by omega) (show bb ≠ w.heap.size + 1 + 1 by omega) (fun q hq => Below.heap_setCell _ _ _ _ (by dsimp only; omega)) | exact keepE HSE.out (show w.heap.size < W0.heap.size by omega) (show bb < W0.heap.size by omega) (by go_grown)
        clear hK K
        try simp only [Act.put, List.setIfInBounds_toArray, List.set_cons_zero, List.set_cons_succ]
        refine wpAnyH_done (by kernel_rfl) ?_ _
        have hst5 := mlst_low (mlst_below HST.out (w' := w4) (below_on (Below.drew (Below.refl _ _)) hb4)) hb5
        generalize hW6 : World.setCell _ _ _ = W6
        obtain ⟨hst6, hk6, hs6⟩ := mlst_put hst5 hW6
        have how6 := fown_put ho5 (by omega) (by omega) hk6 hs6
        have HN6 : Hid (LnR false f (.slice (some ⟨bb, o, none⟩) f.len sc) bb o lo w W0 ⟨kk, 0, 0, 0, 0, 0, 0, 0, u⟩ ⟨kk, 0, 0, 0, 0, 0, 0, 0, u⟩ (.int .i64 ((k + 1 : Nat) : Int)) W6) := ⟨k + 1, pre0.app (.cons h' s' .nil), r', _, rfl, by rw [Fo.app_len, HPL.out]; rfl, by rw [Fo.app_assoc]; exact HAP.out, hrok.2, by rw [show o + (k + 1) * 10 = o + k * 10 + 10 by omega]; exact HR.out, hst6, by rw [ng_snoc]; exact how6⟩
        clear hW6 hst5 hst6 hk6 hs6 how6 ho5 hr5 hs4 HS4 hf5 he9 hd9 hb4 hb5 x0 c0 c1 c2 c3 c4 c5 c6 c7 c8 c9 y0 e0 e1 e2 e3 e4 e5 e6 e7 e8 e9 yf z0 d0 d1 d2 d3 d4 d5 d6 d7 d8 d9 zf hbl4 hbl5 HS5 HSE hbw
        go_wp2
        go_roundw
        case rel =>
          have e : ((k + 1 : Nat) : Int) = (k : Int) + 1 := by omega
          have h9 := HN6.out
          rw [e] at h9
          exact h9
        case measure => simp [intOf]; omega
      ·
        go_simp
        (go_at_call 89; refine HC.out.mono ?_; rintro e w4 ⟨s4, rfl, hs4, hb4⟩; have HS4 := Lib.hid hs4; obtain ⟨ga, gn, gc, rfl⟩ := hs4.slice; have hs44 : wr.heap.size ≤ w4.heap.size := hb4.size; have hlt4 : w.heap.size + 1 + 1 < w4.heap.size := (by omega); have hbl4 : Below W0.heap.size wr w4 := Below.mono (below_on (Below.drew (Below.refl _ _)) hb4) hsW; have hd9 : w4.cell? ⟨w.heap.size + 1 + 1, 9, none⟩ = some (.slice va k vc) := ((bcell hb4).1 _ 9 y0).trans e9; obtain ⟨v5, w5, hr5, ho5, hb5⟩ := fown_app (wa := wr.drew) (w4 := w4) (ngF false h' s').1 (ngF false h' s').2 ga gn gc (fown_below HOW.out (Below.drew (Below.refl _ _))) (by rw [HLV.out]; exact hlen1) (by omega) hb4 (FSP.kept (Nat.le_refl _) (fun _ _ _ => rfl) (fun q hq => ⟨Nat.le_trans hsW hq.1, .inr hq.1, hq.2⟩) (FSP.of HS4.out)); obtain ⟨a5, c5x, rfl⟩ := fown_slice ho5; rw [HLV.out] at hr5; have he9 : w5.cell? ⟨w.heap.size + 1 + 1, 9, none⟩ = some (.slice va k vc) := (World.cell?_of_block (a := ⟨w.heap.size + 1 + 1, 9, none⟩) (hb5.block _ hyy)).trans hd9; have hf5 : ∀ o, w5.frozen? ⟨w.heap.size + 1 + 1, o, none⟩ = false := (fun o => (World.frozen?_of_block (a := ⟨w.heap.size + 1 + 1, o, none⟩) (hb5.block _ hyy)).trans (((bcell hb4).2 _ o y0).trans (yf o))); have hbl5 : Below W0.heap.size wr w5 := hbl4.trans hb5; have HS5 := Lib.hid (keepE HSE.out (show w.heap.size < W0.heap.size by omega) (show bb < W0.heap.size by omega) hbl5))
        (try go_wp2_with fail)
        refine hK.out _ _ ?_ (fun hHeld => ?_)
        · try dsimp only
          first | exact HSE.out | exact keepP HS5.out (show w.heap.size ≠ w.heap.size + 1 + 1 by omega) (show bb ≠ w.heap.size + 1 + 1 by omega) (fun q hq => Below.heap_setCell _ _ _ _ (by dsimp only; omega)) | exact keepE HSE.out (show w.heap.size < W0.heap.size by omega) (show bb < W0.heap.size by omega) (by go_grown)
        clear hK K
        try simp only [Act.put, List.setIfInBounds_toArray, List.set_cons_zero, List.set_cons_succ]
        refine wpAnyH_ready (rs := [1, 9]) (by kernel_rfl) (by simp) ?_
        refine AllReadyH.cons (o := { dst := some 48, op := Go.Op.load 27 (Go.Operand.tmp 47), type := 27, pos := "l4_forms.go:43", after := #[{ on := 0, ground := Go.Ground.data }], guard := none }) rfl (fun K hK => ?_) (AllReadyH.cons (o := { dst := some 56, op := Go.Op.buildSlice 27 1 #[(0, Go.Operand.tmp 55)], type := 27, pos := "l4_forms.go:43", after := #[{ on := 8, ground := Go.Ground.data }], guard := none }) rfl (fun K hK => ?_) AllReadyH.nil)
        ·
          go_simp
          refine hK.out _ _ ?_ (fun hHeld => ?_)
          · try dsimp only
            first | exact HSE.out | exact keepP HS5.out (show w.heap.size ≠ w.heap.size + 1 + 1 by omega) (show bb ≠ w.heap.size + 1 + 1 by omega) (fun q hq => Below.heap_setCell _ _ _ _ (by dsimp only; omega)) | exact keepE HSE.out (show w.heap.size < W0.heap.size by omega) (show bb < W0.heap.size by omega) (by go_grown)
          clear hK K
          try simp only [Act.put, List.setIfInBounds_toArray, List.set_cons_zero, List.set_cons_succ]
          refine wpAnyH_ready (rs := [9]) (by kernel_rfl) (by simp) ?_
          refine AllReadyH.cons (o := { dst := some 56, op := Go.Op.buildSlice 27 1 #[(0, Go.Operand.tmp 55)], type := 27, pos := "l4_forms.go:43", after := #[{ on := 8, ground := Go.Ground.data }], guard := none }) rfl (fun K hK => ?_) AllReadyH.nil
          go_simp
          refine hK.out _ _ ?_ (fun hHeld => ?_)
          · try dsimp only
            first | exact HSE.out | exact keepP HS5.out (show w.heap.size ≠ w.heap.size + 1 + 1 by omega) (show bb ≠ w.heap.size + 1 + 1 by omega) (fun q hq => Below.heap_setCell _ _ _ _ (by dsimp only; omega)) | exact keepE HSE.out (show w.heap.size < W0.heap.size by omega) (show bb < W0.heap.size by omega) (by go_grown)
          clear hK K
          try simp only [Act.put, List.setIfInBounds_toArray, List.set_cons_zero, List.set_cons_succ]
          refine wpAnyH_ready (rs := [10]) (by kernel_rfl) (by simp) ?_
          refine AllReadyH.cons (o := { dst := some 57, op := Go.Op.call { callee := Go.Callee.builtin Go.Builtin.append, args := #[Go.Operand.tmp 48, Go.Operand.tmp 56], argTypes := #[27, 27] }, type := 27, pos := "l4_forms.go:43", after := #[{ on := 1, ground := Go.Ground.data }, { on := 9, ground := Go.Ground.data }, { on := 8, ground := Go.Ground.chain }], guard := none }) rfl (fun K hK => ?_) AllReadyH.nil
          rw [if_pos (by rfl)]
          (refine oper_append _ _ _ rfl rfl rfl hr5 ?_)
          refine hK.out _ _ ?_ (fun hHeld => ?_)
          · try dsimp only
            first | exact HSE.out | exact keepP HS5.out (show w.heap.size ≠ w.heap.size + 1 + 1 by omega) (show bb ≠ w.heap.size + 1 + 1 by omega) (fun q hq => Below.heap_setCell _ _ _ _ (by dsimp only; omega)) | exact keepE HSE.out (show w.heap.size < W0.heap.size by omega) (show bb < W0.heap.size by omega) (by go_grown)
          clear hK K
          try simp only [Act.put, List.setIfInBounds_toArray, List.set_cons_zero, List.set_cons_succ]
          refine wpAnyH_take (i := 11) (oi := { dst := some 58, op := Go.Op.fieldAddr 29 (Go.Operand.tmp 5) 3, type := 0, pos := "l4_forms.go:43", after := #[{ on := 0, ground := Go.Ground.phase }, { on := 1, ground := Go.Ground.phase }, { on := 2, ground := Go.Ground.phase }, { on := 3, ground := Go.Ground.phase }, { on := 4, ground := Go.Ground.phase }, { on := 5, ground := Go.Ground.phase }, { on := 6, ground := Go.Ground.phase }, { on := 7, ground := Go.Ground.phase }, { on := 8, ground := Go.Ground.phase }, { on := 9, ground := Go.Ground.phase }, { on := 10, ground := Go.Ground.phase }], guard := none }) (v := ?_) rfl (by kernel_rfl) (by kernel_rfl) (by kernel_rfl) (fun _ _ _ h => h) (Or.inl ⟨by rfl, ?_⟩) (by assumption) ?_
          rotate_left
          · (intro w hSw; (try dsimp only at hSw); first | (go_simp; done) | (go_simp; with_reducible rfl))
          try simp only [Act.put, List.setIfInBounds_toArray, List.set_cons_zero, List.set_cons_succ]
          refine wpAnyH_ready (rs := [12]) (by kernel_rfl) (by simp) ?_
          refine AllReadyH.cons (o := { dst := none, op := Go.Op.store 27 (Go.Operand.tmp 58) (Go.Operand.tmp 57), type := 0, pos := "l4_forms.go:43", after := #[{ on := 11, ground := Go.Ground.data }, { on := 10, ground := Go.Ground.data }, { on := 10, ground := Go.Ground.chain }, { on := 0, ground := Go.Ground.phase }, { on := 1, ground := Go.Ground.phase }, { on := 2, ground := Go.Ground.phase }, { on := 3, ground := Go.Ground.phase }, { on := 4, ground := Go.Ground.phase }, { on := 5, ground := Go.Ground.phase }, { on := 6, ground := Go.Ground.phase }, { on := 7, ground := Go.Ground.phase }, { on := 8, ground := Go.Ground.phase }, { on := 9, ground := Go.Ground.phase }, { on := 10, ground := Go.Ground.phase }], guard := none }) rfl (fun K hK => ?_) AllReadyH.nil
          go_simp
          refine hK.out _ _ ?_ (fun hHeld => ?_)
          · try dsimp only
            first | exact HSE.out | exact keepP HS5.out (show w.heap.size ≠ w.heap.size + 1 + 1 by omega) (show bb ≠ w.heap.size + 1 + 1 by omega) (fun q hq => Below.heap_setCell _ _ _ _ (by dsimp only; omega)) | exact keepE HSE.out (show w.heap.size < W0.heap.size by omega) (show bb < W0.heap.size by omega) (by go_grown)
          clear hK K
          try simp only [Act.put, List.setIfInBounds_toArray, List.set_cons_zero, List.set_cons_succ]
          refine wpAnyH_done (by kernel_rfl) ?_ _
          have hst5 := mlst_low (mlst_below HST.out (w' := w4) (below_on (Below.drew (Below.refl _ _)) hb4)) hb5
          generalize hW6 : World.setCell _ _ _ = W6
          obtain ⟨hst6, hk6, hs6⟩ := mlst_put hst5 hW6
          have how6 := fown_put ho5 (by omega) (by omega) hk6 hs6
          have HN6 : Hid (LnR false f (.slice (some ⟨bb, o, none⟩) f.len sc) bb o lo w W0 ⟨kk, 0, 0, 0, 0, 0, 0, 0, u⟩ ⟨kk, 0, 0, 0, 0, 0, 0, 0, u⟩ (.int .i64 ((k + 1 : Nat) : Int)) W6) := ⟨k + 1, pre0.app (.cons h' s' .nil), r', _, rfl, by rw [Fo.app_len, HPL.out]; rfl, by rw [Fo.app_assoc]; exact HAP.out, hrok.2, by rw [show o + (k + 1) * 10 = o + k * 10 + 10 by omega]; exact HR.out, hst6, by rw [ng_snoc]; exact how6⟩
          clear hW6 hst5 hst6 hk6 hs6 how6 ho5 hr5 hs4 HS4 hf5 he9 hd9 hb4 hb5 x0 c0 c1 c2 c3 c4 c5 c6 c7 c8 c9 y0 e0 e1 e2 e3 e4 e5 e6 e7 e8 e9 yf z0 d0 d1 d2 d3 d4 d5 d6 d7 d8 d9 zf hbl4 hbl5 HS5 HSE hbw
          go_wp2
          go_roundw
          case rel =>
            have e : ((k + 1 : Nat) : Int) = (k : Int) + 1 := by omega
            have h9 := HN6.out
            rw [e] at h9
            exact h9
          case measure => simp [intOf]; omega
        ·
          go_simp
          refine hK.out _ _ ?_ (fun hHeld => ?_)
          · try dsimp only
            first | exact HSE.out | exact keepP HS5.out (show w.heap.size ≠ w.heap.size + 1 + 1 by omega) (show bb ≠ w.heap.size + 1 + 1 by omega) (fun q hq => Below.heap_setCell _ _ _ _ (by dsimp only; omega)) | exact keepE HSE.out (show w.heap.size < W0.heap.size by omega) (show bb < W0.heap.size by omega) (by go_grown)
          clear hK K
          try simp only [Act.put, List.setIfInBounds_toArray, List.set_cons_zero, List.set_cons_succ]
          refine wpAnyH_ready (rs := [1]) (by kernel_rfl) (by simp) ?_
          refine AllReadyH.cons (o := { dst := some 48, op := Go.Op.load 27 (Go.Operand.tmp 47), type := 27, pos := "l4_forms.go:43", after := #[{ on := 0, ground := Go.Ground.data }], guard := none }) rfl (fun K hK => ?_) AllReadyH.nil
          go_simp
          refine hK.out _ _ ?_ (fun hHeld => ?_)
          · try dsimp only
            first | exact HSE.out | exact keepP HS5.out (show w.heap.size ≠ w.heap.size + 1 + 1 by omega) (show bb ≠ w.heap.size + 1 + 1 by omega) (fun q hq => Below.heap_setCell _ _ _ _ (by dsimp only; omega)) | exact keepE HSE.out (show w.heap.size < W0.heap.size by omega) (show bb < W0.heap.size by omega) (by go_grown)
          clear hK K
          try simp only [Act.put, List.setIfInBounds_toArray, List.set_cons_zero, List.set_cons_succ]
          refine wpAnyH_ready (rs := [10]) (by kernel_rfl) (by simp) ?_
          refine AllReadyH.cons (o := { dst := some 57, op := Go.Op.call { callee := Go.Callee.builtin Go.Builtin.append, args := #[Go.Operand.tmp 48, Go.Operand.tmp 56], argTypes := #[27, 27] }, type := 27, pos := "l4_forms.go:43", after := #[{ on := 1, ground := Go.Ground.data }, { on := 9, ground := Go.Ground.data }, { on := 8, ground := Go.Ground.chain }], guard := none }) rfl (fun K hK => ?_) AllReadyH.nil
          rw [if_pos (by rfl)]
          (refine oper_append _ _ _ rfl rfl rfl hr5 ?_)
          refine hK.out _ _ ?_ (fun hHeld => ?_)
          · try dsimp only
            first | exact HSE.out | exact keepP HS5.out (show w.heap.size ≠ w.heap.size + 1 + 1 by omega) (show bb ≠ w.heap.size + 1 + 1 by omega) (fun q hq => Below.heap_setCell _ _ _ _ (by dsimp only; omega)) | exact keepE HSE.out (show w.heap.size < W0.heap.size by omega) (show bb < W0.heap.size by omega) (by go_grown)
          clear hK K
          try simp only [Act.put, List.setIfInBounds_toArray, List.set_cons_zero, List.set_cons_succ]
          refine wpAnyH_take (i := 11) (oi := { dst := some 58, op := Go.Op.fieldAddr 29 (Go.Operand.tmp 5) 3, type := 0, pos := "l4_forms.go:43", after := #[{ on := 0, ground := Go.Ground.phase }, { on := 1, ground := Go.Ground.phase }, { on := 2, ground := Go.Ground.phase }, { on := 3, ground := Go.Ground.phase }, { on := 4, ground := Go.Ground.phase }, { on := 5, ground := Go.Ground.phase }, { on := 6, ground := Go.Ground.phase }, { on := 7, ground := Go.Ground.phase }, { on := 8, ground := Go.Ground.phase }, { on := 9, ground := Go.Ground.phase }, { on := 10, ground := Go.Ground.phase }], guard := none }) (v := ?_) rfl (by kernel_rfl) (by kernel_rfl) (by kernel_rfl) (fun _ _ _ h => h) (Or.inl ⟨by rfl, ?_⟩) (by assumption) ?_
          rotate_left
          · (intro w hSw; (try dsimp only at hSw); first | (go_simp; done) | (go_simp; with_reducible rfl))
          try simp only [Act.put, List.setIfInBounds_toArray, List.set_cons_zero, List.set_cons_succ]
          refine wpAnyH_ready (rs := [12]) (by kernel_rfl) (by simp) ?_
          refine AllReadyH.cons (o := { dst := none, op := Go.Op.store 27 (Go.Operand.tmp 58) (Go.Operand.tmp 57), type := 0, pos := "l4_forms.go:43", after := #[{ on := 11, ground := Go.Ground.data }, { on := 10, ground := Go.Ground.data }, { on := 10, ground := Go.Ground.chain }, { on := 0, ground := Go.Ground.phase }, { on := 1, ground := Go.Ground.phase }, { on := 2, ground := Go.Ground.phase }, { on := 3, ground := Go.Ground.phase }, { on := 4, ground := Go.Ground.phase }, { on := 5, ground := Go.Ground.phase }, { on := 6, ground := Go.Ground.phase }, { on := 7, ground := Go.Ground.phase }, { on := 8, ground := Go.Ground.phase }, { on := 9, ground := Go.Ground.phase }, { on := 10, ground := Go.Ground.phase }], guard := none }) rfl (fun K hK => ?_) AllReadyH.nil
          go_simp
          refine hK.out _ _ ?_ (fun hHeld => ?_)
          · try dsimp only
            first | exact HSE.out | exact keepP HS5.out (show w.heap.size ≠ w.heap.size + 1 + 1 by omega) (show bb ≠ w.heap.size + 1 + 1 by omega) (fun q hq => Below.heap_setCell _ _ _ _ (by dsimp only; omega)) | exact keepE HSE.out (show w.heap.size < W0.heap.size by omega) (show bb < W0.heap.size by omega) (by go_grown)
          clear hK K
          try simp only [Act.put, List.setIfInBounds_toArray, List.set_cons_zero, List.set_cons_succ]
          refine wpAnyH_done (by kernel_rfl) ?_ _
          have hst5 := mlst_low (mlst_below HST.out (w' := w4) (below_on (Below.drew (Below.refl _ _)) hb4)) hb5
          generalize hW6 : World.setCell _ _ _ = W6
          obtain ⟨hst6, hk6, hs6⟩ := mlst_put hst5 hW6
          have how6 := fown_put ho5 (by omega) (by omega) hk6 hs6
          have HN6 : Hid (LnR false f (.slice (some ⟨bb, o, none⟩) f.len sc) bb o lo w W0 ⟨kk, 0, 0, 0, 0, 0, 0, 0, u⟩ ⟨kk, 0, 0, 0, 0, 0, 0, 0, u⟩ (.int .i64 ((k + 1 : Nat) : Int)) W6) := ⟨k + 1, pre0.app (.cons h' s' .nil), r', _, rfl, by rw [Fo.app_len, HPL.out]; rfl, by rw [Fo.app_assoc]; exact HAP.out, hrok.2, by rw [show o + (k + 1) * 10 = o + k * 10 + 10 by omega]; exact HR.out, hst6, by rw [ng_snoc]; exact how6⟩
          clear hW6 hst5 hst6 hk6 hs6 how6 ho5 hr5 hs4 HS4 hf5 he9 hd9 hb4 hb5 x0 c0 c1 c2 c3 c4 c5 c6 c7 c8 c9 y0 e0 e1 e2 e3 e4 e5 e6 e7 e8 e9 yf z0 d0 d1 d2 d3 d4 d5 d6 d7 d8 d9 zf hbl4 hbl5 HS5 HSE hbw
          go_wp2
          go_roundw
          case rel =>
            have e : ((k + 1 : Nat) : Int) = (k : Int) + 1 := by omega
            have h9 := HN6.out
            rw [e] at h9
            exact h9
          case measure => simp [intOf]; omega

end Go.Proofs.Ytfiddndgidfgoaa

/- The contract of the model's l4Neg where a formula is negated, first part. -/
namespace Go.Proofs.Ytfiddndgidfgoaa
open Go.RowKit

set_option maxRecDepth 10000 in
set_option maxHeartbeats 4000000 in
/-- The negation of a formula of the kind 0. -/
theorem ln_op0 (h : FH) (f : Fo) (HF : ∀ h s, s.size < f.size → ∀ b, LnF b h s) (hk : h.k = 0) : LnF true h f := by
  intro ho hok w lo s hs
  have h3 : h.k ≠ 3 := by omega
  have h2 : h.k ≠ 2 := by omega
  have H := Lib.hid HF
  have hq := ngF_else (b := true) (f := f) h3 (.inr h2)
  obtain ⟨sa, sc, rfl⟩ := fs_len0 hs
  obtain ⟨bb, o, hel, hsh⟩ := fs_shape hs
  have HEL := Lib.hid hel
  have HSH := Lib.hid hsh
  have hlen := Fo.len_le f
  have hf6 : f.len ≤ 2 := by rcases own_kind ho with ⟨h, _⟩ | ⟨h, _⟩ | ⟨h, _⟩ <;> omega
  obtain ⟨z1, z2, z3, z4, z5, z6, z7⟩ := own_zero ho h2
  obtain ⟨kk, ak, am, a, bq, c, d, n, u⟩ := h
  dsimp only at z1 z2 z3 z4 z5 z6 z7 hq
  dsimp only at hk
  subst hk z1 z2 z3 z4 z5 z6 z7
  have HOK := Lib.hid hok
  clear HF hs hel hsh ho hok h2 h3
  have HQ := Lib.hid hq
  clear hq
  go_enter Try.func89, Try.ntmps89
  go_upto_region 10 with fail
  generalize hW0 : World.alloc _ _ = W0
  have hst : MlSt w W0 w.heap.size (w.heap.size + 1 + 1) (w.heap.size + 1) ⟨0, 0, 0, 0, 0, 0, 0, 0, u⟩ ⟨1, 0, 0, 0, 0, 0, 0, 0, u⟩ (.slice sa f.len sc) (.slice none 0 0) W0 := by
    have hz : w.heap.size + 1 + 1 < W0.heap.size := by subst hW0; simp only [World.size_alloc]; omega
    refine ⟨?_, ?_, ?_, ?_, ?_, ?_, Nat.le_refl _, by omega, by omega, by omega, by omega, by omega, by omega, by omega, by omega, by omega⟩
    · subst hW0; exact (by refine ⟨?_, ?_, ?_, ?_, ?_, ?_, ?_, ?_, ?_, ?_, ?_⟩ <;> first | (simp [go_sem]; done) | (simp; omega))
    · subst hW0; exact (by refine ⟨?_, ?_, ?_, ?_, ?_, ?_, ?_, ?_, ?_, ?_, ?_⟩ <;> first | (simp [go_sem]; done) | (simp; omega))
    · intro o; subst hW0; simp [go_sem]
    · subst hW0; exact (by refine ⟨?_, ?_, ?_, ?_, ?_, ?_, ?_, ?_, ?_, ?_, ?_⟩ <;> first | (simp [go_sem]; done) | (simp; omega))
    · intro o; subst hW0; simp [go_sem]
    · subst hW0; go_grown
  have HST := Lib.hid (show LnR true f (.slice sa f.len sc) bb o lo w W0 ⟨0, 0, 0, 0, 0, 0, 0, 0, u⟩ ⟨1, 0, 0, 0, 0, 0, 0, 0, u⟩ (.int .i64 0) W0 from ⟨0, .nil, f, _, rfl, rfl, rfl, HOK.out, HEL.out, hst, fown_nil _ _ _⟩)
  clear hW0 hst
  go_wp2_with fail
  go_loopw [6] (fun i wr => LnR true f (.slice sa f.len sc) bb o lo w W0 ⟨0, 0, 0, 0, 0, 0, 0, 0, u⟩ ⟨1, 0, 0, 0, 0, 0, 0, 0, u⟩ i wr) (fun i _ => f.len - (intOf i).toNat)
  case atStart => exact HST.out
  case round =>
    obtain ⟨k, pre0, r, v, rfl, hpl, hap, hrok, hr, hst, how⟩ := hrel
    clear HST
    have HAP := Lib.hid hap
    have HPL := Lib.hid hpl
    have HST := Lib.hid hst
    have HOW := Lib.hid how
    have hkf : k + r.len = f.len := by rw [← hap, Fo.app_len, hpl]
    have hszr : r.size ≤ f.size := by rw [← hap, size_app]; omega
    obtain ⟨va, vc, hv⟩ := fown_slice how
    subst hv
    have hlv : (pre0.ng true).len = k := by rw [ng_len, hpl]
    obtain ⟨⟨x0, c0, c1, c2, c3, c4, c5, c6, c7, c8, c9⟩, ⟨y0, e0, e1, e2, e3, e4, e5, e6, e7, e8, e9⟩, yf, ⟨z0, d0, d1, d2, d3, d4, d5, d6, d7, d8, d9⟩, zf, hbw, hsW, _⟩ := id hst
    rw [hlv] at e9
    have HLV := Lib.hid hlv
    have hzz : w.heap.size + 1 < W0.heap.size := HST.out.2.2.2.2.2.2.2.2.2.2.2.2.1
    have hyy : w.heap.size + 1 + 1 < W0.heap.size := HST.out.2.2.2.2.2.2.2.2.2.2.2.1
    clear hap hpl hst how hlv
    cases r with
    | nil =>
      simp only [Fo.len] at hkf
      have hkl : ¬ (k : Int) < (f.len : Int) := by omega
      have e : pre0 = f := by have := HAP.out; rwa [Fo.app_nil] at this
      subst e
      obtain rfl : k = pre0.len := by omega
      go_wp2_with fail
      generalize hW7 : World.setCell _ _ _ = W7
      have hblk7 : ∀ x, x ≠ w.heap.size + 1 → W7.heap[x]? = wr.heap[x]? := fun x hx => by subst hW7; repeat rw [Below.heap_setCell _ _ _ _ (by dsimp only; omega)]
      have hsz7 : W7.heap.size = wr.heap.size := by subst hW7; simp [World.setCell]
      obtain ⟨hx7, hb7⟩ := put10b (g := ⟨1, 0, 0, 0, 0, 0, 0, 0, u⟩) HST.out.2.2.2.1 hW7
      have hww7 := hbw.trans (hb7 w.heap.size (by omega))
      have HS7 := Lib.hid (FS.mono (lo' := w.heap.size) (by omega) (fown_fs (fown_put HOW.out (by omega) (by omega) hblk7 hsz7) (Nat.le_refl _)))
      obtain ⟨q0, k0, k1, k2, k3, k4, k5, k6, k7, k8, k9⟩ := hx7
      rw [HLV.out] at HS7
      (try simp only [Exit.inBlock, Exit.then])
      refine bodyPost_ret (v := .agg #[.int .i64 1, .int .i64 0, .int .i64 0, .int .i64 0, .int .i64 0, .int .i64 0, .int .i64 0, .int .i64 0, .int .i64 u, .slice va pre0.len vc]) ?_ rfl ⟨_, by rw [HQ.out]; rfl, by rw [HQ.out]; exact HS7.out, hww7⟩
      rw [results_cell1 rfl]
      go_simp
    | cons h' s' r' =>
      simp only [Fo.len] at hkf
      simp only [Fo.size] at hszr
      simp only [Fo.okB, Bool.and_eq_true] at hrok
      have hkl : (k : Int) < (f.len : Int) := by omega
      have hk0 : (0 : Int) ≤ k := by omega
      obtain ⟨rfl, hcc2, hcc1, hlo, hbb⟩ := HSH.out (by omega)
      have hcc2' := hcc2
      unfold maxLen at hcc2'
      have HR := Lib.hid hr.2
      obtain ⟨⟨sl, hrow, hsl⟩, _⟩ := FEl.below hbw (Nat.le_refl _) hlo hbb hr
      obtain ⟨la, ln, lc, rfl⟩ : ∃ a n c, sl = .slice a n c := FS.slice (w := wr) (lo := lo) (f := s') hsl
      have HC := Lib.hid (H.out h' s' (by omega) true hrok.1.1 hrok.1.2 wr.drew lo _ (FS.below (w := wr) (Below.drew (Below.refl _ _)) (Nat.le_refl _) hsl))
      have HSE := Lib.hid (show wr.cell? ⟨w.heap.size, 9, none⟩ = some (.slice (some ⟨bb, o, none⟩) f.len sc) ∧ FRow wr bb (o + k * 10) h' (.slice la ln lc) from ⟨c9, hrow⟩)
      clear hrow
      have hlen1 : k ≤ 1048576 := by omega
      clear hsl hr
      go_wp2_with fail
      refine wp_region_held_drew (S := (fun w' => w'.cell? ⟨w.heap.size, 9, none⟩ = some (.slice (some ⟨bb, o, none⟩) f.len sc) ∧ w'.cell? ⟨bb, o + k * 10, none⟩ = some (.int .i64 h'.k) ∧ w'.cell? ⟨bb, o + k * 10 + 1, none⟩ = some (.int .i64 h'.ak) ∧ w'.cell? ⟨bb, o + k * 10 + 2, none⟩ = some (.int .i64 h'.am) ∧ w'.cell? ⟨bb, o + k * 10 + 3, none⟩ = some (.int .i64 h'.a) ∧ w'.cell? ⟨bb, o + k * 10 + 4, none⟩ = some (.int .i64 h'.b) ∧ w'.cell? ⟨bb, o + k * 10 + 5, none⟩ = some (.int .i64 h'.c) ∧ w'.cell? ⟨bb, o + k * 10 + 6, none⟩ = some (.int .i64 h'.d) ∧ w'.cell? ⟨bb, o + k * 10 + 7, none⟩ = some (.int .i64 h'.n) ∧ w'.cell? ⟨bb, o + k * 10 + 8, none⟩ = some (.int .i64 h'.v) ∧ w'.cell? ⟨bb, o + k * 10 + 9, none⟩ = some (.slice la ln lc))) (by kernel_rfl) ?_ (fun hHeld => ?_)
      · try dsimp only
        first | exact HSE.out | exact keepP HS5.out (show w.heap.size ≠ w.heap.size + 1 + 1 by omega) (show bb ≠ w.heap.size + 1 + 1 by omega) (fun q hq => Below.heap_setCell _ _ _ _ (by dsimp only; omega)) | exact keepE HSE.out (show w.heap.size < W0.heap.size by omega) (show bb < W0.heap.size by omega) (by go_grown)
      refine wpAnyH_take (i := 0) (oi := { dst := some 47, op := Go.Op.fieldAddr 29 (Go.Operand.tmp 5) 3, type := 0, pos := "l4_forms.go:43", after := #[], guard := none }) (v := ?_) rfl (by kernel_rfl) (by kernel_rfl) (by kernel_rfl) (fun _ _ _ h => h) (Or.inl ⟨by rfl, ?_⟩) (by assumption) ?_
      rotate_left
      · (intro w hSw; (try dsimp only at hSw); first | (go_simp; done) | (go_simp; with_reducible rfl))
      try simp only [Act.put, List.setIfInBounds_toArray, List.set_cons_zero, List.set_cons_succ]
      refine wpAnyH_take (i := 2) (oi := { dst := some 49, op := Go.Op.fieldAddr 29 (Go.Operand.tmp 2) 3, type := 0, pos := "l4_forms.go:43", after := #[], guard := none }) (v := ?_) rfl (by kernel_rfl) (by kernel_rfl) (by kernel_rfl) (fun _ _ _ h => h) (Or.inl ⟨by rfl, ?_⟩) (by assumption) ?_
      rotate_left
      · (intro w hSw; (try dsimp only at hSw); first | (go_simp; done) | (go_simp; with_reducible rfl))
      try simp only [Act.put, List.setIfInBounds_toArray, List.set_cons_zero, List.set_cons_succ]
      refine wpAnyH_take (i := 3) (oi := { dst := some 50, op := Go.Op.load 27 (Go.Operand.tmp 49), type := 27, pos := "l4_forms.go:43", after := #[{ on := 2, ground := Go.Ground.data }], guard := none }) (v := ?_) rfl (by kernel_rfl) (by kernel_rfl) (by kernel_rfl) (fun _ _ _ h => h) (Or.inl ⟨by rfl, ?_⟩) (by assumption) ?_
      rotate_left
      · (intro w hSw; (try dsimp only at hSw); first | (go_simp; done) | (go_simp; with_reducible rfl))
      try simp only [Act.put, List.setIfInBounds_toArray, List.set_cons_zero, List.set_cons_succ]
      refine wpAnyH_take (i := 4) (oi := { dst := some 51, op := Go.Op.move (Go.Operand.tmp 6), type := 3, pos := "l4_forms.go:43", after := #[], guard := none }) (v := ?_) rfl (by kernel_rfl) (by kernel_rfl) (by kernel_rfl) (fun _ _ _ h => h) (Or.inl ⟨by rfl, ?_⟩) (by assumption) ?_
      rotate_left
      · (intro w hSw; (try dsimp only at hSw); first | (go_simp; done) | (go_simp; with_reducible rfl))
      try simp only [Act.put, List.setIfInBounds_toArray, List.set_cons_zero, List.set_cons_succ]
      refine wpAnyH_take (i := 5) (oi := { dst := some 52, op := Go.Op.indexAddr 27 (Go.Operand.tmp 50) (Go.Operand.tmp 51), type := 0, pos := "l4_forms.go:43", after := #[{ on := 3, ground := Go.Ground.data }, { on := 4, ground := Go.Ground.data }], guard := none }) (v := ?_) rfl (by kernel_rfl) (by kernel_rfl) (by kernel_rfl) (fun _ _ _ h => h) (Or.inl ⟨by rfl, ?_⟩) (by assumption) ?_
      rotate_left
      · (intro w hSw; (try dsimp only at hSw); first | (go_simp; done) | (go_simp; with_reducible rfl))
      try simp only [Act.put, List.setIfInBounds_toArray, List.set_cons_zero, List.set_cons_succ]
      refine wpAnyH_take (i := 6) (oi := { dst := some 53, op := Go.Op.load 29 (Go.Operand.tmp 52), type := 29, pos := "l4_forms.go:43", after := #[{ on := 5, ground := Go.Ground.data }], guard := none }) (v := ?_) rfl (by kernel_rfl) (by kernel_rfl) (by kernel_rfl) (fun _ _ _ h => h) (Or.inl ⟨by rfl, ?_⟩) (by assumption) ?_
      rotate_left
      · (intro w hSw; (try dsimp only at hSw); first | (go_simp; done) | (go_simp; with_reducible rfl))
      try simp only [Act.put, List.setIfInBounds_toArray, List.set_cons_zero, List.set_cons_succ]
      refine wpAnyH_take (i := 7) (oi := { dst := some 54, op := Go.Op.move (Go.Operand.tmp 1), type := 4, pos := "l4_forms.go:43", after := #[], guard := none }) (v := ?_) rfl (by kernel_rfl) (by kernel_rfl) (by kernel_rfl) (fun _ _ _ h => h) (Or.inl ⟨by rfl, ?_⟩) (by assumption) ?_
      rotate_left
      · (intro w hSw; (try dsimp only at hSw); first | (go_simp; done) | (go_simp; with_reducible rfl))
      try simp only [Act.put, List.setIfInBounds_toArray, List.set_cons_zero, List.set_cons_succ]
      refine wpAnyH_ready (rs := [1, 8]) (by kernel_rfl) (by simp) ?_
      refine AllReadyH.cons (o := { dst := some 48, op := Go.Op.load 27 (Go.Operand.tmp 47), type := 27, pos := "l4_forms.go:43", after := #[{ on := 0, ground := Go.Ground.data }], guard := none }) rfl (fun K hK => ?_) (AllReadyH.cons (o := { dst := some 55, op := Go.Op.call { callee := Go.Callee.value (Go.Operand.func 89), args := #[Go.Operand.tmp 53, Go.Operand.tmp 54], argTypes := #[29, 4] }, type := 29, pos := "l4_forms.go:43", after := #[{ on := 6, ground := Go.Ground.data }, { on := 7, ground := Go.Ground.data }], guard := none }) rfl (fun K hK => ?_) AllReadyH.nil)
      ·
        go_simp
        refine hK.out _ _ ?_ (fun hHeld => ?_)
        · try dsimp only
          first | exact HSE.out | exact keepP HS5.out (show w.heap.size ≠ w.heap.size + 1 + 1 by omega) (show bb ≠ w.heap.size + 1 + 1 by omega) (fun q hq => Below.heap_setCell _ _ _ _ (by dsimp only; omega)) | exact keepE HSE.out (show w.heap.size < W0.heap.size by omega) (show bb < W0.heap.size by omega) (by go_grown)
        clear hK K
        try simp only [Act.put, List.setIfInBounds_toArray, List.set_cons_zero, List.set_cons_succ]
        refine wpAnyH_ready (rs := [8]) (by kernel_rfl) (by simp) ?_
        refine AllReadyH.cons (o := { dst := some 55, op := Go.Op.call { callee := Go.Callee.value (Go.Operand.func 89), args := #[Go.Operand.tmp 53, Go.Operand.tmp 54], argTypes := #[29, 4] }, type := 29, pos := "l4_forms.go:43", after := #[{ on := 6, ground := Go.Ground.data }, { on := 7, ground := Go.Ground.data }], guard := none }) rfl (fun K hK => ?_) AllReadyH.nil
        go_simp
        (go_at_call 89; refine HC.out.mono ?_; rintro e w4 ⟨s4, rfl, hs4, hb4⟩; have HS4 := Lib.hid hs4; obtain ⟨ga, gn, gc, rfl⟩ := hs4.slice; have hs44 : wr.heap.size ≤ w4.heap.size := hb4.size; have hlt4 : w.heap.size + 1 + 1 < w4.heap.size := (by omega); have hbl4 : Below W0.heap.size wr w4 := Below.mono (below_on (Below.drew (Below.refl _ _)) hb4) hsW; have hd9 : w4.cell? ⟨w.heap.size + 1 + 1, 9, none⟩ = some (.slice va k vc) := ((bcell hb4).1 _ 9 y0).trans e9; obtain ⟨v5, w5, hr5, ho5, hb5⟩ := fown_app (wa := wr.drew) (w4 := w4) (ngF true h' s').1 (ngF true h' s').2 ga gn gc (fown_below HOW.out (Below.drew (Below.refl _ _))) (by rw [HLV.out]; exact hlen1) (by omega) hb4 (FSP.kept (Nat.le_refl _) (fun _ _ _ => rfl) (fun q hq => ⟨Nat.le_trans hsW hq.1, .inr hq.1, hq.2⟩) (FSP.of HS4.out)); obtain ⟨a5, c5x, rfl⟩ := fown_slice ho5; rw [HLV.out] at hr5; have he9 : w5.cell? ⟨w.heap.size + 1 + 1, 9, none⟩ = some (.slice va k vc) := (World.cell?_of_block (a := ⟨w.heap.size + 1 + 1, 9, none⟩) (hb5.block _ hyy)).trans hd9; have hf5 : ∀ o, w5.frozen? ⟨w.heap.size + 1 + 1, o, none⟩ = false := (fun o => (World.frozen?_of_block (a := ⟨w.heap.size + 1 + 1, o, none⟩) (hb5.block _ hyy)).trans (((bcell hb4).2 _ o y0).trans (yf o))); have hbl5 : Below W0.heap.size wr w5 := hbl4.trans hb5; have HS5 := Lib.hid (keepE HSE.out (show w.heap.size < W0.heap.size by omega) (show bb < W0.heap.size by omega) hbl5))
        (try go_wp2_with fail)
        refine hK.out _ _ ?_ (fun hHeld => ?_)
        · try dsimp only
          first | exact HSE.out | exact keepP HS5.out (show w.heap.size ≠ w.heap.size + 1 + 1 by omega) (show bb ≠ w.heap.size + 1 + 1 by omega) (fun q hq => Below.heap_setCell _ _ _ _ (by dsimp only; omega)) | exact keepE HSE.out (show w.heap.size < W0.heap.size by omega) (show bb < W0.heap.size by omega) (by go_grown)
        clear hK K
        try simp only [Act.put, List.setIfInBounds_toArray, List.set_cons_zero, List.set_cons_succ]
        refine wpAnyH_ready (rs := [9]) (by kernel_rfl) (by simp) ?_
        refine AllReadyH.cons (o := { dst := some 56, op := Go.Op.buildSlice 27 1 #[(0, Go.Operand.tmp 55)], type := 27, pos := "l4_forms.go:43", after := #[{ on := 8, ground := Go.Ground.data }], guard := none }) rfl (fun K hK => ?_) AllReadyH.nil
        go_simp
        refine hK.out _ _ ?_ (fun hHeld => ?_)
        · try dsimp only
          first | exact HSE.out | exact keepP HS5.out (show w.heap.size ≠ w.heap.size + 1 + 1 by omega) (show bb ≠ w.heap.size + 1 + 1 by omega) (fun q hq => Below.heap_setCell _ _ _ _ (by dsimp only; omega)) | exact keepE HSE.out (show w.heap.size < W0.heap.size by omega) (show bb < W0.heap.size by omega) (by go_grown)
        clear hK K
        try simp only [Act.put, List.setIfInBounds_toArray, List.set_cons_zero, List.set_cons_succ]
        refine wpAnyH_ready (rs := [10]) (by kernel_rfl) (by simp) ?_
        refine AllReadyH.cons (o := { dst := some 57, op := Go.Op.call { callee := Go.Callee.builtin Go.Builtin.append, args := #[Go.Operand.tmp 48, Go.Operand.tmp 56], argTypes := #[27, 27] }, type := 27, pos := "l4_forms.go:43", after := #[{ on := 1, ground := Go.Ground.data }, { on := 9, ground := Go.Ground.data }, { on := 8, ground := Go.Ground.chain }], guard := none }) rfl (fun K hK => ?_) AllReadyH.nil
        rw [if_pos (by rfl)]
        (refine oper_append _ _ _ rfl rfl rfl hr5 ?_)
        refine hK.out _ _ ?_ (fun hHeld => ?_)
        · try dsimp only
          first | exact HSE.out | exact keepP HS5.out (show w.heap.size ≠ w.heap.size + 1 + 1 by omega) (show bb ≠ w.heap.size + 1 + 1 by omega) (fun q hq => Below.heap_setCell _ _ _ _ (by dsimp only; omega)) | exact keepE HSE.out (show w.heap.size < W0.heap.size by omega) (show bb < W0.heap.size by omega) (by go_grown)
        clear hK K
        try simp only [Act.put, List.setIfInBounds_toArray, List.set_cons_zero, List.set_cons_succ]
        refine wpAnyH_take (i := 11) (oi := { dst := some 58, op := Go.Op.fieldAddr 29 (Go.Operand.tmp 5) 3, type := 0, pos := "l4_forms.go:43", after := #[{ on := 0, ground := Go.Ground.phase }, { on := 1, ground := Go.Ground.phase }, { on := 2, ground := Go.Ground.phase }, { on := 3, ground := Go.Ground.phase }, { on := 4, ground := Go.Ground.phase }, { on := 5, ground := Go.Ground.phase }, { on := 6, ground := Go.Ground.phase }, { on := 7, ground := Go.Ground.phase }, { on := 8, ground := Go.Ground.phase }, { on := 9, ground := Go.Ground.phase }, { on := 10, ground := Go.Ground.phase }], guard := none }) (v := ?_) rfl (by kernel_rfl) (by kernel_rfl) (by kernel_rfl) (fun _ _ _ h => h) (Or.inl ⟨by rfl, ?_⟩) (by assumption) ?_
        rotate_left
        · (intro w hSw; (try dsimp only at hSw); first | (go_simp; done) | (go_simp; with_reducible rfl))
        try simp only [Act.put, List.setIfInBounds_toArray, List.set_cons_zero, List.set_cons_succ]
        refine wpAnyH_ready (rs := [12]) (by kernel_rfl) (by simp) ?_
        refine AllReadyH.cons (o := { dst := none, op := Go.Op.store 27 (Go.Operand.tmp 58) (Go.Operand.tmp 57), type := 0, pos := "l4_forms.go:43", after := #[{ on := 11, ground := Go.Ground.data }, { on := 10, ground := Go.Ground.data }, { on := 10, ground := Go.Ground.chain }, { on := 0, ground := Go.Ground.phase }, { on := 1, ground := Go.Ground.phase }, { on := 2, ground := Go.Ground.phase }, { on := 3, ground := Go.Ground.phase }, { on := 4, ground := Go.Ground.phase }, { on := 5, ground := Go.Ground.phase }, { on := 6, ground := Go.Ground.phase }, { on := 7, ground := Go.Ground.phase }, { on := 8, ground := Go.Ground.phase }, { on := 9, ground := Go.Ground.phase }, { on := 10, ground := Go.Ground.phase }], guard := none }) rfl (fun K hK => ?_) AllReadyH.nil
        go_simp
        refine hK.out _ _ ?_ (fun hHeld => ?_)
        · try dsimp only
          first | exact HSE.out | exact keepP HS5.out (show w.heap.size ≠ w.heap.size + 1 + 1 by omega) (show bb ≠ w.heap.size + 1 + 1 by omega) (fun q hq => Below.heap_setCell _ _ _ _ (by dsimp only; omega)) | exact keepE HSE.out (show w.heap.size < W0.heap.size by omega) (show bb < W0.heap.size by omega) (by go_grown)
        clear hK K
        try simp only [Act.put, List.setIfInBounds_toArray, List.set_cons_zero, List.set_cons_succ]
        refine wpAnyH_done (by kernel_rfl) ?_ _
        have hst5 := mlst_low (mlst_below HST.out (w' := w4) (below_on (Below.drew (Below.refl _ _)) hb4)) hb5
        generalize hW6 : World.setCell _ _ _ = W6
        obtain ⟨hst6, hk6, hs6⟩ := mlst_put hst5 hW6
        have how6 := fown_put ho5 (by omega) (by omega) hk6 hs6
        have HN6 : Hid (LnR true f (.slice (some ⟨bb, o, none⟩) f.len sc) bb o lo w W0 ⟨0, 0, 0, 0, 0, 0, 0, 0, u⟩ ⟨1, 0, 0, 0, 0, 0, 0, 0, u⟩ (.int .i64 ((k + 1 : Nat) : Int)) W6) := ⟨k + 1, pre0.app (.cons h' s' .nil), r', _, rfl, by rw [Fo.app_len, HPL.out]; rfl, by rw [Fo.app_assoc]; exact HAP.out, hrok.2, by rw [show o + (k + 1) * 10 = o + k * 10 + 10 by omega]; exact HR.out, hst6, by rw [ng_snoc]; exact how6⟩
        clear hW6 hst5 hst6 hk6 hs6 how6 ho5 hr5 hs4 HS4 hf5 he9 hd9 hb4 hb5 x0 c0 c1 c2 c3 c4 c5 c6 c7 c8 c9 y0 e0 e1 e2 e3 e4 e5 e6 e7 e8 e9 yf z0 d0 d1 d2 d3 d4 d5 d6 d7 d8 d9 zf hbl4 hbl5 HS5 HSE hbw
        go_wp2
        go_roundw
        case rel =>
          have e : ((k + 1 : Nat) : Int) = (k : Int) + 1 := by omega
          have h9 := HN6.out
          rw [e] at h9
          exact h9
        case measure => simp [intOf]; omega
      ·
        go_simp
        (go_at_call 89; refine HC.out.mono ?_; rintro e w4 ⟨s4, rfl, hs4, hb4⟩; have HS4 := Lib.hid hs4; obtain ⟨ga, gn, gc, rfl⟩ := hs4.slice; have hs44 : wr.heap.size ≤ w4.heap.size := hb4.size; have hlt4 : w.heap.size + 1 + 1 < w4.heap.size := (by omega); have hbl4 : Below W0.heap.size wr w4 := Below.mono (below_on (Below.drew (Below.refl _ _)) hb4) hsW; have hd9 : w4.cell? ⟨w.heap.size + 1 + 1, 9, none⟩ = some (.slice va k vc) := ((bcell hb4).1 _ 9 y0).trans e9; obtain ⟨v5, w5, hr5, ho5, hb5⟩ := fown_app (wa := wr.drew) (w4 := w4) (ngF true h' s').1 (ngF true h' s').2 ga gn gc (fown_below HOW.out (Below.drew (Below.refl _ _))) (by rw [HLV.out]; exact hlen1) (by omega) hb4 (FSP.kept (Nat.le_refl _) (fun _ _ _ => rfl) (fun q hq => ⟨Nat.le_trans hsW hq.1, .inr hq.1, hq.2⟩) (FSP.of HS4.out)); obtain ⟨a5, c5x, rfl⟩ := fown_slice ho5; rw [HLV.out] at hr5; have he9 : w5.cell? ⟨w.heap.size + 1 + 1, 9, none⟩ = some (.slice va k vc) := (World.cell?_of_block (a := ⟨w.heap.size + 1 + 1, 9, none⟩) (hb5.block _ hyy)).trans hd9; have hf5 : ∀ o, w5.frozen? ⟨w.heap.size + 1 + 1, o, none⟩ = false := (fun o => (World.frozen?_of_block (a := ⟨w.heap.size + 1 + 1, o, none⟩) (hb5.block _ hyy)).trans (((bcell hb4).2 _ o y0).trans (yf o))); have hbl5 : Below W0.heap.size wr w5 := hbl4.trans hb5; have HS5 := Lib.hid (keepE HSE.out (show w.heap.size < W0.heap.size by omega) (show bb < W0.heap.size by omega) hbl5))
        (try go_wp2_with fail)
        refine hK.out _ _ ?_ (fun hHeld => ?_)
        · try dsimp only
          first | exact HSE.out | exact keepP HS5.out (show w.heap.size ≠ w.heap.size + 1 + 1 by omega) (show bb ≠ w.heap.size + 1 + 1 by omega) (fun q hq => Below.heap_setCell _ _ _ _ (by dsimp only; omega)) | exact keepE HSE.out (show w.heap.size < W0.heap.size by omega) (show bb < W0.heap.size by omega) (by go_grown)
        clear hK K
        try simp only [Act.put, List.setIfInBounds_toArray, List.set_cons_zero, List.set_cons_succ]
        refine wpAnyH_ready (rs := [1, 9]) (by kernel_rfl) (by simp) ?_
        refine AllReadyH.cons (o := { dst := some 48, op := Go.Op.load 27 (Go.Operand.tmp 47), type := 27, pos := "l4_forms.go:43", after := #[{ on := 0, ground := Go.Ground.data }], guard := none }) rfl (fun K hK => ?_) (AllReadyH.cons (o := { dst := some 56, op := Go.Op.buildSlice 27 1 #[(0, Go.Operand.tmp 55)], type := 27, pos := "l4_forms.go:43", after := #[{ on := 8, ground := Go.Ground.data }], guard := none }) rfl (fun K hK => ?_) AllReadyH.nil)
        ·
          go_simp
          refine hK.out _ _ ?_ (fun hHeld => ?_)
          · try dsimp only
            first | exact HSE.out | exact keepP HS5.out (show w.heap.size ≠ w.heap.size + 1 + 1 by omega) (show bb ≠ w.heap.size + 1 + 1 by omega) (fun q hq => Below.heap_setCell _ _ _ _ (by dsimp only; omega)) | exact keepE HSE.out (show w.heap.size < W0.heap.size by omega) (show bb < W0.heap.size by omega) (by go_grown)
          clear hK K
          try simp only [Act.put, List.setIfInBounds_toArray, List.set_cons_zero, List.set_cons_succ]
          refine wpAnyH_ready (rs := [9]) (by kernel_rfl) (by simp) ?_
          refine AllReadyH.cons (o := { dst := some 56, op := Go.Op.buildSlice 27 1 #[(0, Go.Operand.tmp 55)], type := 27, pos := "l4_forms.go:43", after := #[{ on := 8, ground := Go.Ground.data }], guard := none }) rfl (fun K hK => ?_) AllReadyH.nil
          go_simp
          refine hK.out _ _ ?_ (fun hHeld => ?_)
          · try dsimp only
            first | exact HSE.out | exact keepP HS5.out (show w.heap.size ≠ w.heap.size + 1 + 1 by omega) (show bb ≠ w.heap.size + 1 + 1 by omega) (fun q hq => Below.heap_setCell _ _ _ _ (by dsimp only; omega)) | exact keepE HSE.out (show w.heap.size < W0.heap.size by omega) (show bb < W0.heap.size by omega) (by go_grown)
          clear hK K
          try simp only [Act.put, List.setIfInBounds_toArray, List.set_cons_zero, List.set_cons_succ]
          refine wpAnyH_ready (rs := [10]) (by kernel_rfl) (by simp) ?_
          refine AllReadyH.cons (o := { dst := some 57, op := Go.Op.call { callee := Go.Callee.builtin Go.Builtin.append, args := #[Go.Operand.tmp 48, Go.Operand.tmp 56], argTypes := #[27, 27] }, type := 27, pos := "l4_forms.go:43", after := #[{ on := 1, ground := Go.Ground.data }, { on := 9, ground := Go.Ground.data }, { on := 8, ground := Go.Ground.chain }], guard := none }) rfl (fun K hK => ?_) AllReadyH.nil
          rw [if_pos (by rfl)]
          (refine oper_append _ _ _ rfl rfl rfl hr5 ?_)
          refine hK.out _ _ ?_ (fun hHeld => ?_)
          · try dsimp only
            first | exact HSE.out | exact keepP HS5.out (show w.heap.size ≠ w.heap.size + 1 + 1 by omega) (show bb ≠ w.heap.size + 1 + 1 by omega) (fun q hq => Below.heap_setCell _ _ _ _ (by dsimp only; omega)) | exact keepE HSE.out (show w.heap.size < W0.heap.size by omega) (show bb < W0.heap.size by omega) (by go_grown)
          clear hK K
          try simp only [Act.put, List.setIfInBounds_toArray, List.set_cons_zero, List.set_cons_succ]
          refine wpAnyH_take (i := 11) (oi := { dst := some 58, op := Go.Op.fieldAddr 29 (Go.Operand.tmp 5) 3, type := 0, pos := "l4_forms.go:43", after := #[{ on := 0, ground := Go.Ground.phase }, { on := 1, ground := Go.Ground.phase }, { on := 2, ground := Go.Ground.phase }, { on := 3, ground := Go.Ground.phase }, { on := 4, ground := Go.Ground.phase }, { on := 5, ground := Go.Ground.phase }, { on := 6, ground := Go.Ground.phase }, { on := 7, ground := Go.Ground.phase }, { on := 8, ground := Go.Ground.phase }, { on := 9, ground := Go.Ground.phase }, { on := 10, ground := Go.Ground.phase }], guard := none }) (v := ?_) rfl (by kernel_rfl) (by kernel_rfl) (by kernel_rfl) (fun _ _ _ h => h) (Or.inl ⟨by rfl, ?_⟩) (by assumption) ?_
          rotate_left
          · (intro w hSw; (try dsimp only at hSw); first | (go_simp; done) | (go_simp; with_reducible rfl))
          try simp only [Act.put, List.setIfInBounds_toArray, List.set_cons_zero, List.set_cons_succ]
          refine wpAnyH_ready (rs := [12]) (by kernel_rfl) (by simp) ?_
          refine AllReadyH.cons (o := { dst := none, op := Go.Op.store 27 (Go.Operand.tmp 58) (Go.Operand.tmp 57), type := 0, pos := "l4_forms.go:43", after := #[{ on := 11, ground := Go.Ground.data }, { on := 10, ground := Go.Ground.data }, { on := 10, ground := Go.Ground.chain }, { on := 0, ground := Go.Ground.phase }, { on := 1, ground := Go.Ground.phase }, { on := 2, ground := Go.Ground.phase }, { on := 3, ground := Go.Ground.phase }, { on := 4, ground := Go.Ground.phase }, { on := 5, ground := Go.Ground.phase }, { on := 6, ground := Go.Ground.phase }, { on := 7, ground := Go.Ground.phase }, { on := 8, ground := Go.Ground.phase }, { on := 9, ground := Go.Ground.phase }, { on := 10, ground := Go.Ground.phase }], guard := none }) rfl (fun K hK => ?_) AllReadyH.nil
          go_simp
          refine hK.out _ _ ?_ (fun hHeld => ?_)
          · try dsimp only
            first | exact HSE.out | exact keepP HS5.out (show w.heap.size ≠ w.heap.size + 1 + 1 by omega) (show bb ≠ w.heap.size + 1 + 1 by omega) (fun q hq => Below.heap_setCell _ _ _ _ (by dsimp only; omega)) | exact keepE HSE.out (show w.heap.size < W0.heap.size by omega) (show bb < W0.heap.size by omega) (by go_grown)
          clear hK K
          try simp only [Act.put, List.setIfInBounds_toArray, List.set_cons_zero, List.set_cons_succ]
          refine wpAnyH_done (by kernel_rfl) ?_ _
          have hst5 := mlst_low (mlst_below HST.out (w' := w4) (below_on (Below.drew (Below.refl _ _)) hb4)) hb5
          generalize hW6 : World.setCell _ _ _ = W6
          obtain ⟨hst6, hk6, hs6⟩ := mlst_put hst5 hW6
          have how6 := fown_put ho5 (by omega) (by omega) hk6 hs6
          have HN6 : Hid (LnR true f (.slice (some ⟨bb, o, none⟩) f.len sc) bb o lo w W0 ⟨0, 0, 0, 0, 0, 0, 0, 0, u⟩ ⟨1, 0, 0, 0, 0, 0, 0, 0, u⟩ (.int .i64 ((k + 1 : Nat) : Int)) W6) := ⟨k + 1, pre0.app (.cons h' s' .nil), r', _, rfl, by rw [Fo.app_len, HPL.out]; rfl, by rw [Fo.app_assoc]; exact HAP.out, hrok.2, by rw [show o + (k + 1) * 10 = o + k * 10 + 10 by omega]; exact HR.out, hst6, by rw [ng_snoc]; exact how6⟩
          clear hW6 hst5 hst6 hk6 hs6 how6 ho5 hr5 hs4 HS4 hf5 he9 hd9 hb4 hb5 x0 c0 c1 c2 c3 c4 c5 c6 c7 c8 c9 y0 e0 e1 e2 e3 e4 e5 e6 e7 e8 e9 yf z0 d0 d1 d2 d3 d4 d5 d6 d7 d8 d9 zf hbl4 hbl5 HS5 HSE hbw
          go_wp2
          go_roundw
          case rel =>
            have e : ((k + 1 : Nat) : Int) = (k : Int) + 1 := by omega
            have h9 := HN6.out
            rw [e] at h9
            exact h9
          case measure => simp [intOf]; omega
        ·
          go_simp
          refine hK.out _ _ ?_ (fun hHeld => ?_)
          · try dsimp only
            first | exact HSE.out | exact keepP HS5.out (show w.heap.size ≠ w.heap.size + 1 + 1 by omega) (show bb ≠ w.heap.size + 1 + 1 by omega) (fun q hq => Below.heap_setCell _ _ _ _ (by dsimp only; omega)) | exact keepE HSE.out (show w.heap.size < W0.heap.size by omega) (show bb < W0.heap.size by omega) (by go_grown)
          clear hK K
          try simp only [Act.put, List.setIfInBounds_toArray, List.set_cons_zero, List.set_cons_succ]
          refine wpAnyH_ready (rs := [1]) (by kernel_rfl) (by simp) ?_
          refine AllReadyH.cons (o := { dst := some 48, op := Go.Op.load 27 (Go.Operand.tmp 47), type := 27, pos := "l4_forms.go:43", after := #[{ on := 0, ground := Go.Ground.data }], guard := none }) rfl (fun K hK => ?_) AllReadyH.nil
          go_simp
          refine hK.out _ _ ?_ (fun hHeld => ?_)
          · try dsimp only
            first | exact HSE.out | exact keepP HS5.out (show w.heap.size ≠ w.heap.size + 1 + 1 by omega) (show bb ≠ w.heap.size + 1 + 1 by omega) (fun q hq => Below.heap_setCell _ _ _ _ (by dsimp only; omega)) | exact keepE HSE.out (show w.heap.size < W0.heap.size by omega) (show bb < W0.heap.size by omega) (by go_grown)
          clear hK K
          try simp only [Act.put, List.setIfInBounds_toArray, List.set_cons_zero, List.set_cons_succ]
          refine wpAnyH_ready (rs := [10]) (by kernel_rfl) (by simp) ?_
          refine AllReadyH.cons (o := { dst := some 57, op := Go.Op.call { callee := Go.Callee.builtin Go.Builtin.append, args := #[Go.Operand.tmp 48, Go.Operand.tmp 56], argTypes := #[27, 27] }, type := 27, pos := "l4_forms.go:43", after := #[{ on := 1, ground := Go.Ground.data }, { on := 9, ground := Go.Ground.data }, { on := 8, ground := Go.Ground.chain }], guard := none }) rfl (fun K hK => ?_) AllReadyH.nil
          rw [if_pos (by rfl)]
          (refine oper_append _ _ _ rfl rfl rfl hr5 ?_)
          refine hK.out _ _ ?_ (fun hHeld => ?_)
          · try dsimp only
            first | exact HSE.out | exact keepP HS5.out (show w.heap.size ≠ w.heap.size + 1 + 1 by omega) (show bb ≠ w.heap.size + 1 + 1 by omega) (fun q hq => Below.heap_setCell _ _ _ _ (by dsimp only; omega)) | exact keepE HSE.out (show w.heap.size < W0.heap.size by omega) (show bb < W0.heap.size by omega) (by go_grown)
          clear hK K
          try simp only [Act.put, List.setIfInBounds_toArray, List.set_cons_zero, List.set_cons_succ]
          refine wpAnyH_take (i := 11) (oi := { dst := some 58, op := Go.Op.fieldAddr 29 (Go.Operand.tmp 5) 3, type := 0, pos := "l4_forms.go:43", after := #[{ on := 0, ground := Go.Ground.phase }, { on := 1, ground := Go.Ground.phase }, { on := 2, ground := Go.Ground.phase }, { on := 3, ground := Go.Ground.phase }, { on := 4, ground := Go.Ground.phase }, { on := 5, ground := Go.Ground.phase }, { on := 6, ground := Go.Ground.phase }, { on := 7, ground := Go.Ground.phase }, { on := 8, ground := Go.Ground.phase }, { on := 9, ground := Go.Ground.phase }, { on := 10, ground := Go.Ground.phase }], guard := none }) (v := ?_) rfl (by kernel_rfl) (by kernel_rfl) (by kernel_rfl) (fun _ _ _ h => h) (Or.inl ⟨by rfl, ?_⟩) (by assumption) ?_
          rotate_left
          · (intro w hSw; (try dsimp only at hSw); first | (go_simp; done) | (go_simp; with_reducible rfl))
          try simp only [Act.put, List.setIfInBounds_toArray, List.set_cons_zero, List.set_cons_succ]
          refine wpAnyH_ready (rs := [12]) (by kernel_rfl) (by simp) ?_
          refine AllReadyH.cons (o := { dst := none, op := Go.Op.store 27 (Go.Operand.tmp 58) (Go.Operand.tmp 57), type := 0, pos := "l4_forms.go:43", after := #[{ on := 11, ground := Go.Ground.data }, { on := 10, ground := Go.Ground.data }, { on := 10, ground := Go.Ground.chain }, { on := 0, ground := Go.Ground.phase }, { on := 1, ground := Go.Ground.phase }, { on := 2, ground := Go.Ground.phase }, { on := 3, ground := Go.Ground.phase }, { on := 4, ground := Go.Ground.phase }, { on := 5, ground := Go.Ground.phase }, { on := 6, ground := Go.Ground.phase }, { on := 7, ground := Go.Ground.phase }, { on := 8, ground := Go.Ground.phase }, { on := 9, ground := Go.Ground.phase }, { on := 10, ground := Go.Ground.phase }], guard := none }) rfl (fun K hK => ?_) AllReadyH.nil
          go_simp
          refine hK.out _ _ ?_ (fun hHeld => ?_)
          · try dsimp only
            first | exact HSE.out | exact keepP HS5.out (show w.heap.size ≠ w.heap.size + 1 + 1 by omega) (show bb ≠ w.heap.size + 1 + 1 by omega) (fun q hq => Below.heap_setCell _ _ _ _ (by dsimp only; omega)) | exact keepE HSE.out (show w.heap.size < W0.heap.size by omega) (show bb < W0.heap.size by omega) (by go_grown)
          clear hK K
          try simp only [Act.put, List.setIfInBounds_toArray, List.set_cons_zero, List.set_cons_succ]
          refine wpAnyH_done (by kernel_rfl) ?_ _
          have hst5 := mlst_low (mlst_below HST.out (w' := w4) (below_on (Below.drew (Below.refl _ _)) hb4)) hb5
          generalize hW6 : World.setCell _ _ _ = W6
          obtain ⟨hst6, hk6, hs6⟩ := mlst_put hst5 hW6
          have how6 := fown_put ho5 (by omega) (by omega) hk6 hs6
          have HN6 : Hid (LnR true f (.slice (some ⟨bb, o, none⟩) f.len sc) bb o lo w W0 ⟨0, 0, 0, 0, 0, 0, 0, 0, u⟩ ⟨1, 0, 0, 0, 0, 0, 0, 0, u⟩ (.int .i64 ((k + 1 : Nat) : Int)) W6) := ⟨k + 1, pre0.app (.cons h' s' .nil), r', _, rfl, by rw [Fo.app_len, HPL.out]; rfl, by rw [Fo.app_assoc]; exact HAP.out, hrok.2, by rw [show o + (k + 1) * 10 = o + k * 10 + 10 by omega]; exact HR.out, hst6, by rw [ng_snoc]; exact how6⟩
          clear hW6 hst5 hst6 hk6 hs6 how6 ho5 hr5 hs4 HS4 hf5 he9 hd9 hb4 hb5 x0 c0 c1 c2 c3 c4 c5 c6 c7 c8 c9 y0 e0 e1 e2 e3 e4 e5 e6 e7 e8 e9 yf z0 d0 d1 d2 d3 d4 d5 d6 d7 d8 d9 zf hbl4 hbl5 HS5 HSE hbw
          go_wp2
          go_roundw
          case rel =>
            have e : ((k + 1 : Nat) : Int) = (k : Int) + 1 := by omega
            have h9 := HN6.out
            rw [e] at h9
            exact h9
          case measure => simp [intOf]; omega

set_option maxRecDepth 10000 in
set_option maxHeartbeats 4000000 in
/-- The negation of a formula of the kind 1. -/
theorem ln_op1 (h : FH) (f : Fo) (HF : ∀ h s, s.size < f.size → ∀ b, LnF b h s) (hk : h.k = 1) : LnF true h f := by
  intro ho hok w lo s hs
  have h3 : h.k ≠ 3 := by omega
  have h2 : h.k ≠ 2 := by omega
  have H := Lib.hid HF
  have hq := ngF_else (b := true) (f := f) h3 (.inr h2)
  obtain ⟨sa, sc, rfl⟩ := fs_len0 hs
  obtain ⟨bb, o, hel, hsh⟩ := fs_shape hs
  have HEL := Lib.hid hel
  have HSH := Lib.hid hsh
  have hlen := Fo.len_le f
  have hf6 : f.len ≤ 2 := by rcases own_kind ho with ⟨h, _⟩ | ⟨h, _⟩ | ⟨h, _⟩ <;> omega
  obtain ⟨z1, z2, z3, z4, z5, z6, z7⟩ := own_zero ho h2
  obtain ⟨kk, ak, am, a, bq, c, d, n, u⟩ := h
  dsimp only at z1 z2 z3 z4 z5 z6 z7 hq
  dsimp only at hk
  subst hk z1 z2 z3 z4 z5 z6 z7
  have HOK := Lib.hid hok
  clear HF hs hel hsh ho hok h2 h3
  have HQ := Lib.hid hq
  clear hq
  go_enter Try.func89, Try.ntmps89
  go_upto_region 10 with fail
  generalize hW0 : World.alloc _ _ = W0
  have hst : MlSt w W0 w.heap.size (w.heap.size + 1 + 1) (w.heap.size + 1) ⟨1, 0, 0, 0, 0, 0, 0, 0, u⟩ ⟨0, 0, 0, 0, 0, 0, 0, 0, u⟩ (.slice sa f.len sc) (.slice none 0 0) W0 := by
    have hz : w.heap.size + 1 + 1 < W0.heap.size := by subst hW0; simp only [World.size_alloc]; omega
    refine ⟨?_, ?_, ?_, ?_, ?_, ?_, Nat.le_refl _, by omega, by omega, by omega, by omega, by omega, by omega, by omega, by omega, by omega⟩
    · subst hW0; exact (by refine ⟨?_, ?_, ?_, ?_, ?_, ?_, ?_, ?_, ?_, ?_, ?_⟩ <;> first | (simp [go_sem]; done) | (simp; omega))
    · subst hW0; exact (by refine ⟨?_, ?_, ?_, ?_, ?_, ?_, ?_, ?_, ?_, ?_, ?_⟩ <;> first | (simp [go_sem]; done) | (simp; omega))
    · intro o; subst hW0; simp [go_sem]
    · subst hW0; exact (by refine ⟨?_, ?_, ?_, ?_, ?_, ?_, ?_, ?_, ?_, ?_, ?_⟩ <;> first | (simp [go_sem]; done) | (simp; omega))
    · intro o; subst hW0; simp [go_sem]
    · subst hW0; go_grown
  have HST := Lib.hid (show LnR true f (.slice sa f.len sc) bb o lo w W0 ⟨1, 0, 0, 0, 0, 0, 0, 0, u⟩ ⟨0, 0, 0, 0, 0, 0, 0, 0, u⟩ (.int .i64 0) W0 from ⟨0, .nil, f, _, rfl, rfl, rfl, HOK.out, HEL.out, hst, fown_nil _ _ _⟩)
  clear hW0 hst
  go_wp2_with fail
  go_loopw [6] (fun i wr => LnR true f (.slice sa f.len sc) bb o lo w W0 ⟨1, 0, 0, 0, 0, 0, 0, 0, u⟩ ⟨0, 0, 0, 0, 0, 0, 0, 0, u⟩ i wr) (fun i _ => f.len - (intOf i).toNat)
  case atStart => exact HST.out
  case round =>
    obtain ⟨k, pre0, r, v, rfl, hpl, hap, hrok, hr, hst, how⟩ := hrel
    clear HST
    have HAP := Lib.hid hap
    have HPL := Lib.hid hpl
    have HST := Lib.hid hst
    have HOW := Lib.hid how
    have hkf : k + r.len = f.len := by rw [← hap, Fo.app_len, hpl]
    have hszr : r.size ≤ f.size := by rw [← hap, size_app]; omega
    obtain ⟨va, vc, hv⟩ := fown_slice how
    subst hv
    have hlv : (pre0.ng true).len = k := by rw [ng_len, hpl]
    obtain ⟨⟨x0, c0, c1, c2, c3, c4, c5, c6, c7, c8, c9⟩, ⟨y0, e0, e1, e2, e3, e4, e5, e6, e7, e8, e9⟩, yf, ⟨z0, d0, d1, d2, d3, d4, d5, d6, d7, d8, d9⟩, zf, hbw, hsW, _⟩ := id hst
    rw [hlv] at e9
    have HLV := Lib.hid hlv
    have hzz : w.heap.size + 1 < W0.heap.size := HST.out.2.2.2.2.2.2.2.2.2.2.2.2.1
    have hyy : w.heap.size + 1 + 1 < W0.heap.size := HST.out.2.2.2.2.2.2.2.2.2.2.2.1
    clear hap hpl hst how hlv
    cases r with
    | nil =>
      simp only [Fo.len] at hkf
      have hkl : ¬ (k : Int) < (f.len : Int) := by omega
      have e : pre0 = f := by have := HAP.out; rwa [Fo.app_nil] at this
      subst e
      obtain rfl : k = pre0.len := by omega
      go_wp2_with fail
      generalize hW7 : World.setCell _ _ _ = W7
      have hblk7 : ∀ x, x ≠ w.heap.size + 1 → W7.heap[x]? = wr.heap[x]? := fun x hx => by subst hW7; repeat rw [Below.heap_setCell _ _ _ _ (by dsimp only; omega)]
      have hsz7 : W7.heap.size = wr.heap.size := by subst hW7; simp [World.setCell]
      obtain ⟨hx7, hb7⟩ := put10b (g := ⟨0, 0, 0, 0, 0, 0, 0, 0, u⟩) HST.out.2.2.2.1 hW7
      have hww7 := hbw.trans (hb7 w.heap.size (by omega))
      have HS7 := Lib.hid (FS.mono (lo' := w.heap.size) (by omega) (fown_fs (fown_put HOW.out (by omega) (by omega) hblk7 hsz7) (Nat.le_refl _)))
      obtain ⟨q0, k0, k1, k2, k3, k4, k5, k6, k7, k8, k9⟩ := hx7
      rw [HLV.out] at HS7
      (try simp only [Exit.inBlock, Exit.then])
      refine bodyPost_ret (v := .agg #[.int .i64 0, .int .i64 0, .int .i64 0, .int .i64 0, .int .i64 0, .int .i64 0, .int .i64 0, .int .i64 0, .int .i64 u, .slice va pre0.len vc]) ?_ rfl ⟨_, by rw [HQ.out]; rfl, by rw [HQ.out]; exact HS7.out, hww7⟩
      rw [results_cell1 rfl]
      go_simp
    | cons h' s' r' =>
      simp only [Fo.len] at hkf
      simp only [Fo.size] at hszr
      simp only [Fo.okB, Bool.and_eq_true] at hrok
      have hkl : (k : Int) < (f.len : Int) := by omega
      have hk0 : (0 : Int) ≤ k := by omega
      obtain ⟨rfl, hcc2, hcc1, hlo, hbb⟩ := HSH.out (by omega)
      have hcc2' := hcc2
      unfold maxLen at hcc2'
      have HR := Lib.hid hr.2
      obtain ⟨⟨sl, hrow, hsl⟩, _⟩ := FEl.below hbw (Nat.le_refl _) hlo hbb hr
      obtain ⟨la, ln, lc, rfl⟩ : ∃ a n c, sl = .slice a n c := FS.slice (w := wr) (lo := lo) (f := s') hsl
      have HC := Lib.hid (H.out h' s' (by omega) true hrok.1.1 hrok.1.2 wr.drew lo _ (FS.below (w := wr) (Below.drew (Below.refl _ _)) (Nat.le_refl _) hsl))
      have HSE := Lib.hid (show wr.cell? ⟨w.heap.size, 9, none⟩ = some (.slice (some ⟨bb, o, none⟩) f.len sc) ∧ FRow wr bb (o + k * 10) h' (.slice la ln lc) from ⟨c9, hrow⟩)
      clear hrow
      have hlen1 : k ≤ 1048576 := by omega
      clear hsl hr
      go_wp2_with fail
      refine wp_region_held_drew (S := (fun w' => w'.cell? ⟨w.heap.size, 9, none⟩ = some (.slice (some ⟨bb, o, none⟩) f.len sc) ∧ w'.cell? ⟨bb, o + k * 10, none⟩ = some (.int .i64 h'.k) ∧ w'.cell? ⟨bb, o + k * 10 + 1, none⟩ = some (.int .i64 h'.ak) ∧ w'.cell? ⟨bb, o + k * 10 + 2, none⟩ = some (.int .i64 h'.am) ∧ w'.cell? ⟨bb, o + k * 10 + 3, none⟩ = some (.int .i64 h'.a) ∧ w'.cell? ⟨bb, o + k * 10 + 4, none⟩ = some (.int .i64 h'.b) ∧ w'.cell? ⟨bb, o + k * 10 + 5, none⟩ = some (.int .i64 h'.c) ∧ w'.cell? ⟨bb, o + k * 10 + 6, none⟩ = some (.int .i64 h'.d) ∧ w'.cell? ⟨bb, o + k * 10 + 7, none⟩ = some (.int .i64 h'.n) ∧ w'.cell? ⟨bb, o + k * 10 + 8, none⟩ = some (.int .i64 h'.v) ∧ w'.cell? ⟨bb, o + k * 10 + 9, none⟩ = some (.slice la ln lc))) (by kernel_rfl) ?_ (fun hHeld => ?_)
      · try dsimp only
        first | exact HSE.out | exact keepP HS5.out (show w.heap.size ≠ w.heap.size + 1 + 1 by omega) (show bb ≠ w.heap.size + 1 + 1 by omega) (fun q hq => Below.heap_setCell _ _ _ _ (by dsimp only; omega)) | exact keepE HSE.out (show w.heap.size < W0.heap.size by omega) (show bb < W0.heap.size by omega) (by go_grown)
      refine wpAnyH_take (i := 0) (oi := { dst := some 47, op := Go.Op.fieldAddr 29 (Go.Operand.tmp 5) 3, type := 0, pos := "l4_forms.go:43", after := #[], guard := none }) (v := ?_) rfl (by kernel_rfl) (by kernel_rfl) (by kernel_rfl) (fun _ _ _ h => h) (Or.inl ⟨by rfl, ?_⟩) (by assumption) ?_
      rotate_left
      · (intro w hSw; (try dsimp only at hSw); first | (go_simp; done) | (go_simp; with_reducible rfl))
      try simp only [Act.put, List.setIfInBounds_toArray, List.set_cons_zero, List.set_cons_succ]
      refine wpAnyH_take (i := 2) (oi := { dst := some 49, op := Go.Op.fieldAddr 29 (Go.Operand.tmp 2) 3, type := 0, pos := "l4_forms.go:43", after := #[], guard := none }) (v := ?_) rfl (by kernel_rfl) (by kernel_rfl) (by kernel_rfl) (fun _ _ _ h => h) (Or.inl ⟨by rfl, ?_⟩) (by assumption) ?_
      rotate_left
      · (intro w hSw; (try dsimp only at hSw); first | (go_simp; done) | (go_simp; with_reducible rfl))
      try simp only [Act.put, List.setIfInBounds_toArray, List.set_cons_zero, List.set_cons_succ]
      refine wpAnyH_take (i := 3) (oi := { dst := some 50, op := Go.Op.load 27 (Go.Operand.tmp 49), type := 27, pos := "l4_forms.go:43", after := #[{ on := 2, ground := Go.Ground.data }], guard := none }) (v := ?_) rfl (by kernel_rfl) (by kernel_rfl) (by kernel_rfl) (fun _ _ _ h => h) (Or.inl ⟨by rfl, ?_⟩) (by assumption) ?_
      rotate_left
      · (intro w hSw; (try dsimp only at hSw); first | (go_simp; done) | (go_simp; with_reducible rfl))
      try simp only [Act.put, List.setIfInBounds_toArray, List.set_cons_zero, List.set_cons_succ]
      refine wpAnyH_take (i := 4) (oi := { dst := some 51, op := Go.Op.move (Go.Operand.tmp 6), type := 3, pos := "l4_forms.go:43", after := #[], guard := none }) (v := ?_) rfl (by kernel_rfl) (by kernel_rfl) (by kernel_rfl) (fun _ _ _ h => h) (Or.inl ⟨by rfl, ?_⟩) (by assumption) ?_
      rotate_left
      · (intro w hSw; (try dsimp only at hSw); first | (go_simp; done) | (go_simp; with_reducible rfl))
      try simp only [Act.put, List.setIfInBounds_toArray, List.set_cons_zero, List.set_cons_succ]
      refine wpAnyH_take (i := 5) (oi := { dst := some 52, op := Go.Op.indexAddr 27 (Go.Operand.tmp 50) (Go.Operand.tmp 51), type := 0, pos := "l4_forms.go:43", after := #[{ on := 3, ground := Go.Ground.data }, { on := 4, ground := Go.Ground.data }], guard := none }) (v := ?_) rfl (by kernel_rfl) (by kernel_rfl) (by kernel_rfl) (fun _ _ _ h => h) (Or.inl ⟨by rfl, ?_⟩) (by assumption) ?_
      rotate_left
      · (intro w hSw; (try dsimp only at hSw); first | (go_simp; done) | (go_simp; with_reducible rfl))
      try simp only [Act.put, List.setIfInBounds_toArray, List.set_cons_zero, List.set_cons_succ]
      refine wpAnyH_take (i := 6) (oi := { dst := some 53, op := Go.Op.load 29 (Go.Operand.tmp 52), type := 29, pos := "l4_forms.go:43", after := #[{ on := 5, ground := Go.Ground.data }], guard := none }) (v := ?_) rfl (by kernel_rfl) (by kernel_rfl) (by kernel_rfl) (fun _ _ _ h => h) (Or.inl ⟨by rfl, ?_⟩) (by assumption) ?_
      rotate_left
      · (intro w hSw; (try dsimp only at hSw); first | (go_simp; done) | (go_simp; with_reducible rfl))
      try simp only [Act.put, List.setIfInBounds_toArray, List.set_cons_zero, List.set_cons_succ]
      refine wpAnyH_take (i := 7) (oi := { dst := some 54, op := Go.Op.move (Go.Operand.tmp 1), type := 4, pos := "l4_forms.go:43", after := #[], guard := none }) (v := ?_) rfl (by kernel_rfl) (by kernel_rfl) (by kernel_rfl) (fun _ _ _ h => h) (Or.inl ⟨by rfl, ?_⟩) (by assumption) ?_
      rotate_left
      · (intro w hSw; (try dsimp only at hSw); first | (go_simp; done) | (go_simp; with_reducible rfl))
      try simp only [Act.put, List.setIfInBounds_toArray, List.set_cons_zero, List.set_cons_succ]
      refine wpAnyH_ready (rs := [1, 8]) (by kernel_rfl) (by simp) ?_
      refine AllReadyH.cons (o := { dst := some 48, op := Go.Op.load 27 (Go.Operand.tmp 47), type := 27, pos := "l4_forms.go:43", after := #[{ on := 0, ground := Go.Ground.data }], guard := none }) rfl (fun K hK => ?_) (AllReadyH.cons (o := { dst := some 55, op := Go.Op.call { callee := Go.Callee.value (Go.Operand.func 89), args := #[Go.Operand.tmp 53, Go.Operand.tmp 54], argTypes := #[29, 4] }, type := 29, pos := "l4_forms.go:43", after := #[{ on := 6, ground := Go.Ground.data }, { on := 7, ground := Go.Ground.data }], guard := none }) rfl (fun K hK => ?_) AllReadyH.nil)
      ·
        go_simp
        refine hK.out _ _ ?_ (fun hHeld => ?_)
        · try dsimp only
          first | exact HSE.out | exact keepP HS5.out (show w.heap.size ≠ w.heap.size + 1 + 1 by omega) (show bb ≠ w.heap.size + 1 + 1 by omega) (fun q hq => Below.heap_setCell _ _ _ _ (by dsimp only; omega)) | exact keepE HSE.out (show w.heap.size < W0.heap.size by omega) (show bb < W0.heap.size by omega) (by go_grown)
        clear hK K
        try simp only [Act.put, List.setIfInBounds_toArray, List.set_cons_zero, List.set_cons_succ]
        refine wpAnyH_ready (rs := [8]) (by kernel_rfl) (by simp) ?_
        refine AllReadyH.cons (o := { dst := some 55, op := Go.Op.call { callee := Go.Callee.value (Go.Operand.func 89), args := #[Go.Operand.tmp 53, Go.Operand.tmp 54], argTypes := #[29, 4] }, type := 29, pos := "l4_forms.go:43", after := #[{ on := 6, ground := Go.Ground.data }, { on := 7, ground := Go.Ground.data }], guard := none }) rfl (fun K hK => ?_) AllReadyH.nil
        go_simp
        (go_at_call 89; refine HC.out.mono ?_; rintro e w4 ⟨s4, rfl, hs4, hb4⟩; have HS4 := Lib.hid hs4; obtain ⟨ga, gn, gc, rfl⟩ := hs4.slice; have hs44 : wr.heap.size ≤ w4.heap.size := hb4.size; have hlt4 : w.heap.size + 1 + 1 < w4.heap.size := (by omega); have hbl4 : Below W0.heap.size wr w4 := Below.mono (below_on (Below.drew (Below.refl _ _)) hb4) hsW; have hd9 : w4.cell? ⟨w.heap.size + 1 + 1, 9, none⟩ = some (.slice va k vc) := ((bcell hb4).1 _ 9 y0).trans e9; obtain ⟨v5, w5, hr5, ho5, hb5⟩ := fown_app (wa := wr.drew) (w4 := w4) (ngF true h' s').1 (ngF true h' s').2 ga gn gc (fown_below HOW.out (Below.drew (Below.refl _ _))) (by rw [HLV.out]; exact hlen1) (by omega) hb4 (FSP.kept (Nat.le_refl _) (fun _ _ _ => rfl) (fun q hq => ⟨Nat.le_trans hsW hq.1, .inr hq.1, hq.2⟩) (FSP.of HS4.out)); obtain ⟨a5, c5x, rfl⟩ := fown_slice ho5; rw [HLV.out] at hr5; have he9 : w5.cell? ⟨w.heap.size + 1 + 1, 9, none⟩ = some (.slice va k vc) := (World.cell?_of_block (a := ⟨w.heap.size + 1 + 1, 9, none⟩) (hb5.block _ hyy)).trans hd9; have hf5 : ∀ o, w5.frozen? ⟨w.heap.size + 1 + 1, o, none⟩ = false := (fun o => (World.frozen?_of_block (a := ⟨w.heap.size + 1 + 1, o, none⟩) (hb5.block _ hyy)).trans (((bcell hb4).2 _ o y0).trans (yf o))); have hbl5 : Below W0.heap.size wr w5 := hbl4.trans hb5; have HS5 := Lib.hid (keepE HSE.out (show w.heap.size < W0.heap.size by omega) (show bb < W0.heap.size by omega) hbl5))
        (try go_wp2_with fail)
        refine hK.out _ _ ?_ (fun hHeld => ?_)
        · try dsimp only
          first | exact HSE.out | exact keepP HS5.out (show w.heap.size ≠ w.heap.size + 1 + 1 by omega) (show bb ≠ w.heap.size + 1 + 1 by omega) (fun q hq => Below.heap_setCell _ _ _ _ (by dsimp only; omega)) | exact keepE HSE.out (show w.heap.size < W0.heap.size by omega) (show bb < W0.heap.size by omega) (by go_grown)
        clear hK K
        try simp only [Act.put, List.setIfInBounds_toArray, List.set_cons_zero, List.set_cons_succ]
        refine wpAnyH_ready (rs := [9]) (by kernel_rfl) (by simp) ?_
        refine AllReadyH.cons (o := { dst := some 56, op := Go.Op.buildSlice 27 1 #[(0, Go.Operand.tmp 55)], type := 27, pos := "l4_forms.go:43", after := #[{ on := 8, ground := Go.Ground.data }], guard := none }) rfl (fun K hK => ?_) AllReadyH.nil
        go_simp
        refine hK.out _ _ ?_ (fun hHeld => ?_)
        · try dsimp only
          first | exact HSE.out | exact keepP HS5.out (show w.heap.size ≠ w.heap.size + 1 + 1 by omega) (show bb ≠ w.heap.size + 1 + 1 by omega) (fun q hq => Below.heap_setCell _ _ _ _ (by dsimp only; omega)) | exact keepE HSE.out (show w.heap.size < W0.heap.size by omega) (show bb < W0.heap.size by omega) (by go_grown)
        clear hK K
        try simp only [Act.put, List.setIfInBounds_toArray, List.set_cons_zero, List.set_cons_succ]
        refine wpAnyH_ready (rs := [10]) (by kernel_rfl) (by simp) ?_
        refine AllReadyH.cons (o := { dst := some 57, op := Go.Op.call { callee := Go.Callee.builtin Go.Builtin.append, args := #[Go.Operand.tmp 48, Go.Operand.tmp 56], argTypes := #[27, 27] }, type := 27, pos := "l4_forms.go:43", after := #[{ on := 1, ground := Go.Ground.data }, { on := 9, ground := Go.Ground.data }, { on := 8, ground := Go.Ground.chain }], guard := none }) rfl (fun K hK => ?_) AllReadyH.nil
        rw [if_pos (by rfl)]
        (refine oper_append _ _ _ rfl rfl rfl hr5 ?_)
        refine hK.out _ _ ?_ (fun hHeld => ?_)
        · try dsimp only
          first | exact HSE.out | exact keepP HS5.out (show w.heap.size ≠ w.heap.size + 1 + 1 by omega) (show bb ≠ w.heap.size + 1 + 1 by omega) (fun q hq => Below.heap_setCell _ _ _ _ (by dsimp only; omega)) | exact keepE HSE.out (show w.heap.size < W0.heap.size by omega) (show bb < W0.heap.size by omega) (by go_grown)
        clear hK K
        try simp only [Act.put, List.setIfInBounds_toArray, List.set_cons_zero, List.set_cons_succ]
        refine wpAnyH_take (i := 11) (oi := { dst := some 58, op := Go.Op.fieldAddr 29 (Go.Operand.tmp 5) 3, type := 0, pos := "l4_forms.go:43", after := #[{ on := 0, ground := Go.Ground.phase }, { on := 1, ground := Go.Ground.phase }, { on := 2, ground := Go.Ground.phase }, { on := 3, ground := Go.Ground.phase }, { on := 4, ground := Go.Ground.phase }, { on := 5, ground := Go.Ground.phase }, { on := 6, ground := Go.Ground.phase }, { on := 7, ground := Go.Ground.phase }, { on := 8, ground := Go.Ground.phase }, { on := 9, ground := Go.Ground.phase }, { on := 10, ground := Go.Ground.phase }], guard := none }) (v := ?_) rfl (by kernel_rfl) (by kernel_rfl) (by kernel_rfl) (fun _ _ _ h => h) (Or.inl ⟨by rfl, ?_⟩) (by assumption) ?_
        rotate_left
        · (intro w hSw; (try dsimp only at hSw); first | (go_simp; done) | (go_simp; with_reducible rfl))
        try simp only [Act.put, List.setIfInBounds_toArray, List.set_cons_zero, List.set_cons_succ]
        refine wpAnyH_ready (rs := [12]) (by kernel_rfl) (by simp) ?_
        refine AllReadyH.cons (o := { dst := none, op := Go.Op.store 27 (Go.Operand.tmp 58) (Go.Operand.tmp 57), type := 0, pos := "l4_forms.go:43", after := #[{ on := 11, ground := Go.Ground.data }, { on := 10, ground := Go.Ground.data }, { on := 10, ground := Go.Ground.chain }, { on := 0, ground := Go.Ground.phase }, { on := 1, ground := Go.Ground.phase }, { on := 2, ground := Go.Ground.phase }, { on := 3, ground := Go.Ground.phase }, { on := 4, ground := Go.Ground.phase }, { on := 5, ground := Go.Ground.phase }, { on := 6, ground := Go.Ground.phase }, { on := 7, ground := Go.Ground.phase }, { on := 8, ground := Go.Ground.phase }, { on := 9, ground := Go.Ground.phase }, { on := 10, ground := Go.Ground.phase }], guard := none }) rfl (fun K hK => ?_) AllReadyH.nil
        go_simp
        refine hK.out _ _ ?_ (fun hHeld => ?_)
        · try dsimp only
          first | exact HSE.out | exact keepP HS5.out (show w.heap.size ≠ w.heap.size + 1 + 1 by omega) (show bb ≠ w.heap.size + 1 + 1 by omega) (fun q hq => Below.heap_setCell _ _ _ _ (by dsimp only; omega)) | exact keepE HSE.out (show w.heap.size < W0.heap.size by omega) (show bb < W0.heap.size by omega) (by go_grown)
        clear hK K
        try simp only [Act.put, List.setIfInBounds_toArray, List.set_cons_zero, List.set_cons_succ]
        refine wpAnyH_done (by kernel_rfl) ?_ _
        have hst5 := mlst_low (mlst_below HST.out (w' := w4) (below_on (Below.drew (Below.refl _ _)) hb4)) hb5
        generalize hW6 : World.setCell _ _ _ = W6
        obtain ⟨hst6, hk6, hs6⟩ := mlst_put hst5 hW6
        have how6 := fown_put ho5 (by omega) (by omega) hk6 hs6
        have HN6 : Hid (LnR true f (.slice (some ⟨bb, o, none⟩) f.len sc) bb o lo w W0 ⟨1, 0, 0, 0, 0, 0, 0, 0, u⟩ ⟨0, 0, 0, 0, 0, 0, 0, 0, u⟩ (.int .i64 ((k + 1 : Nat) : Int)) W6) := ⟨k + 1, pre0.app (.cons h' s' .nil), r', _, rfl, by rw [Fo.app_len, HPL.out]; rfl, by rw [Fo.app_assoc]; exact HAP.out, hrok.2, by rw [show o + (k + 1) * 10 = o + k * 10 + 10 by omega]; exact HR.out, hst6, by rw [ng_snoc]; exact how6⟩
        clear hW6 hst5 hst6 hk6 hs6 how6 ho5 hr5 hs4 HS4 hf5 he9 hd9 hb4 hb5 x0 c0 c1 c2 c3 c4 c5 c6 c7 c8 c9 y0 e0 e1 e2 e3 e4 e5 e6 e7 e8 e9 yf z0 d0 d1 d2 d3 d4 d5 d6 d7 d8 d9 zf hbl4 hbl5 HS5 HSE hbw
        go_wp2
        go_roundw
        case rel =>
          have e : ((k + 1 : Nat) : Int) = (k : Int) + 1 := by omega
          have h9 := HN6.out
          rw [e] at h9
          exact h9
        case measure => simp [intOf]; omega
      ·
        go_simp
        (go_at_call 89; refine HC.out.mono ?_; rintro e w4 ⟨s4, rfl, hs4, hb4⟩; have HS4 := Lib.hid hs4; obtain ⟨ga, gn, gc, rfl⟩ := hs4.slice; have hs44 : wr.heap.size ≤ w4.heap.size := hb4.size; have hlt4 : w.heap.size + 1 + 1 < w4.heap.size := (by omega); have hbl4 : Below W0.heap.size wr w4 := Below.mono (below_on (Below.drew (Below.refl _ _)) hb4) hsW; have hd9 : w4.cell? ⟨w.heap.size + 1 + 1, 9, none⟩ = some (.slice va k vc) := ((bcell hb4).1 _ 9 y0).trans e9; obtain ⟨v5, w5, hr5, ho5, hb5⟩ := fown_app (wa := wr.drew) (w4 := w4) (ngF true h' s').1 (ngF true h' s').2 ga gn gc (fown_below HOW.out (Below.drew (Below.refl _ _))) (by rw [HLV.out]; exact hlen1) (by omega) hb4 (FSP.kept (Nat.le_refl _) (fun _ _ _ => rfl) (fun q hq => ⟨Nat.le_trans hsW hq.1, .inr hq.1, hq.2⟩) (FSP.of HS4.out)); obtain ⟨a5, c5x, rfl⟩ := fown_slice ho5; rw [HLV.out] at hr5; have he9 : w5.cell? ⟨w.heap.size + 1 + 1, 9, none⟩ = some (.slice va k vc) := (World.cell?_of_block (a := ⟨w.heap.size + 1 + 1, 9, none⟩) (hb5.block _ hyy)).trans hd9; have hf5 : ∀ o, w5.frozen? ⟨w.heap.size + 1 + 1, o, none⟩ = false := (fun o => (World.frozen?_of_block (a := ⟨w.heap.size + 1 + 1, o, none⟩) (hb5.block _ hyy)).trans (((bcell hb4).2 _ o y0).trans (yf o))); have hbl5 : Below W0.heap.size wr w5 := hbl4.trans hb5; have HS5 := Lib.hid (keepE HSE.out (show w.heap.size < W0.heap.size by omega) (show bb < W0.heap.size by omega) hbl5))
        (try go_wp2_with fail)
        refine hK.out _ _ ?_ (fun hHeld => ?_)
        · try dsimp only
          first | exact HSE.out | exact keepP HS5.out (show w.heap.size ≠ w.heap.size + 1 + 1 by omega) (show bb ≠ w.heap.size + 1 + 1 by omega) (fun q hq => Below.heap_setCell _ _ _ _ (by dsimp only; omega)) | exact keepE HSE.out (show w.heap.size < W0.heap.size by omega) (show bb < W0.heap.size by omega) (by go_grown)
        clear hK K
        try simp only [Act.put, List.setIfInBounds_toArray, List.set_cons_zero, List.set_cons_succ]
        refine wpAnyH_ready (rs := [1, 9]) (by kernel_rfl) (by simp) ?_
        refine AllReadyH.cons (o := { dst := some 48, op := Go.Op.load 27 (Go.Operand.tmp 47), type := 27, pos := "l4_forms.go:43", after := #[{ on := 0, ground := Go.Ground.data }], guard := none }) rfl (fun K hK => ?_) (AllReadyH.cons (o := { dst := some 56, op := Go.Op.buildSlice 27 1 #[(0, Go.Operand.tmp 55)], type := 27, pos := "l4_forms.go:43", after := #[{ on := 8, ground := Go.Ground.data }], guard := none }) rfl (fun K hK => ?_) AllReadyH.nil)
        ·
          go_simp
          refine hK.out _ _ ?_ (fun hHeld => ?_)
          · try dsimp only
            first | exact HSE.out | exact keepP HS5.out (show w.heap.size ≠ w.heap.size + 1 + 1 by omega) (show bb ≠ w.heap.size + 1 + 1 by omega) (fun q hq => Below.heap_setCell _ _ _ _ (by dsimp only; omega)) | exact keepE HSE.out (show w.heap.size < W0.heap.size by omega) (show bb < W0.heap.size by omega) (by go_grown)
          clear hK K
          try simp only [Act.put, List.setIfInBounds_toArray, List.set_cons_zero, List.set_cons_succ]
          refine wpAnyH_ready (rs := [9]) (by kernel_rfl) (by simp) ?_
          refine AllReadyH.cons (o := { dst := some 56, op := Go.Op.buildSlice 27 1 #[(0, Go.Operand.tmp 55)], type := 27, pos := "l4_forms.go:43", after := #[{ on := 8, ground := Go.Ground.data }], guard := none }) rfl (fun K hK => ?_) AllReadyH.nil
          go_simp
          refine hK.out _ _ ?_ (fun hHeld => ?_)
          · try dsimp only
            first | exact HSE.out | exact keepP HS5.out (show w.heap.size ≠ w.heap.size + 1 + 1 by omega) (show bb ≠ w.heap.size + 1 + 1 by omega) (fun q hq => Below.heap_setCell _ _ _ _ (by dsimp only; omega)) | exact keepE HSE.out (show w.heap.size < W0.heap.size by omega) (show bb < W0.heap.size by omega) (by go_grown)
          clear hK K
          try simp only [Act.put, List.setIfInBounds_toArray, List.set_cons_zero, List.set_cons_succ]
          refine wpAnyH_ready (rs := [10]) (by kernel_rfl) (by simp) ?_
          refine AllReadyH.cons (o := { dst := some 57, op := Go.Op.call { callee := Go.Callee.builtin Go.Builtin.append, args := #[Go.Operand.tmp 48, Go.Operand.tmp 56], argTypes := #[27, 27] }, type := 27, pos := "l4_forms.go:43", after := #[{ on := 1, ground := Go.Ground.data }, { on := 9, ground := Go.Ground.data }, { on := 8, ground := Go.Ground.chain }], guard := none }) rfl (fun K hK => ?_) AllReadyH.nil
          rw [if_pos (by rfl)]
          (refine oper_append _ _ _ rfl rfl rfl hr5 ?_)
          refine hK.out _ _ ?_ (fun hHeld => ?_)
          · try dsimp only
            first | exact HSE.out | exact keepP HS5.out (show w.heap.size ≠ w.heap.size + 1 + 1 by omega) (show bb ≠ w.heap.size + 1 + 1 by omega) (fun q hq => Below.heap_setCell _ _ _ _ (by dsimp only; omega)) | exact keepE HSE.out (show w.heap.size < W0.heap.size by omega) (show bb < W0.heap.size by omega) (by go_grown)
          clear hK K
          try simp only [Act.put, List.setIfInBounds_toArray, List.set_cons_zero, List.set_cons_succ]
          refine wpAnyH_take (i := 11) (oi := { dst := some 58, op := Go.Op.fieldAddr 29 (Go.Operand.tmp 5) 3, type := 0, pos := "l4_forms.go:43", after := #[{ on := 0, ground := Go.Ground.phase }, { on := 1, ground := Go.Ground.phase }, { on := 2, ground := Go.Ground.phase }, { on := 3, ground := Go.Ground.phase }, { on := 4, ground := Go.Ground.phase }, { on := 5, ground := Go.Ground.phase }, { on := 6, ground := Go.Ground.phase }, { on := 7, ground := Go.Ground.phase }, { on := 8, ground := Go.Ground.phase }, { on := 9, ground := Go.Ground.phase }, { on := 10, ground := Go.Ground.phase }], guard := none }) (v := ?_) rfl (by kernel_rfl) (by kernel_rfl) (by kernel_rfl) (fun _ _ _ h => h) (Or.inl ⟨by rfl, ?_⟩) (by assumption) ?_
          rotate_left
          · (intro w hSw; (try dsimp only at hSw); first | (go_simp; done) | (go_simp; with_reducible rfl))
          try simp only [Act.put, List.setIfInBounds_toArray, List.set_cons_zero, List.set_cons_succ]
          refine wpAnyH_ready (rs := [12]) (by kernel_rfl) (by simp) ?_
          refine AllReadyH.cons (o := { dst := none, op := Go.Op.store 27 (Go.Operand.tmp 58) (Go.Operand.tmp 57), type := 0, pos := "l4_forms.go:43", after := #[{ on := 11, ground := Go.Ground.data }, { on := 10, ground := Go.Ground.data }, { on := 10, ground := Go.Ground.chain }, { on := 0, ground := Go.Ground.phase }, { on := 1, ground := Go.Ground.phase }, { on := 2, ground := Go.Ground.phase }, { on := 3, ground := Go.Ground.phase }, { on := 4, ground := Go.Ground.phase }, { on := 5, ground := Go.Ground.phase }, { on := 6, ground := Go.Ground.phase }, { on := 7, ground := Go.Ground.phase }, { on := 8, ground := Go.Ground.phase }, { on := 9, ground := Go.Ground.phase }, { on := 10, ground := Go.Ground.phase }], guard := none }) rfl (fun K hK => ?_) AllReadyH.nil
          go_simp
          refine hK.out _ _ ?_ (fun hHeld => ?_)
          · try dsimp only
            first | exact HSE.out | exact keepP HS5.out (show w.heap.size ≠ w.heap.size + 1 + 1 by omega) (show bb ≠ w.heap.size + 1 + 1 by omega) (fun q hq => Below.heap_setCell _ _ _ _ (by dsimp only; omega)) | exact keepE HSE.out (show w.heap.size < W0.heap.size by omega) (show bb < W0.heap.size by omega) (by go_grown)
          clear hK K
          try simp only [Act.put, List.setIfInBounds_toArray, List.set_cons_zero, List.set_cons_succ]
          refine wpAnyH_done (by kernel_rfl) ?_ _
          have hst5 := mlst_low (mlst_below HST.out (w' := w4) (below_on (Below.drew (Below.refl _ _)) hb4)) hb5
          generalize hW6 : World.setCell _ _ _ = W6
          obtain ⟨hst6, hk6, hs6⟩ := mlst_put hst5 hW6
          have how6 := fown_put ho5 (by omega) (by omega) hk6 hs6
          have HN6 : Hid (LnR true f (.slice (some ⟨bb, o, none⟩) f.len sc) bb o lo w W0 ⟨1, 0, 0, 0, 0, 0, 0, 0, u⟩ ⟨0, 0, 0, 0, 0, 0, 0, 0, u⟩ (.int .i64 ((k + 1 : Nat) : Int)) W6) := ⟨k + 1, pre0.app (.cons h' s' .nil), r', _, rfl, by rw [Fo.app_len, HPL.out]; rfl, by rw [Fo.app_assoc]; exact HAP.out, hrok.2, by rw [show o + (k + 1) * 10 = o + k * 10 + 10 by omega]; exact HR.out, hst6, by rw [ng_snoc]; exact how6⟩
          clear hW6 hst5 hst6 hk6 hs6 how6 ho5 hr5 hs4 HS4 hf5 he9 hd9 hb4 hb5 x0 c0 c1 c2 c3 c4 c5 c6 c7 c8 c9 y0 e0 e1 e2 e3 e4 e5 e6 e7 e8 e9 yf z0 d0 d1 d2 d3 d4 d5 d6 d7 d8 d9 zf hbl4 hbl5 HS5 HSE hbw
          go_wp2
          go_roundw
          case rel =>
            have e : ((k + 1 : Nat) : Int) = (k : Int) + 1 := by omega
            have h9 := HN6.out
            rw [e] at h9
            exact h9
          case measure => simp [intOf]; omega
        ·
          go_simp
          refine hK.out _ _ ?_ (fun hHeld => ?_)
          · try dsimp only
            first | exact HSE.out | exact keepP HS5.out (show w.heap.size ≠ w.heap.size + 1 + 1 by omega) (show bb ≠ w.heap.size + 1 + 1 by omega) (fun q hq => Below.heap_setCell _ _ _ _ (by dsimp only; omega)) | exact keepE HSE.out (show w.heap.size < W0.heap.size by omega) (show bb < W0.heap.size by omega) (by go_grown)
          clear hK K
          try simp only [Act.put, List.setIfInBounds_toArray, List.set_cons_zero, List.set_cons_succ]
          refine wpAnyH_ready (rs := [1]) (by kernel_rfl) (by simp) ?_
          refine AllReadyH.cons (o := { dst := some 48, op := Go.Op.load 27 (Go.Operand.tmp 47), type := 27, pos := "l4_forms.go:43", after := #[{ on := 0, ground := Go.Ground.data }], guard := none }) rfl (fun K hK => ?_) AllReadyH.nil
          go_simp
          refine hK.out _ _ ?_ (fun hHeld => ?_)
          · try dsimp only
            first | exact HSE.out | exact keepP HS5.out (show w.heap.size ≠ w.heap.size + 1 + 1 by omega) (show bb ≠ w.heap.size + 1 + 1 by omega) (fun q hq => Below.heap_setCell _ _ _ _ (by dsimp only; omega)) | exact keepE HSE.out (show w.heap.size < W0.heap.size by omega) (show bb < W0.heap.size by omega) (by go_grown)
          clear hK K
          try simp only [Act.put, List.setIfInBounds_toArray, List.set_cons_zero, List.set_cons_succ]
          refine wpAnyH_ready (rs := [10]) (by kernel_rfl) (by simp) ?_
          refine AllReadyH.cons (o := { dst := some 57, op := Go.Op.call { callee := Go.Callee.builtin Go.Builtin.append, args := #[Go.Operand.tmp 48, Go.Operand.tmp 56], argTypes := #[27, 27] }, type := 27, pos := "l4_forms.go:43", after := #[{ on := 1, ground := Go.Ground.data }, { on := 9, ground := Go.Ground.data }, { on := 8, ground := Go.Ground.chain }], guard := none }) rfl (fun K hK => ?_) AllReadyH.nil
          rw [if_pos (by rfl)]
          (refine oper_append _ _ _ rfl rfl rfl hr5 ?_)
          refine hK.out _ _ ?_ (fun hHeld => ?_)
          · try dsimp only
            first | exact HSE.out | exact keepP HS5.out (show w.heap.size ≠ w.heap.size + 1 + 1 by omega) (show bb ≠ w.heap.size + 1 + 1 by omega) (fun q hq => Below.heap_setCell _ _ _ _ (by dsimp only; omega)) | exact keepE HSE.out (show w.heap.size < W0.heap.size by omega) (show bb < W0.heap.size by omega) (by go_grown)
          clear hK K
          try simp only [Act.put, List.setIfInBounds_toArray, List.set_cons_zero, List.set_cons_succ]
          refine wpAnyH_take (i := 11) (oi := { dst := some 58, op := Go.Op.fieldAddr 29 (Go.Operand.tmp 5) 3, type := 0, pos := "l4_forms.go:43", after := #[{ on := 0, ground := Go.Ground.phase }, { on := 1, ground := Go.Ground.phase }, { on := 2, ground := Go.Ground.phase }, { on := 3, ground := Go.Ground.phase }, { on := 4, ground := Go.Ground.phase }, { on := 5, ground := Go.Ground.phase }, { on := 6, ground := Go.Ground.phase }, { on := 7, ground := Go.Ground.phase }, { on := 8, ground := Go.Ground.phase }, { on := 9, ground := Go.Ground.phase }, { on := 10, ground := Go.Ground.phase }], guard := none }) (v := ?_) rfl (by kernel_rfl) (by kernel_rfl) (by kernel_rfl) (fun _ _ _ h => h) (Or.inl ⟨by rfl, ?_⟩) (by assumption) ?_
          rotate_left
          · (intro w hSw; (try dsimp only at hSw); first | (go_simp; done) | (go_simp; with_reducible rfl))
          try simp only [Act.put, List.setIfInBounds_toArray, List.set_cons_zero, List.set_cons_succ]
          refine wpAnyH_ready (rs := [12]) (by kernel_rfl) (by simp) ?_
          refine AllReadyH.cons (o := { dst := none, op := Go.Op.store 27 (Go.Operand.tmp 58) (Go.Operand.tmp 57), type := 0, pos := "l4_forms.go:43", after := #[{ on := 11, ground := Go.Ground.data }, { on := 10, ground := Go.Ground.data }, { on := 10, ground := Go.Ground.chain }, { on := 0, ground := Go.Ground.phase }, { on := 1, ground := Go.Ground.phase }, { on := 2, ground := Go.Ground.phase }, { on := 3, ground := Go.Ground.phase }, { on := 4, ground := Go.Ground.phase }, { on := 5, ground := Go.Ground.phase }, { on := 6, ground := Go.Ground.phase }, { on := 7, ground := Go.Ground.phase }, { on := 8, ground := Go.Ground.phase }, { on := 9, ground := Go.Ground.phase }, { on := 10, ground := Go.Ground.phase }], guard := none }) rfl (fun K hK => ?_) AllReadyH.nil
          go_simp
          refine hK.out _ _ ?_ (fun hHeld => ?_)
          · try dsimp only
            first | exact HSE.out | exact keepP HS5.out (show w.heap.size ≠ w.heap.size + 1 + 1 by omega) (show bb ≠ w.heap.size + 1 + 1 by omega) (fun q hq => Below.heap_setCell _ _ _ _ (by dsimp only; omega)) | exact keepE HSE.out (show w.heap.size < W0.heap.size by omega) (show bb < W0.heap.size by omega) (by go_grown)
          clear hK K
          try simp only [Act.put, List.setIfInBounds_toArray, List.set_cons_zero, List.set_cons_succ]
          refine wpAnyH_done (by kernel_rfl) ?_ _
          have hst5 := mlst_low (mlst_below HST.out (w' := w4) (below_on (Below.drew (Below.refl _ _)) hb4)) hb5
          generalize hW6 : World.setCell _ _ _ = W6
          obtain ⟨hst6, hk6, hs6⟩ := mlst_put hst5 hW6
          have how6 := fown_put ho5 (by omega) (by omega) hk6 hs6
          have HN6 : Hid (LnR true f (.slice (some ⟨bb, o, none⟩) f.len sc) bb o lo w W0 ⟨1, 0, 0, 0, 0, 0, 0, 0, u⟩ ⟨0, 0, 0, 0, 0, 0, 0, 0, u⟩ (.int .i64 ((k + 1 : Nat) : Int)) W6) := ⟨k + 1, pre0.app (.cons h' s' .nil), r', _, rfl, by rw [Fo.app_len, HPL.out]; rfl, by rw [Fo.app_assoc]; exact HAP.out, hrok.2, by rw [show o + (k + 1) * 10 = o + k * 10 + 10 by omega]; exact HR.out, hst6, by rw [ng_snoc]; exact how6⟩
          clear hW6 hst5 hst6 hk6 hs6 how6 ho5 hr5 hs4 HS4 hf5 he9 hd9 hb4 hb5 x0 c0 c1 c2 c3 c4 c5 c6 c7 c8 c9 y0 e0 e1 e2 e3 e4 e5 e6 e7 e8 e9 yf z0 d0 d1 d2 d3 d4 d5 d6 d7 d8 d9 zf hbl4 hbl5 HS5 HSE hbw
          go_wp2
          go_roundw
          case rel =>
            have e : ((k + 1 : Nat) : Int) = (k : Int) + 1 := by omega
            have h9 := HN6.out
            rw [e] at h9
            exact h9
          case measure => simp [intOf]; omega

set_option maxRecDepth 10000 in
set_option maxHeartbeats 4000000 in
/-- The negation of a formula of the kind 4. -/
theorem ln_op4 (h : FH) (f : Fo) (HF : ∀ h s, s.size < f.size → ∀ b, LnF b h s) (hk : h.k = 4) : LnF true h f := by
  intro ho hok w lo s hs
  have h3 : h.k ≠ 3 := by omega
  have h2 : h.k ≠ 2 := by omega
  have H := Lib.hid HF
  have hq := ngF_else (b := true) (f := f) h3 (.inr h2)
  obtain ⟨sa, sc, rfl⟩ := fs_len0 hs
  obtain ⟨bb, o, hel, hsh⟩ := fs_shape hs
  have HEL := Lib.hid hel
  have HSH := Lib.hid hsh
  have hlen := Fo.len_le f
  have hf6 : f.len ≤ 2 := by rcases own_kind ho with ⟨h, _⟩ | ⟨h, _⟩ | ⟨h, _⟩ <;> omega
  obtain ⟨z1, z2, z3, z4, z5, z6, z7⟩ := own_zero ho h2
  obtain ⟨kk, ak, am, a, bq, c, d, n, u⟩ := h
  dsimp only at z1 z2 z3 z4 z5 z6 z7 hq
  dsimp only at hk
  subst hk z1 z2 z3 z4 z5 z6 z7
  have HOK := Lib.hid hok
  clear HF hs hel hsh ho hok h2 h3
  have HQ := Lib.hid hq
  clear hq
  go_enter Try.func89, Try.ntmps89
  go_upto_region 10 with fail
  generalize hW0 : World.alloc _ _ = W0
  have hst : MlSt w W0 w.heap.size (w.heap.size + 1 + 1) (w.heap.size + 1) ⟨4, 0, 0, 0, 0, 0, 0, 0, u⟩ ⟨5, 0, 0, 0, 0, 0, 0, 0, u⟩ (.slice sa f.len sc) (.slice none 0 0) W0 := by
    have hz : w.heap.size + 1 + 1 < W0.heap.size := by subst hW0; simp only [World.size_alloc]; omega
    refine ⟨?_, ?_, ?_, ?_, ?_, ?_, Nat.le_refl _, by omega, by omega, by omega, by omega, by omega, by omega, by omega, by omega, by omega⟩
    · subst hW0; exact (by refine ⟨?_, ?_, ?_, ?_, ?_, ?_, ?_, ?_, ?_, ?_, ?_⟩ <;> first | (simp [go_sem]; done) | (simp; omega))
    · subst hW0; exact (by refine ⟨?_, ?_, ?_, ?_, ?_, ?_, ?_, ?_, ?_, ?_, ?_⟩ <;> first | (simp [go_sem]; done) | (simp; omega))
    · intro o; subst hW0; simp [go_sem]
    · subst hW0; exact (by refine ⟨?_, ?_, ?_, ?_, ?_, ?_, ?_, ?_, ?_, ?_, ?_⟩ <;> first | (simp [go_sem]; done) | (simp; omega))
    · intro o; subst hW0; simp [go_sem]
    · subst hW0; go_grown
  have HST := Lib.hid (show LnR true f (.slice sa f.len sc) bb o lo w W0 ⟨4, 0, 0, 0, 0, 0, 0, 0, u⟩ ⟨5, 0, 0, 0, 0, 0, 0, 0, u⟩ (.int .i64 0) W0 from ⟨0, .nil, f, _, rfl, rfl, rfl, HOK.out, HEL.out, hst, fown_nil _ _ _⟩)
  clear hW0 hst
  go_wp2_with fail
  go_loopw [6] (fun i wr => LnR true f (.slice sa f.len sc) bb o lo w W0 ⟨4, 0, 0, 0, 0, 0, 0, 0, u⟩ ⟨5, 0, 0, 0, 0, 0, 0, 0, u⟩ i wr) (fun i _ => f.len - (intOf i).toNat)
  case atStart => exact HST.out
  case round =>
    obtain ⟨k, pre0, r, v, rfl, hpl, hap, hrok, hr, hst, how⟩ := hrel
    clear HST
    have HAP := Lib.hid hap
    have HPL := Lib.hid hpl
    have HST := Lib.hid hst
    have HOW := Lib.hid how
    have hkf : k + r.len = f.len := by rw [← hap, Fo.app_len, hpl]
    have hszr : r.size ≤ f.size := by rw [← hap, size_app]; omega
    obtain ⟨va, vc, hv⟩ := fown_slice how
    subst hv
    have hlv : (pre0.ng true).len = k := by rw [ng_len, hpl]
    obtain ⟨⟨x0, c0, c1, c2, c3, c4, c5, c6, c7, c8, c9⟩, ⟨y0, e0, e1, e2, e3, e4, e5, e6, e7, e8, e9⟩, yf, ⟨z0, d0, d1, d2, d3, d4, d5, d6, d7, d8, d9⟩, zf, hbw, hsW, _⟩ := id hst
    rw [hlv] at e9
    have HLV := Lib.hid hlv
    have hzz : w.heap.size + 1 < W0.heap.size := HST.out.2.2.2.2.2.2.2.2.2.2.2.2.1
    have hyy : w.heap.size + 1 + 1 < W0.heap.size := HST.out.2.2.2.2.2.2.2.2.2.2.2.1
    clear hap hpl hst how hlv
    cases r with
    | nil =>
      simp only [Fo.len] at hkf
      have hkl : ¬ (k : Int) < (f.len : Int) := by omega
      have e : pre0 = f := by have := HAP.out; rwa [Fo.app_nil] at this
      subst e
      obtain rfl : k = pre0.len := by omega
      go_wp2_with fail
      generalize hW7 : World.setCell _ _ _ = W7
      have hblk7 : ∀ x, x ≠ w.heap.size + 1 → W7.heap[x]? = wr.heap[x]? := fun x hx => by subst hW7; repeat rw [Below.heap_setCell _ _ _ _ (by dsimp only; omega)]
      have hsz7 : W7.heap.size = wr.heap.size := by subst hW7; simp [World.setCell]
      obtain ⟨hx7, hb7⟩ := put10b (g := ⟨5, 0, 0, 0, 0, 0, 0, 0, u⟩) HST.out.2.2.2.1 hW7
      have hww7 := hbw.trans (hb7 w.heap.size (by omega))
      have HS7 := Lib.hid (FS.mono (lo' := w.heap.size) (by omega) (fown_fs (fown_put HOW.out (by omega) (by omega) hblk7 hsz7) (Nat.le_refl _)))
      obtain ⟨q0, k0, k1, k2, k3, k4, k5, k6, k7, k8, k9⟩ := hx7
      rw [HLV.out] at HS7
      (try simp only [Exit.inBlock, Exit.then])
      refine bodyPost_ret (v := .agg #[.int .i64 5, .int .i64 0, .int .i64 0, .int .i64 0, .int .i64 0, .int .i64 0, .int .i64 0, .int .i64 0, .int .i64 u, .slice va pre0.len vc]) ?_ rfl ⟨_, by rw [HQ.out]; rfl, by rw [HQ.out]; exact HS7.out, hww7⟩
      rw [results_cell1 rfl]
      go_simp
    | cons h' s' r' =>
      simp only [Fo.len] at hkf
      simp only [Fo.size] at hszr
      simp only [Fo.okB, Bool.and_eq_true] at hrok
      have hkl : (k : Int) < (f.len : Int) := by omega
      have hk0 : (0 : Int) ≤ k := by omega
      obtain ⟨rfl, hcc2, hcc1, hlo, hbb⟩ := HSH.out (by omega)
      have hcc2' := hcc2
      unfold maxLen at hcc2'
      have HR := Lib.hid hr.2
      obtain ⟨⟨sl, hrow, hsl⟩, _⟩ := FEl.below hbw (Nat.le_refl _) hlo hbb hr
      obtain ⟨la, ln, lc, rfl⟩ : ∃ a n c, sl = .slice a n c := FS.slice (w := wr) (lo := lo) (f := s') hsl
      have HC := Lib.hid (H.out h' s' (by omega) true hrok.1.1 hrok.1.2 wr.drew lo _ (FS.below (w := wr) (Below.drew (Below.refl _ _)) (Nat.le_refl _) hsl))
      have HSE := Lib.hid (show wr.cell? ⟨w.heap.size, 9, none⟩ = some (.slice (some ⟨bb, o, none⟩) f.len sc) ∧ FRow wr bb (o + k * 10) h' (.slice la ln lc) from ⟨c9, hrow⟩)
      clear hrow
      have hlen1 : k ≤ 1048576 := by omega
      clear hsl hr
      go_wp2_with fail
      refine wp_region_held_drew (S := (fun w' => w'.cell? ⟨w.heap.size, 9, none⟩ = some (.slice (some ⟨bb, o, none⟩) f.len sc) ∧ w'.cell? ⟨bb, o + k * 10, none⟩ = some (.int .i64 h'.k) ∧ w'.cell? ⟨bb, o + k * 10 + 1, none⟩ = some (.int .i64 h'.ak) ∧ w'.cell? ⟨bb, o + k * 10 + 2, none⟩ = some (.int .i64 h'.am) ∧ w'.cell? ⟨bb, o + k * 10 + 3, none⟩ = some (.int .i64 h'.a) ∧ w'.cell? ⟨bb, o + k * 10 + 4, none⟩ = some (.int .i64 h'.b) ∧ w'.cell? ⟨bb, o + k * 10 + 5, none⟩ = some (.int .i64 h'.c) ∧ w'.cell? ⟨bb, o + k * 10 + 6, none⟩ = some (.int .i64 h'.d) ∧ w'.cell? ⟨bb, o + k * 10 + 7, none⟩ = some (.int .i64 h'.n) ∧ w'.cell? ⟨bb, o + k * 10 + 8, none⟩ = some (.int .i64 h'.v) ∧ w'.cell? ⟨bb, o + k * 10 + 9, none⟩ = some (.slice la ln lc))) (by kernel_rfl) ?_ (fun hHeld => ?_)
      · try dsimp only
        first | exact HSE.out | exact keepP HS5.out (show w.heap.size ≠ w.heap.size + 1 + 1 by omega) (show bb ≠ w.heap.size + 1 + 1 by omega) (fun q hq => Below.heap_setCell _ _ _ _ (by dsimp only; omega)) | exact keepE HSE.out (show w.heap.size < W0.heap.size by omega) (show bb < W0.heap.size by omega) (by go_grown)
      refine wpAnyH_take (i := 0) (oi := { dst := some 47, op := Go.Op.fieldAddr 29 (Go.Operand.tmp 5) 3, type := 0, pos := "l4_forms.go:43", after := #[], guard := none }) (v := ?_) rfl (by kernel_rfl) (by kernel_rfl) (by kernel_rfl) (fun _ _ _ h => h) (Or.inl ⟨by rfl, ?_⟩) (by assumption) ?_
      rotate_left
      · (intro w hSw; (try dsimp only at hSw); first | (go_simp; done) | (go_simp; with_reducible rfl))
      try simp only [Act.put, List.setIfInBounds_toArray, List.set_cons_zero, List.set_cons_succ]
      refine wpAnyH_take (i := 2) (oi := { dst := some 49, op := Go.Op.fieldAddr 29 (Go.Operand.tmp 2) 3, type := 0, pos := "l4_forms.go:43", after := #[], guard := none }) (v := ?_) rfl (by kernel_rfl) (by kernel_rfl) (by kernel_rfl) (fun _ _ _ h => h) (Or.inl ⟨by rfl, ?_⟩) (by assumption) ?_
      rotate_left
      · (intro w hSw; (try dsimp only at hSw); first | (go_simp; done) | (go_simp; with_reducible rfl))
      try simp only [Act.put, List.setIfInBounds_toArray, List.set_cons_zero, List.set_cons_succ]
      refine wpAnyH_take (i := 3) (oi := { dst := some 50, op := Go.Op.load 27 (Go.Operand.tmp 49), type := 27, pos := "l4_forms.go:43", after := #[{ on := 2, ground := Go.Ground.data }], guard := none }) (v := ?_) rfl (by kernel_rfl) (by kernel_rfl) (by kernel_rfl) (fun _ _ _ h => h) (Or.inl ⟨by rfl, ?_⟩) (by assumption) ?_
      rotate_left
      · (intro w hSw; (try dsimp only at hSw); first | (go_simp; done) | (go_simp; with_reducible rfl))
      try simp only [Act.put, List.setIfInBounds_toArray, List.set_cons_zero, List.set_cons_succ]
      refine wpAnyH_take (i := 4) (oi := { dst := some 51, op := Go.Op.move (Go.Operand.tmp 6), type := 3, pos := "l4_forms.go:43", after := #[], guard := none }) (v := ?_) rfl (by kernel_rfl) (by kernel_rfl) (by kernel_rfl) (fun _ _ _ h => h) (Or.inl ⟨by rfl, ?_⟩) (by assumption) ?_
      rotate_left
      · (intro w hSw; (try dsimp only at hSw); first | (go_simp; done) | (go_simp; with_reducible rfl))
      try simp only [Act.put, List.setIfInBounds_toArray, List.set_cons_zero, List.set_cons_succ]
      refine wpAnyH_take (i := 5) (oi := { dst := some 52, op := Go.Op.indexAddr 27 (Go.Operand.tmp 50) (Go.Operand.tmp 51), type := 0, pos := "l4_forms.go:43", after := #[{ on := 3, ground := Go.Ground.data }, { on := 4, ground := Go.Ground.data }], guard := none }) (v := ?_) rfl (by kernel_rfl) (by kernel_rfl) (by kernel_rfl) (fun _ _ _ h => h) (Or.inl ⟨by rfl, ?_⟩) (by assumption) ?_
      rotate_left
      · (intro w hSw; (try dsimp only at hSw); first | (go_simp; done) | (go_simp; with_reducible rfl))
      try simp only [Act.put, List.setIfInBounds_toArray, List.set_cons_zero, List.set_cons_succ]
      refine wpAnyH_take (i := 6) (oi := { dst := some 53, op := Go.Op.load 29 (Go.Operand.tmp 52), type := 29, pos := "l4_forms.go:43", after := #[{ on := 5, ground := Go.Ground.data }], guard := none }) (v := ?_) rfl (by kernel_rfl) (by kernel_rfl) (by kernel_rfl) (fun _ _ _ h => h) (Or.inl ⟨by rfl, ?_⟩) (by assumption) ?_
      rotate_left
      · (intro w hSw; (try dsimp only at hSw); first | (go_simp; done) | (go_simp; with_reducible rfl))
      try simp only [Act.put, List.setIfInBounds_toArray, List.set_cons_zero, List.set_cons_succ]
      refine wpAnyH_take (i := 7) (oi := { dst := some 54, op := Go.Op.move (Go.Operand.tmp 1), type := 4, pos := "l4_forms.go:43", after := #[], guard := none }) (v := ?_) rfl (by kernel_rfl) (by kernel_rfl) (by kernel_rfl) (fun _ _ _ h => h) (Or.inl ⟨by rfl, ?_⟩) (by assumption) ?_
      rotate_left
      · (intro w hSw; (try dsimp only at hSw); first | (go_simp; done) | (go_simp; with_reducible rfl))
      try simp only [Act.put, List.setIfInBounds_toArray, List.set_cons_zero, List.set_cons_succ]
      refine wpAnyH_ready (rs := [1, 8]) (by kernel_rfl) (by simp) ?_
      refine AllReadyH.cons (o := { dst := some 48, op := Go.Op.load 27 (Go.Operand.tmp 47), type := 27, pos := "l4_forms.go:43", after := #[{ on := 0, ground := Go.Ground.data }], guard := none }) rfl (fun K hK => ?_) (AllReadyH.cons (o := { dst := some 55, op := Go.Op.call { callee := Go.Callee.value (Go.Operand.func 89), args := #[Go.Operand.tmp 53, Go.Operand.tmp 54], argTypes := #[29, 4] }, type := 29, pos := "l4_forms.go:43", after := #[{ on := 6, ground := Go.Ground.data }, { on := 7, ground := Go.Ground.data }], guard := none }) rfl (fun K hK => ?_) AllReadyH.nil)
      ·
        go_simp
        refine hK.out _ _ ?_ (fun hHeld => ?_)
        · try dsimp only
          first | exact HSE.out | exact keepP HS5.out (show w.heap.size ≠ w.heap.size + 1 + 1 by omega) (show bb ≠ w.heap.size + 1 + 1 by omega) (fun q hq => Below.heap_setCell _ _ _ _ (by dsimp only; omega)) | exact keepE HSE.out (show w.heap.size < W0.heap.size by omega) (show bb < W0.heap.size by omega) (by go_grown)
        clear hK K
        try simp only [Act.put, List.setIfInBounds_toArray, List.set_cons_zero, List.set_cons_succ]
        refine wpAnyH_ready (rs := [8]) (by kernel_rfl) (by simp) ?_
        refine AllReadyH.cons (o := { dst := some 55, op := Go.Op.call { callee := Go.Callee.value (Go.Operand.func 89), args := #[Go.Operand.tmp 53, Go.Operand.tmp 54], argTypes := #[29, 4] }, type := 29, pos := "l4_forms.go:43", after := #[{ on := 6, ground := Go.Ground.data }, { on := 7, ground := Go.Ground.data }], guard := none }) rfl (fun K hK => ?_) AllReadyH.nil
        go_simp
        (go_at_call 89; refine HC.out.mono ?_; rintro e w4 ⟨s4, rfl, hs4, hb4⟩; have HS4 := Lib.hid hs4; obtain ⟨ga, gn, gc, rfl⟩ := hs4.slice; have hs44 : wr.heap.size ≤ w4.heap.size := hb4.size; have hlt4 : w.heap.size + 1 + 1 < w4.heap.size := (by omega); have hbl4 : Below W0.heap.size wr w4 := Below.mono (below_on (Below.drew (Below.refl _ _)) hb4) hsW; have hd9 : w4.cell? ⟨w.heap.size + 1 + 1, 9, none⟩ = some (.slice va k vc) := ((bcell hb4).1 _ 9 y0).trans e9; obtain ⟨v5, w5, hr5, ho5, hb5⟩ := fown_app (wa := wr.drew) (w4 := w4) (ngF true h' s').1 (ngF true h' s').2 ga gn gc (fown_below HOW.out (Below.drew (Below.refl _ _))) (by rw [HLV.out]; exact hlen1) (by omega) hb4 (FSP.kept (Nat.le_refl _) (fun _ _ _ => rfl) (fun q hq => ⟨Nat.le_trans hsW hq.1, .inr hq.1, hq.2⟩) (FSP.of HS4.out)); obtain ⟨a5, c5x, rfl⟩ := fown_slice ho5; rw [HLV.out] at hr5; have he9 : w5.cell? ⟨w.heap.size + 1 + 1, 9, none⟩ = some (.slice va k vc) := (World.cell?_of_block (a := ⟨w.heap.size + 1 + 1, 9, none⟩) (hb5.block _ hyy)).trans hd9; have hf5 : ∀ o, w5.frozen? ⟨w.heap.size + 1 + 1, o, none⟩ = false := (fun o => (World.frozen?_of_block (a := ⟨w.heap.size + 1 + 1, o, none⟩) (hb5.block _ hyy)).trans (((bcell hb4).2 _ o y0).trans (yf o))); have hbl5 : Below W0.heap.size wr w5 := hbl4.trans hb5; have HS5 := Lib.hid (keepE HSE.out (show w.heap.size < W0.heap.size by omega) (show bb < W0.heap.size by omega) hbl5))
        (try go_wp2_with fail)
        refine hK.out _ _ ?_ (fun hHeld => ?_)
        · try dsimp only
          first | exact HSE.out | exact keepP HS5.out (show w.heap.size ≠ w.heap.size + 1 + 1 by omega) (show bb ≠ w.heap.size + 1 + 1 by omega) (fun q hq => Below.heap_setCell _ _ _ _ (by dsimp only; omega)) | exact keepE HSE.out (show w.heap.size < W0.heap.size by omega) (show bb < W0.heap.size by omega) (by go_grown)
        clear hK K
        try simp only [Act.put, List.setIfInBounds_toArray, List.set_cons_zero, List.set_cons_succ]
        refine wpAnyH_ready (rs := [9]) (by kernel_rfl) (by simp) ?_
        refine AllReadyH.cons (o := { dst := some 56, op := Go.Op.buildSlice 27 1 #[(0, Go.Operand.tmp 55)], type := 27, pos := "l4_forms.go:43", after := #[{ on := 8, ground := Go.Ground.data }], guard := none }) rfl (fun K hK => ?_) AllReadyH.nil
        go_simp
        refine hK.out _ _ ?_ (fun hHeld => ?_)
        · try dsimp only
          first | exact HSE.out | exact keepP HS5.out (show w.heap.size ≠ w.heap.size + 1 + 1 by omega) (show bb ≠ w.heap.size + 1 + 1 by omega) (fun q hq => Below.heap_setCell _ _ _ _ (by dsimp only; omega)) | exact keepE HSE.out (show w.heap.size < W0.heap.size by omega) (show bb < W0.heap.size by omega) (by go_grown)
        clear hK K
        try simp only [Act.put, List.setIfInBounds_toArray, List.set_cons_zero, List.set_cons_succ]
        refine wpAnyH_ready (rs := [10]) (by kernel_rfl) (by simp) ?_
        refine AllReadyH.cons (o := { dst := some 57, op := Go.Op.call { callee := Go.Callee.builtin Go.Builtin.append, args := #[Go.Operand.tmp 48, Go.Operand.tmp 56], argTypes := #[27, 27] }, type := 27, pos := "l4_forms.go:43", after := #[{ on := 1, ground := Go.Ground.data }, { on := 9, ground := Go.Ground.data }, { on := 8, ground := Go.Ground.chain }], guard := none }) rfl (fun K hK => ?_) AllReadyH.nil
        rw [if_pos (by rfl)]
        (refine oper_append _ _ _ rfl rfl rfl hr5 ?_)
        refine hK.out _ _ ?_ (fun hHeld => ?_)
        · try dsimp only
          first | exact HSE.out | exact keepP HS5.out (show w.heap.size ≠ w.heap.size + 1 + 1 by omega) (show bb ≠ w.heap.size + 1 + 1 by omega) (fun q hq => Below.heap_setCell _ _ _ _ (by dsimp only; omega)) | exact keepE HSE.out (show w.heap.size < W0.heap.size by omega) (show bb < W0.heap.size by omega) (by go_grown)
        clear hK K
        try simp only [Act.put, List.setIfInBounds_toArray, List.set_cons_zero, List.set_cons_succ]
        refine wpAnyH_take (i := 11) (oi := { dst := some 58, op := Go.Op.fieldAddr 29 (Go.Operand.tmp 5) 3, type := 0, pos := "l4_forms.go:43", after := #[{ on := 0, ground := Go.Ground.phase }, { on := 1, ground := Go.Ground.phase }, { on := 2, ground := Go.Ground.phase }, { on := 3, ground := Go.Ground.phase }, { on := 4, ground := Go.Ground.phase }, { on := 5, ground := Go.Ground.phase }, { on := 6, ground := Go.Ground.phase }, { on := 7, ground := Go.Ground.phase }, { on := 8, ground := Go.Ground.phase }, { on := 9, ground := Go.Ground.phase }, { on := 10, ground := Go.Ground.phase }], guard := none }) (v := ?_) rfl (by kernel_rfl) (by kernel_rfl) (by kernel_rfl) (fun _ _ _ h => h) (Or.inl ⟨by rfl, ?_⟩) (by assumption) ?_
        rotate_left
        · (intro w hSw; (try dsimp only at hSw); first | (go_simp; done) | (go_simp; with_reducible rfl))
        try simp only [Act.put, List.setIfInBounds_toArray, List.set_cons_zero, List.set_cons_succ]
        refine wpAnyH_ready (rs := [12]) (by kernel_rfl) (by simp) ?_
        refine AllReadyH.cons (o := { dst := none, op := Go.Op.store 27 (Go.Operand.tmp 58) (Go.Operand.tmp 57), type := 0, pos := "l4_forms.go:43", after := #[{ on := 11, ground := Go.Ground.data }, { on := 10, ground := Go.Ground.data }, { on := 10, ground := Go.Ground.chain }, { on := 0, ground := Go.Ground.phase }, { on := 1, ground := Go.Ground.phase }, { on := 2, ground := Go.Ground.phase }, { on := 3, ground := Go.Ground.phase }, { on := 4, ground := Go.Ground.phase }, { on := 5, ground := Go.Ground.phase }, { on := 6, ground := Go.Ground.phase }, { on := 7, ground := Go.Ground.phase }, { on := 8, ground := Go.Ground.phase }, { on := 9, ground := Go.Ground.phase }, { on := 10, ground := Go.Ground.phase }], guard := none }) rfl (fun K hK => ?_) AllReadyH.nil
        go_simp
        refine hK.out _ _ ?_ (fun hHeld => ?_)
        · try dsimp only
          first | exact HSE.out | exact keepP HS5.out (show w.heap.size ≠ w.heap.size + 1 + 1 by omega) (show bb ≠ w.heap.size + 1 + 1 by omega) (fun q hq => Below.heap_setCell _ _ _ _ (by dsimp only; omega)) | exact keepE HSE.out (show w.heap.size < W0.heap.size by omega) (show bb < W0.heap.size by omega) (by go_grown)
        clear hK K
        try simp only [Act.put, List.setIfInBounds_toArray, List.set_cons_zero, List.set_cons_succ]
        refine wpAnyH_done (by kernel_rfl) ?_ _
        have hst5 := mlst_low (mlst_below HST.out (w' := w4) (below_on (Below.drew (Below.refl _ _)) hb4)) hb5
        generalize hW6 : World.setCell _ _ _ = W6
        obtain ⟨hst6, hk6, hs6⟩ := mlst_put hst5 hW6
        have how6 := fown_put ho5 (by omega) (by omega) hk6 hs6
        have HN6 : Hid (LnR true f (.slice (some ⟨bb, o, none⟩) f.len sc) bb o lo w W0 ⟨4, 0, 0, 0, 0, 0, 0, 0, u⟩ ⟨5, 0, 0, 0, 0, 0, 0, 0, u⟩ (.int .i64 ((k + 1 : Nat) : Int)) W6) := ⟨k + 1, pre0.app (.cons h' s' .nil), r', _, rfl, by rw [Fo.app_len, HPL.out]; rfl, by rw [Fo.app_assoc]; exact HAP.out, hrok.2, by rw [show o + (k + 1) * 10 = o + k * 10 + 10 by omega]; exact HR.out, hst6, by rw [ng_snoc]; exact how6⟩
        clear hW6 hst5 hst6 hk6 hs6 how6 ho5 hr5 hs4 HS4 hf5 he9 hd9 hb4 hb5 x0 c0 c1 c2 c3 c4 c5 c6 c7 c8 c9 y0 e0 e1 e2 e3 e4 e5 e6 e7 e8 e9 yf z0 d0 d1 d2 d3 d4 d5 d6 d7 d8 d9 zf hbl4 hbl5 HS5 HSE hbw
        go_wp2
        go_roundw
        case rel =>
          have e : ((k + 1 : Nat) : Int) = (k : Int) + 1 := by omega
          have h9 := HN6.out
          rw [e] at h9
          exact h9
        case measure => simp [intOf]; omega
      ·
        go_simp
        (go_at_call 89; refine HC.out.mono ?_; rintro e w4 ⟨s4, rfl, hs4, hb4⟩; have HS4 := Lib.hid hs4; obtain ⟨ga, gn, gc, rfl⟩ := hs4.slice; have hs44 : wr.heap.size ≤ w4.heap.size := hb4.size; have hlt4 : w.heap.size + 1 + 1 < w4.heap.size := (by omega); have hbl4 : Below W0.heap.size wr w4 := Below.mono (below_on (Below.drew (Below.refl _ _)) hb4) hsW; have hd9 : w4.cell? ⟨w.heap.size + 1 + 1, 9, none⟩ = some (.slice va k vc) := ((bcell hb4).1 _ 9 y0).trans e9; obtain ⟨v5, w5, hr5, ho5, hb5⟩ := fown_app (wa := wr.drew) (w4 := w4) (ngF true h' s').1 (ngF true h' s').2 ga gn gc (fown_below HOW.out (Below.drew (Below.refl _ _))) (by rw [HLV.out]; exact hlen1) (by omega) hb4 (FSP.kept (Nat.le_refl _) (fun _ _ _ => rfl) (fun q hq => ⟨Nat.le_trans hsW hq.1, .inr hq.1, hq.2⟩) (FSP.of HS4.out)); obtain ⟨a5, c5x, rfl⟩ := fown_slice ho5; rw [HLV.out] at hr5; have he9 : w5.cell? ⟨w.heap.size + 1 + 1, 9, none⟩ = some (.slice va k vc) := (World.cell?_of_block (a := ⟨w.heap.size + 1 + 1, 9, none⟩) (hb5.block _ hyy)).trans hd9; have hf5 : ∀ o, w5.frozen? ⟨w.heap.size + 1 + 1, o, none⟩ = false := (fun o => (World.frozen?_of_block (a := ⟨w.heap.size + 1 + 1, o, none⟩) (hb5.block _ hyy)).trans (((bcell hb4).2 _ o y0).trans (yf o))); have hbl5 : Below W0.heap.size wr w5 := hbl4.trans hb5; have HS5 := Lib.hid (keepE HSE.out (show w.heap.size < W0.heap.size by omega) (show bb < W0.heap.size by omega) hbl5))
        (try go_wp2_with fail)
        refine hK.out _ _ ?_ (fun hHeld => ?_)
        · try dsimp only
          first | exact HSE.out | exact keepP HS5.out (show w.heap.size ≠ w.heap.size + 1 + 1 by omega) (show bb ≠ w.heap.size + 1 + 1 by omega) (fun q hq => Below.heap_setCell _ _ _ _ (by dsimp only; omega)) | exact keepE HSE.out (show w.heap.size < W0.heap.size by omega) (show bb < W0.heap.size by omega) (by go_grown)
        clear hK K
        try simp only [Act.put, List.setIfInBounds_toArray, List.set_cons_zero, List.set_cons_succ]
        refine wpAnyH_ready (rs := [1, 9]) (by kernel_rfl) (by simp) ?_
        refine AllReadyH.cons (o := { dst := some 48, op := Go.Op.load 27 (Go.Operand.tmp 47), type := 27, pos := "l4_forms.go:43", after := #[{ on := 0, ground := Go.Ground.data }], guard := none }) rfl (fun K hK => ?_) (AllReadyH.cons (o := { dst := some 56, op := Go.Op.buildSlice 27 1 #[(0, Go.Operand.tmp 55)], type := 27, pos := "l4_forms.go:43", after := #[{ on := 8, ground := Go.Ground.data }], guard := none }) rfl (fun K hK => ?_) AllReadyH.nil)
        ·
          go_simp
          refine hK.out _ _ ?_ (fun hHeld => ?_)
          · try dsimp only
            first | exact HSE.out | exact keepP HS5.out (show w.heap.size ≠ w.heap.size + 1 + 1 by omega) (show bb ≠ w.heap.size + 1 + 1 by omega) (fun q hq => Below.heap_setCell _ _ _ _ (by dsimp only; omega)) | exact keepE HSE.out (show w.heap.size < W0.heap.size by omega) (show bb < W0.heap.size by omega) (by go_grown)
          clear hK K
          try simp only [Act.put, List.setIfInBounds_toArray, List.set_cons_zero, List.set_cons_succ]
          refine wpAnyH_ready (rs := [9]) (by kernel_rfl) (by simp) ?_
          refine AllReadyH.cons (o := { dst := some 56, op := Go.Op.buildSlice 27 1 #[(0, Go.Operand.tmp 55)], type := 27, pos := "l4_forms.go:43", after := #[{ on := 8, ground := Go.Ground.data }], guard := none }) rfl (fun K hK => ?_) AllReadyH.nil
          go_simp
          refine hK.out _ _ ?_ (fun hHeld => ?_)
          · try dsimp only
            first | exact HSE.out | exact keepP HS5.out (show w.heap.size ≠ w.heap.size + 1 + 1 by omega) (show bb ≠ w.heap.size + 1 + 1 by omega) (fun q hq => Below.heap_setCell _ _ _ _ (by dsimp only; omega)) | exact keepE HSE.out (show w.heap.size < W0.heap.size by omega) (show bb < W0.heap.size by omega) (by go_grown)
          clear hK K
          try simp only [Act.put, List.setIfInBounds_toArray, List.set_cons_zero, List.set_cons_succ]
          refine wpAnyH_ready (rs := [10]) (by kernel_rfl) (by simp) ?_
          refine AllReadyH.cons (o := { dst := some 57, op := Go.Op.call { callee := Go.Callee.builtin Go.Builtin.append, args := #[Go.Operand.tmp 48, Go.Operand.tmp 56], argTypes := #[27, 27] }, type := 27, pos := "l4_forms.go:43", after := #[{ on := 1, ground := Go.Ground.data }, { on := 9, ground := Go.Ground.data }, { on := 8, ground := Go.Ground.chain }], guard := none }) rfl (fun K hK => ?_) AllReadyH.nil
          rw [if_pos (by rfl)]
          (refine oper_append _ _ _ rfl rfl rfl hr5 ?_)
          refine hK.out _ _ ?_ (fun hHeld => ?_)
          · try dsimp only
            first | exact HSE.out | exact keepP HS5.out (show w.heap.size ≠ w.heap.size + 1 + 1 by omega) (show bb ≠ w.heap.size + 1 + 1 by omega) (fun q hq => Below.heap_setCell _ _ _ _ (by dsimp only; omega)) | exact keepE HSE.out (show w.heap.size < W0.heap.size by omega) (show bb < W0.heap.size by omega) (by go_grown)
          clear hK K
          try simp only [Act.put, List.setIfInBounds_toArray, List.set_cons_zero, List.set_cons_succ]
          refine wpAnyH_take (i := 11) (oi := { dst := some 58, op := Go.Op.fieldAddr 29 (Go.Operand.tmp 5) 3, type := 0, pos := "l4_forms.go:43", after := #[{ on := 0, ground := Go.Ground.phase }, { on := 1, ground := Go.Ground.phase }, { on := 2, ground := Go.Ground.phase }, { on := 3, ground := Go.Ground.phase }, { on := 4, ground := Go.Ground.phase }, { on := 5, ground := Go.Ground.phase }, { on := 6, ground := Go.Ground.phase }, { on := 7, ground := Go.Ground.phase }, { on := 8, ground := Go.Ground.phase }, { on := 9, ground := Go.Ground.phase }, { on := 10, ground := Go.Ground.phase }], guard := none }) (v := ?_) rfl (by kernel_rfl) (by kernel_rfl) (by kernel_rfl) (fun _ _ _ h => h) (Or.inl ⟨by rfl, ?_⟩) (by assumption) ?_
          rotate_left
          · (intro w hSw; (try dsimp only at hSw); first | (go_simp; done) | (go_simp; with_reducible rfl))
          try simp only [Act.put, List.setIfInBounds_toArray, List.set_cons_zero, List.set_cons_succ]
          refine wpAnyH_ready (rs := [12]) (by kernel_rfl) (by simp) ?_
          refine AllReadyH.cons (o := { dst := none, op := Go.Op.store 27 (Go.Operand.tmp 58) (Go.Operand.tmp 57), type := 0, pos := "l4_forms.go:43", after := #[{ on := 11, ground := Go.Ground.data }, { on := 10, ground := Go.Ground.data }, { on := 10, ground := Go.Ground.chain }, { on := 0, ground := Go.Ground.phase }, { on := 1, ground := Go.Ground.phase }, { on := 2, ground := Go.Ground.phase }, { on := 3, ground := Go.Ground.phase }, { on := 4, ground := Go.Ground.phase }, { on := 5, ground := Go.Ground.phase }, { on := 6, ground := Go.Ground.phase }, { on := 7, ground := Go.Ground.phase }, { on := 8, ground := Go.Ground.phase }, { on := 9, ground := Go.Ground.phase }, { on := 10, ground := Go.Ground.phase }], guard := none }) rfl (fun K hK => ?_) AllReadyH.nil
          go_simp
          refine hK.out _ _ ?_ (fun hHeld => ?_)
          · try dsimp only
            first | exact HSE.out | exact keepP HS5.out (show w.heap.size ≠ w.heap.size + 1 + 1 by omega) (show bb ≠ w.heap.size + 1 + 1 by omega) (fun q hq => Below.heap_setCell _ _ _ _ (by dsimp only; omega)) | exact keepE HSE.out (show w.heap.size < W0.heap.size by omega) (show bb < W0.heap.size by omega) (by go_grown)
          clear hK K
          try simp only [Act.put, List.setIfInBounds_toArray, List.set_cons_zero, List.set_cons_succ]
          refine wpAnyH_done (by kernel_rfl) ?_ _
          have hst5 := mlst_low (mlst_below HST.out (w' := w4) (below_on (Below.drew (Below.refl _ _)) hb4)) hb5
          generalize hW6 : World.setCell _ _ _ = W6
          obtain ⟨hst6, hk6, hs6⟩ := mlst_put hst5 hW6
          have how6 := fown_put ho5 (by omega) (by omega) hk6 hs6
          have HN6 : Hid (LnR true f (.slice (some ⟨bb, o, none⟩) f.len sc) bb o lo w W0 ⟨4, 0, 0, 0, 0, 0, 0, 0, u⟩ ⟨5, 0, 0, 0, 0, 0, 0, 0, u⟩ (.int .i64 ((k + 1 : Nat) : Int)) W6) := ⟨k + 1, pre0.app (.cons h' s' .nil), r', _, rfl, by rw [Fo.app_len, HPL.out]; rfl, by rw [Fo.app_assoc]; exact HAP.out, hrok.2, by rw [show o + (k + 1) * 10 = o + k * 10 + 10 by omega]; exact HR.out, hst6, by rw [ng_snoc]; exact how6⟩
          clear hW6 hst5 hst6 hk6 hs6 how6 ho5 hr5 hs4 HS4 hf5 he9 hd9 hb4 hb5 x0 c0 c1 c2 c3 c4 c5 c6 c7 c8 c9 y0 e0 e1 e2 e3 e4 e5 e6 e7 e8 e9 yf z0 d0 d1 d2 d3 d4 d5 d6 d7 d8 d9 zf hbl4 hbl5 HS5 HSE hbw
          go_wp2
          go_roundw
          case rel =>
            have e : ((k + 1 : Nat) : Int) = (k : Int) + 1 := by omega
            have h9 := HN6.out
            rw [e] at h9
            exact h9
          case measure => simp [intOf]; omega
        ·
          go_simp
          refine hK.out _ _ ?_ (fun hHeld => ?_)
          · try dsimp only
            first | exact HSE.out | exact keepP HS5.out (show w.heap.size ≠ w.heap.size + 1 + 1 by omega) (show bb ≠ w.heap.size + 1 + 1 by omega) (fun q hq => Below.heap_setCell _ _ _ _ (by dsimp only; omega)) | exact keepE HSE.out (show w.heap.size < W0.heap.size by omega) (show bb < W0.heap.size by omega) (by go_grown)
          clear hK K
          try simp only [Act.put, List.setIfInBounds_toArray, List.set_cons_zero, List.set_cons_succ]
          refine wpAnyH_ready (rs := [1]) (by kernel_rfl) (by simp) ?_
          refine AllReadyH.cons (o := { dst := some 48, op := Go.Op.load 27 (Go.Operand.tmp 47), type := 27, pos := "l4_forms.go:43", after := #[{ on := 0, ground := Go.Ground.data }], guard := none }) rfl (fun K hK => ?_) AllReadyH.nil
          go_simp
          refine hK.out _ _ ?_ (fun hHeld => ?_)
          · try dsimp only
            first | exact HSE.out | exact keepP HS5.out (show w.heap.size ≠ w.heap.size + 1 + 1 by omega) (show bb ≠ w.heap.size + 1 + 1 by omega) (fun q hq => Below.heap_setCell _ _ _ _ (by dsimp only; omega)) | exact keepE HSE.out (show w.heap.size < W0.heap.size by omega) (show bb < W0.heap.size by omega) (by go_grown)
          clear hK K
          try simp only [Act.put, List.setIfInBounds_toArray, List.set_cons_zero, List.set_cons_succ]
          refine wpAnyH_ready (rs := [10]) (by kernel_rfl) (by simp) ?_
          refine AllReadyH.cons (o := { dst := some 57, op := Go.Op.call { callee := Go.Callee.builtin Go.Builtin.append, args := #[Go.Operand.tmp 48, Go.Operand.tmp 56], argTypes := #[27, 27] }, type := 27, pos := "l4_forms.go:43", after := #[{ on := 1, ground := Go.Ground.data }, { on := 9, ground := Go.Ground.data }, { on := 8, ground := Go.Ground.chain }], guard := none }) rfl (fun K hK => ?_) AllReadyH.nil
          rw [if_pos (by rfl)]
          (refine oper_append _ _ _ rfl rfl rfl hr5 ?_)
          refine hK.out _ _ ?_ (fun hHeld => ?_)
          · try dsimp only
            first | exact HSE.out | exact keepP HS5.out (show w.heap.size ≠ w.heap.size + 1 + 1 by omega) (show bb ≠ w.heap.size + 1 + 1 by omega) (fun q hq => Below.heap_setCell _ _ _ _ (by dsimp only; omega)) | exact keepE HSE.out (show w.heap.size < W0.heap.size by omega) (show bb < W0.heap.size by omega) (by go_grown)
          clear hK K
          try simp only [Act.put, List.setIfInBounds_toArray, List.set_cons_zero, List.set_cons_succ]
          refine wpAnyH_take (i := 11) (oi := { dst := some 58, op := Go.Op.fieldAddr 29 (Go.Operand.tmp 5) 3, type := 0, pos := "l4_forms.go:43", after := #[{ on := 0, ground := Go.Ground.phase }, { on := 1, ground := Go.Ground.phase }, { on := 2, ground := Go.Ground.phase }, { on := 3, ground := Go.Ground.phase }, { on := 4, ground := Go.Ground.phase }, { on := 5, ground := Go.Ground.phase }, { on := 6, ground := Go.Ground.phase }, { on := 7, ground := Go.Ground.phase }, { on := 8, ground := Go.Ground.phase }, { on := 9, ground := Go.Ground.phase }, { on := 10, ground := Go.Ground.phase }], guard := none }) (v := ?_) rfl (by kernel_rfl) (by kernel_rfl) (by kernel_rfl) (fun _ _ _ h => h) (Or.inl ⟨by rfl, ?_⟩) (by assumption) ?_
          rotate_left
          · (intro w hSw; (try dsimp only at hSw); first | (go_simp; done) | (go_simp; with_reducible rfl))
          try simp only [Act.put, List.setIfInBounds_toArray, List.set_cons_zero, List.set_cons_succ]
          refine wpAnyH_ready (rs := [12]) (by kernel_rfl) (by simp) ?_
          refine AllReadyH.cons (o := { dst := none, op := Go.Op.store 27 (Go.Operand.tmp 58) (Go.Operand.tmp 57), type := 0, pos := "l4_forms.go:43", after := #[{ on := 11, ground := Go.Ground.data }, { on := 10, ground := Go.Ground.data }, { on := 10, ground := Go.Ground.chain }, { on := 0, ground := Go.Ground.phase }, { on := 1, ground := Go.Ground.phase }, { on := 2, ground := Go.Ground.phase }, { on := 3, ground := Go.Ground.phase }, { on := 4, ground := Go.Ground.phase }, { on := 5, ground := Go.Ground.phase }, { on := 6, ground := Go.Ground.phase }, { on := 7, ground := Go.Ground.phase }, { on := 8, ground := Go.Ground.phase }, { on := 9, ground := Go.Ground.phase }, { on := 10, ground := Go.Ground.phase }], guard := none }) rfl (fun K hK => ?_) AllReadyH.nil
          go_simp
          refine hK.out _ _ ?_ (fun hHeld => ?_)
          · try dsimp only
            first | exact HSE.out | exact keepP HS5.out (show w.heap.size ≠ w.heap.size + 1 + 1 by omega) (show bb ≠ w.heap.size + 1 + 1 by omega) (fun q hq => Below.heap_setCell _ _ _ _ (by dsimp only; omega)) | exact keepE HSE.out (show w.heap.size < W0.heap.size by omega) (show bb < W0.heap.size by omega) (by go_grown)
          clear hK K
          try simp only [Act.put, List.setIfInBounds_toArray, List.set_cons_zero, List.set_cons_succ]
          refine wpAnyH_done (by kernel_rfl) ?_ _
          have hst5 := mlst_low (mlst_below HST.out (w' := w4) (below_on (Below.drew (Below.refl _ _)) hb4)) hb5
          generalize hW6 : World.setCell _ _ _ = W6
          obtain ⟨hst6, hk6, hs6⟩ := mlst_put hst5 hW6
          have how6 := fown_put ho5 (by omega) (by omega) hk6 hs6
          have HN6 : Hid (LnR true f (.slice (some ⟨bb, o, none⟩) f.len sc) bb o lo w W0 ⟨4, 0, 0, 0, 0, 0, 0, 0, u⟩ ⟨5, 0, 0, 0, 0, 0, 0, 0, u⟩ (.int .i64 ((k + 1 : Nat) : Int)) W6) := ⟨k + 1, pre0.app (.cons h' s' .nil), r', _, rfl, by rw [Fo.app_len, HPL.out]; rfl, by rw [Fo.app_assoc]; exact HAP.out, hrok.2, by rw [show o + (k + 1) * 10 = o + k * 10 + 10 by omega]; exact HR.out, hst6, by rw [ng_snoc]; exact how6⟩
          clear hW6 hst5 hst6 hk6 hs6 how6 ho5 hr5 hs4 HS4 hf5 he9 hd9 hb4 hb5 x0 c0 c1 c2 c3 c4 c5 c6 c7 c8 c9 y0 e0 e1 e2 e3 e4 e5 e6 e7 e8 e9 yf z0 d0 d1 d2 d3 d4 d5 d6 d7 d8 d9 zf hbl4 hbl5 HS5 HSE hbw
          go_wp2
          go_roundw
          case rel =>
            have e : ((k + 1 : Nat) : Int) = (k : Int) + 1 := by omega
            have h9 := HN6.out
            rw [e] at h9
            exact h9
          case measure => simp [intOf]; omega

end Go.Proofs.Ytfiddndgidfgoaa
