/- Several texts in one: NfP NfQ NfR NfS. -/
import Derived.Test.YtahilpccnabbgaaNm
import Derived.Test.YtahilpccnabbgaaNl
import Derived.Test.YtahilpccnabbgaaFm
import Derived.Deep.RegionHeld3

/- Formulas whose equations are split: as data, and the contract of the program's SplitFormula. -/
namespace Go.Proofs.Ytahilpccnabbgaa
open Go.RowKit

/-- A node whose parts are split already: an equation becomes a pair. -/
def spE (h : FH) (t : Fo) : FH × Fo := if h.k = 2 ∧ h.ak = 1 then jA true (atFo (szL h.a h.b h.c h.d h.n)) else (h, t)
def Fo.sp : Fo → Fo
  | .nil => .nil
  | .cons h s r => .cons (spE h s.sp).1 (spE h s.sp).2 r.sp
def spF (h : FH) (f : Fo) : FH × Fo := spE h f.sp

theorem sp_len : ∀ f : Fo, f.sp.len = f.len := by
  intro f
  induction f with
  | nil => rfl
  | cons h s r _ ih => simp only [Fo.sp, Fo.len, ih]
theorem sp_snoc (h : FH) (s : Fo) : ∀ f : Fo, (f.app (.cons h s .nil)).sp = f.sp.app (.cons (spF h s).1 (spF h s).2 .nil) := by
  intro f
  induction f with
  | nil => rfl
  | cons h' s' r _ ih => simp only [Fo.app, Fo.sp, ih]
theorem spF_eq {h : FH} {f : Fo} (h2 : h.k = 2) (h1 : h.ak = 1) : spF h f = jA true (atFo (szL h.a h.b h.c h.d h.n)) := by
  unfold spF spE
  rw [if_pos ⟨h2, h1⟩]
theorem spF_else {h : FH} {f : Fo} (hn : ¬ (h.k = 2 ∧ h.ak = 1)) : spF h f = (h, f.sp) := by
  unfold spF spE
  rw [if_neg hn]
theorem own_tv {h : FH} {n : Nat} (ho : ownB h n = true) (h2 : h.k = 2) : avB h.ak h.am h.a h.b h.c h.d h.n = true := by
  unfold ownB atB at ho
  rw [if_pos h2] at ho
  simp only [Bool.and_eq_true] at ho
  exact ho.1.1
theorem sp_ok1 {h : FH} {f : Fo} (ho : ownB h f.len = true) (hok : f.sp.okB = true) : ownB (spF h f).1 (spF h f).2.len = true ∧ (spF h f).2.okB = true := by
  by_cases hn : h.k = 2 ∧ h.ak = 1
  · rw [spF_eq hn.1 hn.2]
    have hav := own_tv ho hn.1
    have h1 := szL_ok (avB_cases hav).2
    have h2 : (atFo (szL h.a h.b h.c h.d h.n)).okB = true := by rw [atFo_ok]; exact h1
    have h3 := jA_ok true h2
    exact ⟨h3.1, h3.2.1⟩
  · rw [spF_else hn]
    exact ⟨by rw [sp_len]; exact ho, hok⟩
theorem sp_ok : ∀ f : Fo, f.okB = true → f.sp.okB = true := by
  intro f
  induction f with
  | nil => intro _; rfl
  | cons h s r ihs ihr =>
    intro hok
    simp only [Fo.okB, Bool.and_eq_true] at hok
    have h1 := sp_ok1 hok.1.1 (ihs hok.1.2)
    simp only [Fo.sp, Fo.okB, Bool.and_eq_true]
    exact ⟨⟨h1.1, h1.2⟩, ihr hok.2⟩
theorem spE_size (h : FH) (t : Fo) : (spE h t).2.size ≤ t.size + 2 := by
  unfold spE
  split
  · have : (jA true (atFo (szL h.a h.b h.c h.d h.n))).2.size ≤ 2 := by simp [szL, jA, jF, atFo, Fo.size]
    omega
  · exact Nat.le_add_right _ _
theorem sp_size : ∀ f : Fo, f.sp.size ≤ 3 * f.size := by
  intro f
  induction f with
  | nil => exact Nat.le_refl _
  | cons h s r ihs ihr =>
    simp only [Fo.sp, Fo.size]
    have := spE_size h s.sp
    omega
theorem spF_size (h : FH) (f : Fo) : (spF h f).2.size ≤ 3 * f.size + 2 := by
  have h1 := spE_size h f.sp
  have h2 := sp_size f
  have e : spF h f = spE h f.sp := rfl
  rw [e]
  omega

def SpV (xb ob : Nat) : Value := .func (.func 75) #[] #[.pointer (some ⟨xb, 0, none⟩), .pointer (some ⟨ob, 0, none⟩)]
/-- The closure lies in its box, and the change of one node in its own. -/
def SpI (xb ob : Nat) (w : World) : Prop := xb < w.heap.size ∧ ob < w.heap.size ∧ w.cell? ⟨xb, 0, none⟩ = some (SpV xb ob) ∧ w.cell? ⟨ob, 0, none⟩ = some (.func (.func 47) #[] #[])
theorem spI_stays (xb ob : Nat) : Stays (SpI xb ob) := by
  rintro W W' ⟨h1, h2, h3, h4⟩ hb
  have hs := hb.size
  exact ⟨by omega, by omega, ((bcell hb).1 _ 0 h1).trans h3, ((bcell hb).1 _ 0 h2).trans h4⟩
theorem en_parts : EnT 75 := fun _ _ => by kernel_rfl

theorem pf_any (w : World) : Calls Try.prog 46 #[.func (.func 47) #[] #[]] w fun e w' => ∃ xb ob, e = .returned (SpV xb ob) ∧ SpI xb ob w' ∧ Below w.heap.size w w' := by
  go_enter Try.func46, Try.ntmps46
  go_wp2
  go_ret
  exact ⟨w.heap.size + 1, w.heap.size, rfl, ⟨by simp, by simp; omega, by simp [SpV], by simp [go_sem]⟩, by go_grown⟩

/-- One node's own change. -/
theorem sa_eq (h : FH) (f : Fo) (ho : ownB h f.len = true) (h2 : h.k = 2) (h1 : h.ak = 1) (w : World) : Calls Try.prog 47 #[nd1 h f.nds] w (ChP true (nd1 (spE h f).1 (spE h f).2.nds) w) := by
  have hav := own_tv ho h2
  have hn : nd1 h f.nds = .iface 99 (.agg #[.int .i64 h.ak, .int .i64 h.am, .int .i64 h.a, .int .i64 h.b, .int .i64 h.c, .int .i64 h.d, .int .i64 h.n]) := by unfold nd1; simp [h2]
  have HSZ := Lib.hid (fun W => SplitZero_t h.ak h.am h.a h.b h.c h.d h.n W)
  rw [if_pos ⟨hav, h1⟩, decide_eq_true (show avB h.ak h.am h.a h.b h.c h.d h.n = true ∧ h.ak = 1 from ⟨hav, h1⟩)] at HSZ
  have HJ := Lib.hid (fun v W hr => joinedAtoms_any true v (szL h.a h.b h.c h.d h.n) W hr (by simp [szL]))
  have hse : spE h f = jA true (atFo (szL h.a h.b h.c h.d h.n)) := by unfold spE; rw [if_pos ⟨h2, h1⟩]
  rw [hn, hse]
  have h0 := fun w => Try.taaa h.ak h.am h.a h.b h.c h.d h.n w
  obtain ⟨tt, yy, hg⟩ := nd1_iface (jA true (atFo (szL h.a h.b h.c h.d h.n))).1 (jA true (atFo (szL h.a h.b h.c h.d h.n))).2.nds
  rw [hg] at HJ ⊢
  have hb1 : (h.ak != 1) = false := by simp [h1]
  clear hn hav ho h2 hg hse
  rw [h1] at h0 HSZ hb1 ⊢
  clear h1
  go_enter Try.func47, Try.ntmps47
  go_wp2_with fail
  generalize hW : World.alloc _ _ = W
  have hw : Below w.heap.size w W := by subst hW; go_grown
  clear hW
  refine (HSZ.out W).mono ?_
  rintro e w1 ⟨v1, rfl, ho1, hb1⟩
  have hr1 := ownA_reads ho1
  obtain ⟨ra, rn, rc, rfl⟩ : ∃ a n c, v1 = .slice a n c := by obtain ⟨sp, cap, e, _⟩ := hr1; exact ⟨_, _, _, e⟩
  have hw1 := below_on hw hb1
  clear ho1 hb1
  go_wp2_with fail
  refine (HJ.out _ w1 hr1).mono ?_
  rintro e w2 ⟨rfl, hb2⟩
  go_wp2
  go_ret2
  exact ⟨_, rfl, fun _ => rfl, below_on hw1 hb2⟩

theorem sa_else (h : FH) (f : Fo) (ho : ownB h f.len = true) (hn : ¬ (h.k = 2 ∧ h.ak = 1)) (w : World) : Calls Try.prog 47 #[nd1 h f.nds] w (ChP true (nd1 (spE h f).1 (spE h f).2.nds) w) := by
  have hse : spE h f = (h, f) := by unfold spE; rw [if_neg hn]
  rw [hse]
  dsimp only
  by_cases h2 : h.k = 2
  · have h1 : (h.ak != 1) = true := by simpa using (fun e => hn ⟨h2, e⟩)
    have hnd : nd1 h f.nds = .iface 99 (.agg #[.int .i64 h.ak, .int .i64 h.am, .int .i64 h.a, .int .i64 h.b, .int .i64 h.c, .int .i64 h.d, .int .i64 h.n]) := by unfold nd1; simp [h2]
    have h0 := fun w => Try.taaa h.ak h.am h.a h.b h.c h.d h.n w
    rw [hnd]
    clear hse hnd h2 ho hn
    go_enter Try.func47, Try.ntmps47
    go_wp2
    go_ret2
    exact ⟨_, rfl, fun _ => rfl, by go_grown⟩
  · obtain ⟨t, y, e, hta⟩ := ta_atom_no h f ho h2
    rw [e]
    clear e hse h2 ho hn
    go_enter Try.func47, Try.ntmps47
    go_wp2
    go_ret2
    exact ⟨_, rfl, fun _ => rfl, by go_grown⟩
theorem sa_any (h : FH) (f : Fo) (ho : ownB h f.len = true) (w : World) : Calls Try.prog 47 #[nd1 h f.nds] w (ChP true (nd1 (spE h f).1 (spE h f).2.nds) w) := by
  by_cases hn : h.k = 2 ∧ h.ak = 1
  · exact sa_eq h f ho hn.1 hn.2 w
  · exact sa_else h f ho hn w

def SpP (xb ob : Nat) (x : Value) (ok : Bool) (y : Value) : Prop := ChAt 75 #[.pointer (some ⟨xb, 0, none⟩), .pointer (some ⟨ob, 0, none⟩)] (SpI xb ob) x ok y

set_option maxHeartbeats 1000000 in
theorem sp_one (xb ob : Nat) (h : FH) (f g : Fo) (ho : ownB h f.len = true) (hg : ownB h g.len = true) (hok : g.okB = true) (HC : ChS 75 #[.pointer (some ⟨xb, 0, none⟩), .pointer (some ⟨ob, 0, none⟩)] (SpI xb ob) f g) : SpP xb ob (nd1 h f.nds) true (nd1 (spE h g).1 (spE h g).2.nds) := by
  intro w hi
  have HH := Lib.hid (wp_any 75 _ (SpI xb ob) en_parts (spI_stays xb ob) h f g ho HC)
  have HA := Lib.hid (fun W => sa_any h g hg W)
  obtain ⟨t, y, e⟩ := nd1_iface h f.nds
  obtain ⟨t', y', e'⟩ := nd1_iface h g.nds
  obtain ⟨t'', y'', e''⟩ := nd1_iface (spE h g).1 (spE h g).2.nds
  rw [e, e', hok] at HH
  rw [e', e''] at HA
  rw [e, e'']
  have HI := Lib.hid hi
  obtain ⟨i1, i2, i3, i4⟩ := hi
  unfold SpV at i3
  clear HC e e' e'' ho hg hok
  show Calls Try.prog 75 #[.iface t y, .pointer (some ⟨xb, 0, none⟩), .pointer (some ⟨ob, 0, none⟩)] w _
  go_enter Try.func75, Try.ntmps75
  go_wp2_with fail
  refine (HH.out w HI.out).mono ?_
  rintro e w1 ⟨v1, rfl, hv1, hb1⟩
  obtain rfl := hv1 rfl
  have j4 : w1.cell? ⟨ob, 0, none⟩ = some (.func (.func 47) #[] #[]) := ((bcell hb1).1 _ 0 i2).trans i4
  clear i3 i4 hv1
  go_wp2_with fail
  refine (HA.out w1).mono ?_
  rintro e w2 ⟨v2, rfl, hv2, hb2⟩
  obtain rfl := hv2 rfl
  go_wp2
  go_ret2
  exact ⟨_, rfl, fun _ => rfl, below_on hb1 hb2⟩

theorem sp_all (xb ob : Nat) : ∀ (N : Nat) (h : FH) (f : Fo), f.size ≤ N → ownB h f.len = true → f.okB = true → SpP xb ob (nd1 h f.nds) true (nd1 (spF h f).1 (spF h f).2.nds) := by
  intro N
  induction N with
  | zero =>
    intro h f hf ho hok
    match f, hf, ho with
    | .cons _ _ _, hf, _ => simp [Fo.size] at hf
    | .nil, _, ho => exact sp_one xb ob h .nil .nil ho ho rfl trivial
  | succ N ih =>
    intro h f hf ho hok
    have hS : ∀ g : Fo, g.size ≤ N + 1 → g.okB = true → ChS 75 #[.pointer (some ⟨xb, 0, none⟩), .pointer (some ⟨ob, 0, none⟩)] (SpI xb ob) g g.sp := by
      intro g
      induction g with
      | nil => intro _ _; trivial
      | cons h1 s1 r _ ihr =>
        intro hg hgok
        simp only [Fo.size, Fo.okB, Bool.and_eq_true] at hg hgok
        have h4 := ih h1 s1 (by omega) hgok.1.1 hgok.1.2
        have h5 := ihr (by omega) hgok.2
        have h6 := sp_ok1 hgok.1.1 (sp_ok s1 hgok.1.2)
        have e : (ownB (spE h1 s1.sp).1 (spE h1 s1.sp).2.len && (spE h1 s1.sp).2.okB) = true := by rw [Bool.and_eq_true]; exact h6
        refine ⟨?_, h5⟩
        show ChAt _ _ _ _ (ownB (spE h1 s1.sp).1 (spE h1 s1.sp).2.len && (spE h1 s1.sp).2.okB) _
        rw [e]
        exact h4
    exact sp_one xb ob h f f.sp ho (by rw [sp_len]; exact ho) (sp_ok f hok) (hS f hf hok)

/-- The formula with split equations is valid. -/
def spB (h : FH) (f : Fo) : Bool := vfB h f && vfB (spF h f).1 (spF h f).2

set_option maxRecDepth 10000 in
set_option maxHeartbeats 2000000 in
theorem SplitFormula_any (h : FH) (f : Fo) (w : World) (lo : Nat) (s : Value) (hs : FS w lo f s) :
    Calls Try.prog 25 #[.agg #[.int .i64 h.k, .int .i64 h.ak, .int .i64 h.am, .int .i64 h.a, .int .i64 h.b, .int .i64 h.c, .int .i64 h.d, .int .i64 h.n, .int .i64 h.v, s]] w (FrT (okQ (spB h f) (spF h f).1 (spF h f).2) (spB h f) w) := by
  have HC : Hid (∀ (pb nb : Nat) (W : World), SpI pb nb W → Below w.heap.size w W → Calls Try.prog 43 #[.agg #[.int .i64 h.k, .int .i64 h.ak, .int .i64 h.am, .int .i64 h.a, .int .i64 h.b, .int .i64 h.c, .int .i64 h.d, .int .i64 h.n, .int .i64 h.v, s], SpV pb nb] W (FrT (okQ (spB h f) (spF h f).1 (spF h f).2) (spB h f) W)) := by
    intro pb nb W hi hW
    have hsW := FS.below (w := w) hW (Nat.le_refl _) hs
    by_cases hv : vfB h f = true
    · have h3 := vf_parts hv
      exact changed_any 75 _ (SpI pb nb) en_parts (spI_stays pb nb) h _ f _ W lo s hi hsW (by have := spF_size h f; omega) (fun _ => (by have e : (ownB (spF h f).1 (spF h f).2.len && (spF h f).2.okB) = true := (by rw [Bool.and_eq_true]; exact sp_ok1 h3.1 (sp_ok f h3.2.1)); rw [e]; exact sp_all pb nb f.size h f (Nat.le_refl _) h3.1 h3.2.1))
    · have hv' : vfB h f = false := by simpa using hv
      have e : spB h f = (vfB h f && vfB h00 .nil) := by unfold spB; rw [hv']; rfl
      have e2 : okQ (spB h f) (spF h f).1 (spF h f).2 = okQ (vfB h f && vfB h00 .nil) h00 .nil := by rw [e, hv']; rfl
      rw [e2, e]
      exact changed_any 75 _ (SpI pb nb) en_parts (spI_stays pb nb) h h00 f .nil W lo s hi hsW (Nat.zero_le _) (fun h9 => absurd h9 hv)
  obtain ⟨q, hq⟩ : ∃ q, okQ (spB h f) (spF h f).1 (spF h f).2 = q := ⟨_, rfl⟩
  obtain ⟨ok, hok⟩ : ∃ ok, spB h f = ok := ⟨_, rfl⟩
  rw [hq, hok] at HC
  rw [hq, hok]
  obtain ⟨sa0, sn0, sc0, rfl⟩ := hs.slice
  clear hs hq hok
  go_enter Try.func25, Try.ntmps25
  go_wp2_with fail
  generalize hW : World.alloc _ _ = W
  have hw : Below w.heap.size w W := by subst hW; go_grown
  have hx : C10 W w.heap.size h (.slice sa0 sn0 sc0) := by subst hW; exact (by refine ⟨?_, ?_, ?_, ?_, ?_, ?_, ?_, ?_, ?_, ?_, ?_⟩ <;> first | (simp [go_sem]; done) | (simp; omega))
  have hz : C10 W (w.heap.size + 1) ⟨0, 0, 0, 0, 0, 0, 0, 0, 0⟩ (.slice none 0 0) := by subst hW; exact (by refine ⟨?_, ?_, ?_, ?_, ?_, ?_, ?_, ?_, ?_, ?_, ?_⟩ <;> first | (simp [go_sem]; done) | (simp; omega))
  have hf : ∀ o, W.frozen? ⟨w.heap.size + 1, o, none⟩ = false := fun o => by subst hW; simp [go_sem]
  have hsW : w.heap.size + 1 < W.heap.size := hz.1
  clear hW
  refine wp_region_held_drew (S := (fun w' => Below (w.heap.size + 1) W w' ∧ w'.cell? ⟨w.heap.size, 0, none⟩ = some (.int .i64 h.k) ∧ w'.cell? ⟨w.heap.size, 1, none⟩ = some (.int .i64 h.ak) ∧ w'.cell? ⟨w.heap.size, 2, none⟩ = some (.int .i64 h.am) ∧ w'.cell? ⟨w.heap.size, 3, none⟩ = some (.int .i64 h.a) ∧ w'.cell? ⟨w.heap.size, 4, none⟩ = some (.int .i64 h.b) ∧ w'.cell? ⟨w.heap.size, 5, none⟩ = some (.int .i64 h.c) ∧ w'.cell? ⟨w.heap.size, 6, none⟩ = some (.int .i64 h.d) ∧ w'.cell? ⟨w.heap.size, 7, none⟩ = some (.int .i64 h.n) ∧ w'.cell? ⟨w.heap.size, 8, none⟩ = some (.int .i64 h.v) ∧ w'.cell? ⟨w.heap.size, 9, none⟩ = some (.slice sa0 sn0 sc0))) (by kernel_rfl) ?_ (fun hHeld => ?_)
  · try dsimp only
    exact keep10u hx (by go_grown)
  refine wpAnyH_take (i := 0) (oi := { dst := some 4, op := Go.Op.load 30 (Go.Operand.tmp 1), type := 30, pos := "l4_forms.go:116", after := #[], guard := none }) (v := ?_) rfl (by kernel_rfl) (by kernel_rfl) (by kernel_rfl) (fun _ _ _ h => h) (Or.inl ⟨by rfl, ?_⟩) (by assumption) ?_
  rotate_left
  · (intro w hSw; (try dsimp only at hSw); first | (go_simp; done) | (go_simp; with_reducible rfl))
  try simp only [Act.put, List.setIfInBounds_toArray, List.set_cons_zero, List.set_cons_succ]
  refine wpAnyH_ready (rs := [1]) (by kernel_rfl) (by simp) ?_
  refine AllReadyH.cons (o := { dst := some 5, op := Go.Op.call { callee := Go.Callee.value (Go.Operand.func 46), args := #[Go.Operand.func 47], argTypes := #[65] }, type := 65, pos := "l4_forms.go:116", after := #[], guard := none }) rfl (fun K hK => ?_) AllReadyH.nil
  go_simp
  (go_at_call 46; refine (pf_any _).mono ?_; rintro e w1 ⟨pb, nb, rfl, hi1, hb1⟩; unfold SpV; have hbb1 := below_on (w := W) (by go_grown) hb1; have hsw1 : W.heap.size ≤ w1.heap.size := hbb1.size; have hbl1 := hbb1.mono (show w.heap.size + 1 ≤ W.heap.size by omega))
  (try go_wp2_with fail)
  refine hK.out _ _ ?_ (fun hHeld => ?_)
  · try dsimp only
    exact keep10u hx (by go_grown)
  clear hK K
  try simp only [Act.put, List.setIfInBounds_toArray, List.set_cons_zero, List.set_cons_succ]
  refine wpAnyH_ready (rs := [2]) (by kernel_rfl) (by simp) ?_
  refine AllReadyH.cons (o := { dst := some 6, op := Go.Op.call { callee := Go.Callee.value (Go.Operand.func 43), args := #[Go.Operand.tmp 4, Go.Operand.tmp 5], argTypes := #[30, 65] }, type := 31, pos := "l4_forms.go:116", after := #[{ on := 0, ground := Go.Ground.data }, { on := 1, ground := Go.Ground.data }, { on := 1, ground := Go.Ground.chain }], guard := none }) rfl (fun K hK => ?_) AllReadyH.nil
  go_simp
  (go_at_call 43; refine (HC.out pb nb w1 hi1 (below_on hw hbb1)).mono ?_; rintro e w3 ⟨s3, rfl, hs3, hb3⟩; obtain ⟨sa, sn, sc, rfl⟩ := hs3.slice; have HS3 := Lib.hid hs3; have hbb3 := below_on (w := W) (by go_grown) hb3; have hbl3 := hbb3.mono (show w.heap.size + 1 ≤ W.heap.size by omega); have hx3 := c10_on hz hbb3; have hf3 : ∀ o, w3.frozen? ⟨w.heap.size + 1, o, none⟩ = false := (fun o => ((bcell hbb3).2 _ o hz.1).trans (hf o)); obtain ⟨x0, c0, c1, c2, c3, c4, c5, c6, c7, c8, c9⟩ := id hx3)
  (try go_wp2_with fail)
  refine hK.out _ _ ?_ (fun hHeld => ?_)
  · try dsimp only
    exact keep10u hx (by go_grown)
  clear hK K
  try simp only [Act.put, List.setIfInBounds_toArray, List.set_cons_zero, List.set_cons_succ]
  refine wpAnyH_take (i := 3) (oi := { dst := some 7, op := Go.Op.extract (Go.Operand.tmp 6) 0, type := 30, pos := "l4_forms.go:116", after := #[{ on := 2, ground := Go.Ground.data }], guard := none }) (v := ?_) rfl (by kernel_rfl) (by kernel_rfl) (by kernel_rfl) (fun _ _ _ h => h) (Or.inl ⟨by rfl, ?_⟩) (by assumption) ?_
  rotate_left
  · (intro w hSw; (try dsimp only at hSw); first | (go_simp; done) | (go_simp; with_reducible rfl))
  try simp only [Act.put, List.setIfInBounds_toArray, List.set_cons_zero, List.set_cons_succ]
  refine wpAnyH_take (i := 4) (oi := { dst := some 8, op := Go.Op.extract (Go.Operand.tmp 6) 1, type := 4, pos := "l4_forms.go:116", after := #[{ on := 2, ground := Go.Ground.data }], guard := none }) (v := ?_) rfl (by kernel_rfl) (by kernel_rfl) (by kernel_rfl) (fun _ _ _ h => h) (Or.inl ⟨by rfl, ?_⟩) (by assumption) ?_
  rotate_left
  · (intro w hSw; (try dsimp only at hSw); first | (go_simp; done) | (go_simp; with_reducible rfl))
  try simp only [Act.put, List.setIfInBounds_toArray, List.set_cons_zero, List.set_cons_succ]
  refine wpAnyH_ready (rs := [5]) (by kernel_rfl) (by simp) ?_
  refine AllReadyH.cons (o := { dst := none, op := Go.Op.store 30 (Go.Operand.tmp 2) (Go.Operand.tmp 7), type := 0, pos := "l4_forms.go:116", after := #[{ on := 3, ground := Go.Ground.data }, { on := 2, ground := Go.Ground.chain }, { on := 0, ground := Go.Ground.phase }, { on := 1, ground := Go.Ground.phase }, { on := 2, ground := Go.Ground.phase }, { on := 3, ground := Go.Ground.phase }, { on := 4, ground := Go.Ground.phase }], guard := none }) rfl (fun K hK => ?_) AllReadyH.nil
  go_simp
  refine hK.out _ _ ?_ (fun hHeld => ?_)
  · try dsimp only
    exact keep10u hx (by go_grown)
  clear hK K
  try simp only [Act.put, List.setIfInBounds_toArray, List.set_cons_zero, List.set_cons_succ]
  refine wpAnyH_take (i := 6) (oi := { dst := some 3, op := Go.Op.assign (Go.Operand.tmp 8), type := 4, pos := "l4_forms.go:116", after := #[{ on := 4, ground := Go.Ground.data }, { on := 5, ground := Go.Ground.chain }, { on := 0, ground := Go.Ground.phase }, { on := 1, ground := Go.Ground.phase }, { on := 2, ground := Go.Ground.phase }, { on := 3, ground := Go.Ground.phase }, { on := 4, ground := Go.Ground.phase }, { on := 5, ground := Go.Ground.phase }], guard := none }) (v := ?_) rfl (by kernel_rfl) (by kernel_rfl) (by kernel_rfl) (fun _ _ _ h => h) (Or.inl ⟨by rfl, ?_⟩) (by assumption) ?_
  rotate_left
  · (intro w hSw; (try dsimp only at hSw); first | (go_simp; done) | (go_simp; with_reducible rfl))
  try simp only [Act.put, List.setIfInBounds_toArray, List.set_cons_zero, List.set_cons_succ]
  refine wpAnyH_done (by kernel_rfl) ?_ _
  generalize hW7 : World.setCell _ _ _ = W7
  have hblk7 : ∀ x, x ≠ w.heap.size + 1 → W7.heap[x]? = w3.heap[x]? := fun x hx => by subst hW7; repeat rw [Below.heap_setCell _ _ _ _ (by dsimp only; omega)]
  have hsz7 : W7.heap.size = w3.heap.size := by subst hW7; simp [World.setCell]
  obtain ⟨hx7, hb7⟩ := put10b (g := q.1) hx3 hW7
  have hww7 := (below_on hw hbb3).trans (hb7 w.heap.size (by omega))
  have HS7 : Hid (SF W7 w.heap.size W7.heap.size q.2 (.slice sa sn sc)) := by
    have h0 := SF.same (w' := W7) (fun x h1 _ => hblk7 x (by have h2 : W.heap.size ≤ x := Nat.le_trans hsw1 h1; omega)) HS3.out
    exact SF.mono (by omega) (by omega) h0
  obtain ⟨z0, k0, k1, k2, k3, k4, k5, k6, k7, k8, k9⟩ := hx7
  clear hW7 hblk7 hsz7
  go_wp2
  refine bodyPost_ret (v := .tuple #[.agg #[.int .i64 q.1.k, .int .i64 q.1.ak, .int .i64 q.1.am, .int .i64 q.1.a, .int .i64 q.1.b, .int .i64 q.1.c, .int .i64 q.1.d, .int .i64 q.1.n, .int .i64 q.1.v, .slice sa sn sc], .bool ok]) (by simp [results, Try.results25, go_sem, k0, k1, k2, k3, k4, k5, k6, k7, k8, k9]) rfl ⟨_, rfl, HS7.out, hww7⟩

end Go.Proofs.Ytahilpccnabbgaa

/- The contract of the model's l4Split. -/
namespace Go.Proofs.Ytahilpccnabbgaa
open Go.RowKit

def LsF (h : FH) (f : Fo) : Prop := ownB h f.len = true → f.okB = true → ∀ (w : World) (lo : Nat) (s : Value), FS w lo f s → Calls Try.prog 74 #[.agg #[.int .i64 h.k, .int .i64 h.ak, .int .i64 h.am, .int .i64 h.a, .int .i64 h.b, .int .i64 h.c, .int .i64 h.d, .int .i64 h.n, .int .i64 h.v, s]] w (LnT (spF h f) w)
def LsR (f : Fo) (s : Value) (bb o lo : Nat) (w W0 : World) (h ho : FH) (i : Value) (wr : World) : Prop :=
  ∃ (k : Nat) (pre0 r : Fo) (v : Value), i = .int .i64 k ∧ pre0.len = k ∧ pre0.app r = f ∧ r.okB = true ∧ FEl w lo r bb (o + k * 10) ∧
    MlSt w W0 w.heap.size (w.heap.size + 1 + 1) (w.heap.size + 1) h ho s v wr ∧ FOwn wr W0.heap.size W0.heap.size v pre0.sp

set_option maxRecDepth 10000 in
set_option maxHeartbeats 2000000 in
/-- An equation. -/
theorem ls_eq (h : FH) (f : Fo) (h2 : h.k = 2) (h1 : h.ak = 1) : LsF h f := by
  intro ho _ w lo s hs
  have htv := (avB_cases (own_tv ho h2)).2
  have HP := Lib.hid fun W => l2Most_pos h.a h.b h.c h.d h.n 0 W htv (by omega)
  have HM := Lib.hid fun W => l2Most_neg h.a h.b h.c h.d h.n 0 W htv (by omega)
  simp only [Int.add_zero] at HP HM
  rw [spF_eq h2 h1]
  have HL4 := Lib.hid (fun v W (hr : RdA W v (szL h.a h.b h.c h.d h.n)) => l4Atoms_any v (szL h.a h.b h.c h.d h.n) W hr (by simp [szL]))
  have HLJ := Lib.hid (fun W lo s (h1 : lo ≤ (World.heap W).size) (h2 : FS W lo (atFo (szL h.a h.b h.c h.d h.n)) s) => l3Join_any true (atFo (szL h.a h.b h.c h.d h.n)) W lo s h1 h2)
  rw [show kJ true = 4 from rfl] at HLJ
  obtain ⟨q, hq⟩ : ∃ q, jA true (atFo (szL h.a h.b h.c h.d h.n)) = q := ⟨_, rfl⟩
  have HQ := Lib.hid hq
  rw [hq]
  obtain ⟨sa, sn, sc, rfl⟩ := hs.slice
  obtain ⟨kk, ak, am, a, bq, c, d, n, u⟩ := h
  dsimp only at h2 h1 HP HM HL4 HLJ HQ
  subst h2 h1
  clear hs hq ho htv
  go_enter Try.func74, Try.ntmps74
  go_wp2_with fail
  generalize hW : World.alloc _ _ = W
  have hw : Below w.heap.size w W := by subst hW; go_grown
  have hy : C10 W w.heap.size ⟨2, 1, am, a, bq, c, d, n, u⟩ (.slice sa sn sc) := by subst hW; exact (by refine ⟨?_, ?_, ?_, ?_, ?_, ?_, ?_, ?_, ?_, ?_, ?_⟩ <;> first | (simp [go_sem]; done) | (simp; omega))
  have hx : C10 W (w.heap.size + 1) ⟨0, 0, 0, 0, 0, 0, 0, 0, 0⟩ (.slice none 0 0) := by subst hW; exact (by refine ⟨?_, ?_, ?_, ?_, ?_, ?_, ?_, ?_, ?_, ?_, ?_⟩ <;> first | (simp [go_sem]; done) | (simp; omega))
  have hf : ∀ o, W.frozen? ⟨w.heap.size + 1, o, none⟩ = false := fun o => by subst hW; simp [go_sem]
  have hsW : w.heap.size + 1 < W.heap.size := hx.1
  clear hW
  refine wp_region_held_drew (S := (fun w' => Below (w.heap.size + 1) W w' ∧ w'.cell? ⟨w.heap.size, 0, none⟩ = some (.int .i64 2) ∧ w'.cell? ⟨w.heap.size, 1, none⟩ = some (.int .i64 1) ∧ w'.cell? ⟨w.heap.size, 2, none⟩ = some (.int .i64 am) ∧ w'.cell? ⟨w.heap.size, 3, none⟩ = some (.int .i64 a) ∧ w'.cell? ⟨w.heap.size, 4, none⟩ = some (.int .i64 bq) ∧ w'.cell? ⟨w.heap.size, 5, none⟩ = some (.int .i64 c) ∧ w'.cell? ⟨w.heap.size, 6, none⟩ = some (.int .i64 d) ∧ w'.cell? ⟨w.heap.size, 7, none⟩ = some (.int .i64 n) ∧ w'.cell? ⟨w.heap.size, 8, none⟩ = some (.int .i64 u) ∧ w'.cell? ⟨w.heap.size, 9, none⟩ = some (.slice sa sn sc))) (by kernel_rfl) ?_ (fun hHeld => ?_)
  · try dsimp only
    exact keep10u hy (by go_grown)
  refine wpAnyH_take (i := 0) (oi := { dst := some 14, op := Go.Op.fieldAddr 30 (Go.Operand.tmp 1) 1, type := 0, pos := "l4_forms.go:66", after := #[], guard := none }) (v := ?_) rfl (by kernel_rfl) (by kernel_rfl) (by kernel_rfl) (fun _ _ _ h => h) (Or.inl ⟨by rfl, ?_⟩) (by assumption) ?_
  rotate_left
  · (intro w hSw; (try dsimp only at hSw); first | (go_simp; done) | (go_simp; with_reducible rfl))
  try simp only [Act.put, List.setIfInBounds_toArray, List.set_cons_zero, List.set_cons_succ]
  refine wpAnyH_take (i := 1) (oi := { dst := some 15, op := Go.Op.fieldAddr 27 (Go.Operand.tmp 14) 2, type := 0, pos := "l4_forms.go:66", after := #[{ on := 0, ground := Go.Ground.data }], guard := none }) (v := ?_) rfl (by kernel_rfl) (by kernel_rfl) (by kernel_rfl) (fun _ _ _ h => h) (Or.inl ⟨by rfl, ?_⟩) (by assumption) ?_
  rotate_left
  · (intro w hSw; (try dsimp only at hSw); first | (go_simp; done) | (go_simp; with_reducible rfl))
  try simp only [Act.put, List.setIfInBounds_toArray, List.set_cons_zero, List.set_cons_succ]
  refine wpAnyH_take (i := 2) (oi := { dst := some 16, op := Go.Op.load 25 (Go.Operand.tmp 15), type := 25, pos := "l4_forms.go:66", after := #[{ on := 1, ground := Go.Ground.data }], guard := none }) (v := ?_) rfl (by kernel_rfl) (by kernel_rfl) (by kernel_rfl) (fun _ _ _ h => h) (Or.inl ⟨by rfl, ?_⟩) (by assumption) ?_
  rotate_left
  · (intro w hSw; (try dsimp only at hSw); first | (go_simp; done) | (go_simp; with_reducible rfl))
  try simp only [Act.put, List.setIfInBounds_toArray, List.set_cons_zero, List.set_cons_succ]
  refine wpAnyH_take (i := 4) (oi := { dst := some 18, op := Go.Op.fieldAddr 30 (Go.Operand.tmp 1) 1, type := 0, pos := "l4_forms.go:66", after := #[], guard := none }) (v := ?_) rfl (by kernel_rfl) (by kernel_rfl) (by kernel_rfl) (fun _ _ _ h => h) (Or.inl ⟨by rfl, ?_⟩) (by assumption) ?_
  rotate_left
  · (intro w hSw; (try dsimp only at hSw); first | (go_simp; done) | (go_simp; with_reducible rfl))
  try simp only [Act.put, List.setIfInBounds_toArray, List.set_cons_zero, List.set_cons_succ]
  refine wpAnyH_take (i := 5) (oi := { dst := some 19, op := Go.Op.fieldAddr 27 (Go.Operand.tmp 18) 2, type := 0, pos := "l4_forms.go:66", after := #[{ on := 4, ground := Go.Ground.data }], guard := none }) (v := ?_) rfl (by kernel_rfl) (by kernel_rfl) (by kernel_rfl) (fun _ _ _ h => h) (Or.inl ⟨by rfl, ?_⟩) (by assumption) ?_
  rotate_left
  · (intro w hSw; (try dsimp only at hSw); first | (go_simp; done) | (go_simp; with_reducible rfl))
  try simp only [Act.put, List.setIfInBounds_toArray, List.set_cons_zero, List.set_cons_succ]
  refine wpAnyH_take (i := 6) (oi := { dst := some 20, op := Go.Op.load 25 (Go.Operand.tmp 19), type := 25, pos := "l4_forms.go:66", after := #[{ on := 5, ground := Go.Ground.data }], guard := none }) (v := ?_) rfl (by kernel_rfl) (by kernel_rfl) (by kernel_rfl) (fun _ _ _ h => h) (Or.inl ⟨by rfl, ?_⟩) (by assumption) ?_
  rotate_left
  · (intro w hSw; (try dsimp only at hSw); first | (go_simp; done) | (go_simp; with_reducible rfl))
  try simp only [Act.put, List.setIfInBounds_toArray, List.set_cons_zero, List.set_cons_succ]
  refine wpAnyH_ready (rs := [3]) (by kernel_rfl) (by simp) ?_
  refine AllReadyH.cons (o := { dst := some 17, op := Go.Op.call { callee := Go.Callee.value (Go.Operand.func 100), args := #[Go.Operand.const (Go.Value.int Go.IntKind.i64 1), Go.Operand.tmp 16, Go.Operand.const (Go.Value.int Go.IntKind.i64 0)], argTypes := #[3, 25, 3] }, type := 27, pos := "l4_forms.go:66", after := #[{ on := 2, ground := Go.Ground.data }], guard := none }) rfl (fun K hK => ?_) AllReadyH.nil
  go_simp
  (first | (go_at_call 100; (with_reducible refine (HP.out _).mono ?_); rintro e w4 ⟨rfl, hb4⟩; have hbb4 := below_on (w := W) (by go_grown) hb4; have hsb4 : W.heap.size ≤ w4.heap.size := hbb4.size; have hbl4 := hbb4.mono (show w.heap.size + 1 ≤ W.heap.size by omega)) | (go_at_call 100; (with_reducible refine (HM.out _).mono ?_); rintro e w5 ⟨rfl, hb5⟩; have hbb5 := below_on hbb4 hb5; have hsb5 : W.heap.size ≤ w5.heap.size := hbb5.size; have hbl5 := hbb5.mono (show w.heap.size + 1 ≤ W.heap.size by omega); have HRD := Lib.hid (ownA_reads (ownA_lit (w := w5) (B := w5.heap.size) #[.int .i64 0, .int .i64 0, .int .i64 a, .int .i64 bq, .int .i64 c, .int .i64 d, .int .i64 n, .int .i64 0, .int .i64 0, .int .i64 (-a), .int .i64 (-bq), .int .i64 (-c), .int .i64 (-d), .int .i64 (-n)] (szL a bq c d n) (Nat.le_refl _) (by simp [szL]) rfl))))
  (try go_wp2_with fail)
  refine hK.out _ _ ?_ (fun hHeld => ?_)
  · try dsimp only
    exact keep10u hy (by go_grown)
  clear hK K
  try simp only [Act.put, List.setIfInBounds_toArray, List.set_cons_zero, List.set_cons_succ]
  refine wpAnyH_ready (rs := [7]) (by kernel_rfl) (by simp) ?_
  refine AllReadyH.cons (o := { dst := some 21, op := Go.Op.call { callee := Go.Callee.value (Go.Operand.func 100), args := #[Go.Operand.const (Go.Value.int Go.IntKind.i64 (-1)), Go.Operand.tmp 20, Go.Operand.const (Go.Value.int Go.IntKind.i64 0)], argTypes := #[3, 25, 3] }, type := 27, pos := "l4_forms.go:66", after := #[{ on := 6, ground := Go.Ground.data }, { on := 3, ground := Go.Ground.chain }], guard := none }) rfl (fun K hK => ?_) AllReadyH.nil
  go_simp
  (first | (go_at_call 100; (with_reducible refine (HP.out _).mono ?_); rintro e w4 ⟨rfl, hb4⟩; have hbb4 := below_on (w := W) (by go_grown) hb4; have hsb4 : W.heap.size ≤ w4.heap.size := hbb4.size; have hbl4 := hbb4.mono (show w.heap.size + 1 ≤ W.heap.size by omega)) | (go_at_call 100; (with_reducible refine (HM.out _).mono ?_); rintro e w5 ⟨rfl, hb5⟩; have hbb5 := below_on hbb4 hb5; have hsb5 : W.heap.size ≤ w5.heap.size := hbb5.size; have hbl5 := hbb5.mono (show w.heap.size + 1 ≤ W.heap.size by omega); have HRD := Lib.hid (ownA_reads (ownA_lit (w := w5) (B := w5.heap.size) #[.int .i64 0, .int .i64 0, .int .i64 a, .int .i64 bq, .int .i64 c, .int .i64 d, .int .i64 n, .int .i64 0, .int .i64 0, .int .i64 (-a), .int .i64 (-bq), .int .i64 (-c), .int .i64 (-d), .int .i64 (-n)] (szL a bq c d n) (Nat.le_refl _) (by simp [szL]) rfl))))
  (try go_wp2_with fail)
  refine hK.out _ _ ?_ (fun hHeld => ?_)
  · try dsimp only
    exact keep10u hy (by go_grown)
  clear hK K
  try simp only [Act.put, List.setIfInBounds_toArray, List.set_cons_zero, List.set_cons_succ]
  refine wpAnyH_ready (rs := [8]) (by kernel_rfl) (by simp) ?_
  refine AllReadyH.cons (o := { dst := some 22, op := Go.Op.buildSlice 73 2 #[(0, Go.Operand.tmp 17), (1, Go.Operand.tmp 21)], type := 73, pos := "l4_forms.go:66", after := #[{ on := 3, ground := Go.Ground.data }, { on := 7, ground := Go.Ground.data }], guard := none }) rfl (fun K hK => ?_) AllReadyH.nil
  go_simp
  refine hK.out _ _ ?_ (fun hHeld => ?_)
  · try dsimp only
    exact keep10u hy (by go_grown)
  clear hK K
  try simp only [Act.put, List.setIfInBounds_toArray, List.set_cons_zero, List.set_cons_succ]
  refine wpAnyH_ready (rs := [9]) (by kernel_rfl) (by simp) ?_
  refine AllReadyH.cons (o := { dst := some 23, op := Go.Op.call { callee := Go.Callee.value (Go.Operand.func 86), args := #[Go.Operand.tmp 22], argTypes := #[73] }, type := 28, pos := "l4_forms.go:66", after := #[{ on := 8, ground := Go.Ground.data }, { on := 7, ground := Go.Ground.chain }], guard := none }) rfl (fun K hK => ?_) AllReadyH.nil
  go_simp
  (go_at_call 86; refine (HL4.out _ _ HRD.out).mono ?_; rintro e w6 ⟨s6, rfl, hs6, hb6⟩; obtain ⟨ta, tn, tc, rfl⟩ := hs6.slice; have HS6 := Lib.hid hs6; have hbb6 := below_on (w := W) (by go_grown) hb6; have hbl6 := hbb6.mono (show w.heap.size + 1 ≤ W.heap.size by omega); have hs56 : w5.heap.size + 1 ≤ w6.heap.size := (by have := hb6.size; simpa using this))
  (try go_wp2_with fail)
  refine hK.out _ _ ?_ (fun hHeld => ?_)
  · try dsimp only
    exact keep10u hy (by go_grown)
  clear hK K
  try simp only [Act.put, List.setIfInBounds_toArray, List.set_cons_zero, List.set_cons_succ]
  refine wpAnyH_ready (rs := [10]) (by kernel_rfl) (by simp) ?_
  refine AllReadyH.cons (o := { dst := some 24, op := Go.Op.call { callee := Go.Callee.value (Go.Operand.func 63), args := #[Go.Operand.const (Go.Value.int Go.IntKind.i64 4), Go.Operand.tmp 23], argTypes := #[3, 28] }, type := 30, pos := "l4_forms.go:66", after := #[{ on := 9, ground := Go.Ground.data }, { on := 9, ground := Go.Ground.chain }], guard := none }) rfl (fun K hK => ?_) AllReadyH.nil
  go_simp
  (go_at_call 63; refine (HLJ.out w6 w5.heap.size _ (by omega) (FS.mono (show w5.heap.size ≤ _ by simp) HS6.out)).mono ?_; rintro e w7 ⟨s7, rfl, hs7, hb7⟩; rw [HQ.out] at hs7 ⊢; obtain ⟨ua, un, uc, rfl⟩ := hs7.slice; have HS7 := Lib.hid hs7; have hbb7 := below_on hbb6 hb7; have hbl7 := hbb7.mono (show w.heap.size + 1 ≤ W.heap.size by omega); have hx7 := c10_on hx hbb7; have fx7 : ∀ o, w7.frozen? ⟨w.heap.size + 1, o, none⟩ = false := (fun o => ((bcell hbb7).2 _ o hx.1).trans (hf o)); obtain ⟨x0, c0, c1, c2, c3, c4, c5, c6, c7, c8, c9⟩ := id hx7)
  (try go_wp2_with fail)
  refine hK.out _ _ ?_ (fun hHeld => ?_)
  · try dsimp only
    exact keep10u hy (by go_grown)
  clear hK K
  try simp only [Act.put, List.setIfInBounds_toArray, List.set_cons_zero, List.set_cons_succ]
  refine wpAnyH_ready (rs := [11]) (by kernel_rfl) (by simp) ?_
  refine AllReadyH.cons (o := { dst := none, op := Go.Op.store 30 (Go.Operand.tmp 2) (Go.Operand.tmp 24), type := 0, pos := "l4_forms.go:66", after := #[{ on := 10, ground := Go.Ground.data }, { on := 10, ground := Go.Ground.chain }, { on := 0, ground := Go.Ground.phase }, { on := 1, ground := Go.Ground.phase }, { on := 2, ground := Go.Ground.phase }, { on := 3, ground := Go.Ground.phase }, { on := 4, ground := Go.Ground.phase }, { on := 5, ground := Go.Ground.phase }, { on := 6, ground := Go.Ground.phase }, { on := 7, ground := Go.Ground.phase }, { on := 8, ground := Go.Ground.phase }, { on := 9, ground := Go.Ground.phase }, { on := 10, ground := Go.Ground.phase }], guard := none }) rfl (fun K hK => ?_) AllReadyH.nil
  go_simp
  refine hK.out _ _ ?_ (fun hHeld => ?_)
  · try dsimp only
    exact keep10u hy (by go_grown)
  clear hK K
  try simp only [Act.put, List.setIfInBounds_toArray, List.set_cons_zero, List.set_cons_succ]
  refine wpAnyH_done (by kernel_rfl) ?_ _
  generalize hW8 : World.setCell _ _ _ = W8
  obtain ⟨hz8, hk8, hs8, _⟩ := ten_set (g := q.1) hx7 hW8
  have hw8 : Below w.heap.size w W8 := (below_on hw hbb7).trans ((put10b (g := q.1) hx7 hW8).2 w.heap.size (by omega))
  have HS8 := Lib.hid (FS.mono (lo' := w.heap.size) (by omega) (FS.kept (w' := W8) (Nat.le_of_eq hs8.symm) (fun k hk _ => hk8 k (by omega)) HS7.out))
  obtain ⟨z0, k0, k1, k2, k3, k4, k5, k6, k7, k8, k9⟩ := hz8
  clear hW8 hk8 hs8
  go_wp2
  refine bodyPost_ret (v := .agg #[.int .i64 q.1.k, .int .i64 q.1.ak, .int .i64 q.1.am, .int .i64 q.1.a, .int .i64 q.1.b, .int .i64 q.1.c, .int .i64 q.1.d, .int .i64 q.1.n, .int .i64 q.1.v, .slice ua un uc]) (by simp [results, Try.results74, go_sem, k0, k1, k2, k3, k4, k5, k6, k7, k8, k9]) rfl ⟨_, rfl, HS8.out, hw8⟩


set_option maxRecDepth 10000 in
set_option maxHeartbeats 4000000 in
/-- No atom. -/
theorem ls_else2 (h : FH) (f : Fo) (HF : ∀ h s, s.size < f.size → LsF h s) (hn : ¬ (h.k = 2 ∧ h.ak = 1)) (h2 : h.k ≠ 2) : LsF h f := by
  intro ho hok w lo s hs
  have H := Lib.hid HF
  have HQ := Lib.hid (spF_else (h := h) (f := f) hn)
  obtain ⟨sa, sc, rfl⟩ := fs_len0 hs
  obtain ⟨bb, o, hel, hsh⟩ := fs_shape hs
  have HEL := Lib.hid hel
  have HSH := Lib.hid hsh
  have hlen := Fo.len_le f
  have hf6 : f.len ≤ 2 := by rcases own_kind ho with ⟨h, _⟩ | ⟨h, _⟩ | ⟨h, _⟩ <;> omega
  have b2 : ((h.k : Int) == 2) = false := by simpa using h2
  have b1 : True := trivial
  have HOK := Lib.hid hok
  clear HF hs hel hsh ho hok hn
  go_enter Try.func74, Try.ntmps74
  go_upto_region 4 with fail
  generalize hW0 : World.alloc _ _ = W0
  have hst : MlSt w W0 w.heap.size (w.heap.size + 1 + 1) (w.heap.size + 1) h h (.slice sa f.len sc) (.slice none 0 0) W0 := by
    have hz : w.heap.size + 1 + 1 < W0.heap.size := by subst hW0; simp only [World.size_alloc]; omega
    refine ⟨?_, ?_, ?_, ?_, ?_, ?_, Nat.le_refl _, by omega, by omega, by omega, by omega, by omega, by omega, by omega, by omega, by omega⟩
    · subst hW0; exact (by refine ⟨?_, ?_, ?_, ?_, ?_, ?_, ?_, ?_, ?_, ?_, ?_⟩ <;> first | (simp [go_sem]; done) | (simp; omega))
    · subst hW0; exact (by refine ⟨?_, ?_, ?_, ?_, ?_, ?_, ?_, ?_, ?_, ?_, ?_⟩ <;> first | (simp [go_sem]; done) | (simp; omega))
    · intro o; subst hW0; simp [go_sem]
    · subst hW0; exact (by refine ⟨?_, ?_, ?_, ?_, ?_, ?_, ?_, ?_, ?_, ?_, ?_⟩ <;> first | (simp [go_sem]; done) | (simp; omega))
    · intro o; subst hW0; simp [go_sem]
    · subst hW0; go_grown
  have HST := Lib.hid (show LsR f (.slice sa f.len sc) bb o lo w W0 h h (.int .i64 0) W0 from ⟨0, .nil, f, _, rfl, rfl, rfl, HOK.out, HEL.out, hst, fown_nil _ _ _⟩)
  clear hW0 hst
  clear b1 b2
  go_wp2_with fail
  go_loopw [4] (fun i wr => LsR f (.slice sa f.len sc) bb o lo w W0 h h i wr) (fun i _ => f.len - (intOf i).toNat)
  case atStart => exact HST.out
  case round =>
    obtain ⟨k, pre0, r, v, rfl, hpl, hap, hrok, hr, hst, how⟩ := hrel
    clear HST
    have HAP := Lib.hid hap
    have HPL := Lib.hid hpl
    have HST := Lib.hid hst
    have HOW := Lib.hid how
    have hkf : k + r.len = f.len := by rw [← hap, Fo.app_len, hpl]
    have hszr : r.size ≤ f.size := by rw [← hap, size_app]; omega
    obtain ⟨va, vc, hv⟩ := fown_slice how
    subst hv
    have hlv : (pre0.sp).len = k := by rw [sp_len, hpl]
    obtain ⟨⟨x0, c0, c1, c2, c3, c4, c5, c6, c7, c8, c9⟩, ⟨y0, e0, e1, e2, e3, e4, e5, e6, e7, e8, e9⟩, yf, ⟨z0, d0, d1, d2, d3, d4, d5, d6, d7, d8, d9⟩, zf, hbw, hsW, _⟩ := id hst
    rw [hlv] at e9
    have HLV := Lib.hid hlv
    have hzz : w.heap.size + 1 < W0.heap.size := HST.out.2.2.2.2.2.2.2.2.2.2.2.2.1
    have hyy : w.heap.size + 1 + 1 < W0.heap.size := HST.out.2.2.2.2.2.2.2.2.2.2.2.1
    clear hap hpl hst how hlv
    cases r with
    | nil =>
      simp only [Fo.len] at hkf
      have hkl : ¬ (k : Int) < (f.len : Int) := by omega
      have e : pre0 = f := by have := HAP.out; rwa [Fo.app_nil] at this
      subst e
      obtain rfl : k = pre0.len := by omega
      go_wp2_with fail
      generalize hW7 : World.setCell _ _ _ = W7
      have hblk7 : ∀ x, x ≠ w.heap.size + 1 → W7.heap[x]? = wr.heap[x]? := fun x hx => by subst hW7; repeat rw [Below.heap_setCell _ _ _ _ (by dsimp only; omega)]
      have hsz7 : W7.heap.size = wr.heap.size := by subst hW7; simp [World.setCell]
      obtain ⟨hx7, hb7⟩ := put10b (g := h) HST.out.2.2.2.1 hW7
      have hww7 := hbw.trans (hb7 w.heap.size (by omega))
      have HS7 := Lib.hid (FS.mono (lo' := w.heap.size) (by omega) (fown_fs (fown_put HOW.out (by omega) (by omega) hblk7 hsz7) (Nat.le_refl _)))
      obtain ⟨q0, k0, k1, k2, k3, k4, k5, k6, k7, k8, k9⟩ := hx7
      rw [HLV.out] at HS7
      (try simp only [Exit.inBlock, Exit.then])
      refine bodyPost_ret (v := .agg #[.int .i64 h.k, .int .i64 h.ak, .int .i64 h.am, .int .i64 h.a, .int .i64 h.b, .int .i64 h.c, .int .i64 h.d, .int .i64 h.n, .int .i64 h.v, .slice va pre0.len vc]) ?_ rfl ⟨_, by rw [HQ.out], by rw [HQ.out]; exact HS7.out, hww7⟩
      rw [results_cell1 rfl]
      go_simp
    | cons h' s' r' =>
      simp only [Fo.len] at hkf
      simp only [Fo.size] at hszr
      simp only [Fo.okB, Bool.and_eq_true] at hrok
      have hkl : (k : Int) < (f.len : Int) := by omega
      have hk0 : (0 : Int) ≤ k := by omega
      obtain ⟨rfl, hcc2, hcc1, hlo, hbb⟩ := HSH.out (by omega)
      have hcc2' := hcc2
      unfold maxLen at hcc2'
      have HR := Lib.hid hr.2
      obtain ⟨⟨sl, hrow, hsl⟩, _⟩ := FEl.below hbw (Nat.le_refl _) hlo hbb hr
      obtain ⟨la, ln, lc, rfl⟩ : ∃ a n c, sl = .slice a n c := FS.slice (w := wr) (lo := lo) (f := s') hsl
      have HC := Lib.hid (H.out h' s' (by omega) hrok.1.1 hrok.1.2 wr.drew lo _ (FS.below (w := wr) (Below.drew (Below.refl _ _)) (Nat.le_refl _) hsl))
      have HSE := Lib.hid (show wr.cell? ⟨w.heap.size, 9, none⟩ = some (.slice (some ⟨bb, o, none⟩) f.len sc) ∧ FRow wr bb (o + k * 10) h' (.slice la ln lc) from ⟨c9, hrow⟩)
      clear hrow
      have hlen1 : k ≤ 1048576 := by omega
      clear hsl hr
      go_wp2_with fail
      refine wp_region_held_drew (S := (fun w' => w'.cell? ⟨w.heap.size, 9, none⟩ = some (.slice (some ⟨bb, o, none⟩) f.len sc) ∧ w'.cell? ⟨bb, o + k * 10, none⟩ = some (.int .i64 h'.k) ∧ w'.cell? ⟨bb, o + k * 10 + 1, none⟩ = some (.int .i64 h'.ak) ∧ w'.cell? ⟨bb, o + k * 10 + 2, none⟩ = some (.int .i64 h'.am) ∧ w'.cell? ⟨bb, o + k * 10 + 3, none⟩ = some (.int .i64 h'.a) ∧ w'.cell? ⟨bb, o + k * 10 + 4, none⟩ = some (.int .i64 h'.b) ∧ w'.cell? ⟨bb, o + k * 10 + 5, none⟩ = some (.int .i64 h'.c) ∧ w'.cell? ⟨bb, o + k * 10 + 6, none⟩ = some (.int .i64 h'.d) ∧ w'.cell? ⟨bb, o + k * 10 + 7, none⟩ = some (.int .i64 h'.n) ∧ w'.cell? ⟨bb, o + k * 10 + 8, none⟩ = some (.int .i64 h'.v) ∧ w'.cell? ⟨bb, o + k * 10 + 9, none⟩ = some (.slice la ln lc))) (by kernel_rfl) ?_ (fun hHeld => ?_)
      · try dsimp only
        first | exact HSE.out | exact keepP HS5.out (show w.heap.size ≠ w.heap.size + 1 + 1 by omega) (show bb ≠ w.heap.size + 1 + 1 by omega) (fun q hq => Below.heap_setCell _ _ _ _ (by dsimp only; omega)) | exact keepE HSE.out (show w.heap.size < W0.heap.size by omega) (show bb < W0.heap.size by omega) (by go_grown)
      refine wpAnyH_take (i := 0) (oi := { dst := some 39, op := Go.Op.fieldAddr 30 (Go.Operand.tmp 3) 3, type := 0, pos := "l4_forms.go:70", after := #[], guard := none }) (v := ?_) rfl (by kernel_rfl) (by kernel_rfl) (by kernel_rfl) (fun _ _ _ h => h) (Or.inl ⟨by rfl, ?_⟩) (by assumption) ?_
      rotate_left
      · (intro w hSw; (try dsimp only at hSw); first | (go_simp; done) | (go_simp; with_reducible rfl))
      try simp only [Act.put, List.setIfInBounds_toArray, List.set_cons_zero, List.set_cons_succ]
      refine wpAnyH_take (i := 2) (oi := { dst := some 41, op := Go.Op.fieldAddr 30 (Go.Operand.tmp 1) 3, type := 0, pos := "l4_forms.go:70", after := #[], guard := none }) (v := ?_) rfl (by kernel_rfl) (by kernel_rfl) (by kernel_rfl) (fun _ _ _ h => h) (Or.inl ⟨by rfl, ?_⟩) (by assumption) ?_
      rotate_left
      · (intro w hSw; (try dsimp only at hSw); first | (go_simp; done) | (go_simp; with_reducible rfl))
      try simp only [Act.put, List.setIfInBounds_toArray, List.set_cons_zero, List.set_cons_succ]
      refine wpAnyH_take (i := 3) (oi := { dst := some 42, op := Go.Op.load 28 (Go.Operand.tmp 41), type := 28, pos := "l4_forms.go:70", after := #[{ on := 2, ground := Go.Ground.data }], guard := none }) (v := ?_) rfl (by kernel_rfl) (by kernel_rfl) (by kernel_rfl) (fun _ _ _ h => h) (Or.inl ⟨by rfl, ?_⟩) (by assumption) ?_
      rotate_left
      · (intro w hSw; (try dsimp only at hSw); first | (go_simp; done) | (go_simp; with_reducible rfl))
      try simp only [Act.put, List.setIfInBounds_toArray, List.set_cons_zero, List.set_cons_succ]
      refine wpAnyH_take (i := 4) (oi := { dst := some 43, op := Go.Op.move (Go.Operand.tmp 4), type := 3, pos := "l4_forms.go:70", after := #[], guard := none }) (v := ?_) rfl (by kernel_rfl) (by kernel_rfl) (by kernel_rfl) (fun _ _ _ h => h) (Or.inl ⟨by rfl, ?_⟩) (by assumption) ?_
      rotate_left
      · (intro w hSw; (try dsimp only at hSw); first | (go_simp; done) | (go_simp; with_reducible rfl))
      try simp only [Act.put, List.setIfInBounds_toArray, List.set_cons_zero, List.set_cons_succ]
      refine wpAnyH_take (i := 5) (oi := { dst := some 44, op := Go.Op.indexAddr 28 (Go.Operand.tmp 42) (Go.Operand.tmp 43), type := 0, pos := "l4_forms.go:70", after := #[{ on := 3, ground := Go.Ground.data }, { on := 4, ground := Go.Ground.data }], guard := none }) (v := ?_) rfl (by kernel_rfl) (by kernel_rfl) (by kernel_rfl) (fun _ _ _ h => h) (Or.inl ⟨by rfl, ?_⟩) (by assumption) ?_
      rotate_left
      · (intro w hSw; (try dsimp only at hSw); first | (go_simp; done) | (go_simp; with_reducible rfl))
      try simp only [Act.put, List.setIfInBounds_toArray, List.set_cons_zero, List.set_cons_succ]
      refine wpAnyH_take (i := 6) (oi := { dst := some 45, op := Go.Op.load 30 (Go.Operand.tmp 44), type := 30, pos := "l4_forms.go:70", after := #[{ on := 5, ground := Go.Ground.data }], guard := none }) (v := ?_) rfl (by kernel_rfl) (by kernel_rfl) (by kernel_rfl) (fun _ _ _ h => h) (Or.inl ⟨by rfl, ?_⟩) (by assumption) ?_
      rotate_left
      · (intro w hSw; (try dsimp only at hSw); first | (go_simp; done) | (go_simp; with_reducible rfl))
      try simp only [Act.put, List.setIfInBounds_toArray, List.set_cons_zero, List.set_cons_succ]
      refine wpAnyH_ready (rs := [1, 7]) (by kernel_rfl) (by simp) ?_
      refine AllReadyH.cons (o := { dst := some 40, op := Go.Op.load 28 (Go.Operand.tmp 39), type := 28, pos := "l4_forms.go:70", after := #[{ on := 0, ground := Go.Ground.data }], guard := none }) rfl (fun K hK => ?_) (AllReadyH.cons (o := { dst := some 46, op := Go.Op.call { callee := Go.Callee.value (Go.Operand.func 74), args := #[Go.Operand.tmp 45], argTypes := #[30] }, type := 30, pos := "l4_forms.go:70", after := #[{ on := 6, ground := Go.Ground.data }], guard := none }) rfl (fun K hK => ?_) AllReadyH.nil)
      ·
        go_simp
        refine hK.out _ _ ?_ (fun hHeld => ?_)
        · try dsimp only
          first | exact HSE.out | exact keepP HS5.out (show w.heap.size ≠ w.heap.size + 1 + 1 by omega) (show bb ≠ w.heap.size + 1 + 1 by omega) (fun q hq => Below.heap_setCell _ _ _ _ (by dsimp only; omega)) | exact keepE HSE.out (show w.heap.size < W0.heap.size by omega) (show bb < W0.heap.size by omega) (by go_grown)
        clear hK K
        try simp only [Act.put, List.setIfInBounds_toArray, List.set_cons_zero, List.set_cons_succ]
        refine wpAnyH_ready (rs := [7]) (by kernel_rfl) (by simp) ?_
        refine AllReadyH.cons (o := { dst := some 46, op := Go.Op.call { callee := Go.Callee.value (Go.Operand.func 74), args := #[Go.Operand.tmp 45], argTypes := #[30] }, type := 30, pos := "l4_forms.go:70", after := #[{ on := 6, ground := Go.Ground.data }], guard := none }) rfl (fun K hK => ?_) AllReadyH.nil
        go_simp
        (go_at_call 74; refine HC.out.mono ?_; rintro e w4 ⟨s4, rfl, hs4, hb4⟩; have HS4 := Lib.hid hs4; obtain ⟨ga, gn, gc, rfl⟩ := hs4.slice; have hs44 : wr.heap.size ≤ w4.heap.size := hb4.size; have hlt4 : w.heap.size + 1 + 1 < w4.heap.size := (by omega); have hbl4 : Below W0.heap.size wr w4 := Below.mono (below_on (Below.drew (Below.refl _ _)) hb4) hsW; have hd9 : w4.cell? ⟨w.heap.size + 1 + 1, 9, none⟩ = some (.slice va k vc) := ((bcell hb4).1 _ 9 y0).trans e9; obtain ⟨v5, w5, hr5, ho5, hb5⟩ := fown_app (wa := wr.drew) (w4 := w4) (spF h' s').1 (spF h' s').2 ga gn gc (fown_below HOW.out (Below.drew (Below.refl _ _))) (by rw [HLV.out]; exact hlen1) (by omega) hb4 (FSP.kept (Nat.le_refl _) (fun _ _ _ => rfl) (fun q hq => ⟨Nat.le_trans hsW hq.1, .inr hq.1, hq.2⟩) (FSP.of HS4.out)); obtain ⟨a5, c5x, rfl⟩ := fown_slice ho5; rw [HLV.out] at hr5; have he9 : w5.cell? ⟨w.heap.size + 1 + 1, 9, none⟩ = some (.slice va k vc) := (World.cell?_of_block (a := ⟨w.heap.size + 1 + 1, 9, none⟩) (hb5.block _ hyy)).trans hd9; have hf5 : ∀ o, w5.frozen? ⟨w.heap.size + 1 + 1, o, none⟩ = false := (fun o => (World.frozen?_of_block (a := ⟨w.heap.size + 1 + 1, o, none⟩) (hb5.block _ hyy)).trans (((bcell hb4).2 _ o y0).trans (yf o))); have hbl5 : Below W0.heap.size wr w5 := hbl4.trans hb5; have HS5 := Lib.hid (keepE HSE.out (show w.heap.size < W0.heap.size by omega) (show bb < W0.heap.size by omega) hbl5))
        (try go_wp2_with fail)
        refine hK.out _ _ ?_ (fun hHeld => ?_)
        · try dsimp only
          first | exact HSE.out | exact keepP HS5.out (show w.heap.size ≠ w.heap.size + 1 + 1 by omega) (show bb ≠ w.heap.size + 1 + 1 by omega) (fun q hq => Below.heap_setCell _ _ _ _ (by dsimp only; omega)) | exact keepE HSE.out (show w.heap.size < W0.heap.size by omega) (show bb < W0.heap.size by omega) (by go_grown)
        clear hK K
        try simp only [Act.put, List.setIfInBounds_toArray, List.set_cons_zero, List.set_cons_succ]
        refine wpAnyH_ready (rs := [8]) (by kernel_rfl) (by simp) ?_
        refine AllReadyH.cons (o := { dst := some 47, op := Go.Op.buildSlice 28 1 #[(0, Go.Operand.tmp 46)], type := 28, pos := "l4_forms.go:70", after := #[{ on := 7, ground := Go.Ground.data }], guard := none }) rfl (fun K hK => ?_) AllReadyH.nil
        go_simp
        refine hK.out _ _ ?_ (fun hHeld => ?_)
        · try dsimp only
          first | exact HSE.out | exact keepP HS5.out (show w.heap.size ≠ w.heap.size + 1 + 1 by omega) (show bb ≠ w.heap.size + 1 + 1 by omega) (fun q hq => Below.heap_setCell _ _ _ _ (by dsimp only; omega)) | exact keepE HSE.out (show w.heap.size < W0.heap.size by omega) (show bb < W0.heap.size by omega) (by go_grown)
        clear hK K
        try simp only [Act.put, List.setIfInBounds_toArray, List.set_cons_zero, List.set_cons_succ]
        refine wpAnyH_ready (rs := [9]) (by kernel_rfl) (by simp) ?_
        refine AllReadyH.cons (o := { dst := some 48, op := Go.Op.call { callee := Go.Callee.builtin Go.Builtin.append, args := #[Go.Operand.tmp 40, Go.Operand.tmp 47], argTypes := #[28, 28] }, type := 28, pos := "l4_forms.go:70", after := #[{ on := 1, ground := Go.Ground.data }, { on := 8, ground := Go.Ground.data }, { on := 7, ground := Go.Ground.chain }], guard := none }) rfl (fun K hK => ?_) AllReadyH.nil
        rw [if_pos (by rfl)]
        (refine oper_append _ _ _ rfl rfl rfl hr5 ?_)
        refine hK.out _ _ ?_ (fun hHeld => ?_)
        · try dsimp only
          first | exact HSE.out | exact keepP HS5.out (show w.heap.size ≠ w.heap.size + 1 + 1 by omega) (show bb ≠ w.heap.size + 1 + 1 by omega) (fun q hq => Below.heap_setCell _ _ _ _ (by dsimp only; omega)) | exact keepE HSE.out (show w.heap.size < W0.heap.size by omega) (show bb < W0.heap.size by omega) (by go_grown)
        clear hK K
        try simp only [Act.put, List.setIfInBounds_toArray, List.set_cons_zero, List.set_cons_succ]
        refine wpAnyH_take (i := 10) (oi := { dst := some 49, op := Go.Op.fieldAddr 30 (Go.Operand.tmp 3) 3, type := 0, pos := "l4_forms.go:70", after := #[{ on := 0, ground := Go.Ground.phase }, { on := 1, ground := Go.Ground.phase }, { on := 2, ground := Go.Ground.phase }, { on := 3, ground := Go.Ground.phase }, { on := 4, ground := Go.Ground.phase }, { on := 5, ground := Go.Ground.phase }, { on := 6, ground := Go.Ground.phase }, { on := 7, ground := Go.Ground.phase }, { on := 8, ground := Go.Ground.phase }, { on := 9, ground := Go.Ground.phase }], guard := none }) (v := ?_) rfl (by kernel_rfl) (by kernel_rfl) (by kernel_rfl) (fun _ _ _ h => h) (Or.inl ⟨by rfl, ?_⟩) (by assumption) ?_
        rotate_left
        · (intro w hSw; (try dsimp only at hSw); first | (go_simp; done) | (go_simp; with_reducible rfl))
        try simp only [Act.put, List.setIfInBounds_toArray, List.set_cons_zero, List.set_cons_succ]
        refine wpAnyH_ready (rs := [11]) (by kernel_rfl) (by simp) ?_
        refine AllReadyH.cons (o := { dst := none, op := Go.Op.store 28 (Go.Operand.tmp 49) (Go.Operand.tmp 48), type := 0, pos := "l4_forms.go:70", after := #[{ on := 10, ground := Go.Ground.data }, { on := 9, ground := Go.Ground.data }, { on := 9, ground := Go.Ground.chain }, { on := 0, ground := Go.Ground.phase }, { on := 1, ground := Go.Ground.phase }, { on := 2, ground := Go.Ground.phase }, { on := 3, ground := Go.Ground.phase }, { on := 4, ground := Go.Ground.phase }, { on := 5, ground := Go.Ground.phase }, { on := 6, ground := Go.Ground.phase }, { on := 7, ground := Go.Ground.phase }, { on := 8, ground := Go.Ground.phase }, { on := 9, ground := Go.Ground.phase }], guard := none }) rfl (fun K hK => ?_) AllReadyH.nil
        go_simp
        refine hK.out _ _ ?_ (fun hHeld => ?_)
        · try dsimp only
          first | exact HSE.out | exact keepP HS5.out (show w.heap.size ≠ w.heap.size + 1 + 1 by omega) (show bb ≠ w.heap.size + 1 + 1 by omega) (fun q hq => Below.heap_setCell _ _ _ _ (by dsimp only; omega)) | exact keepE HSE.out (show w.heap.size < W0.heap.size by omega) (show bb < W0.heap.size by omega) (by go_grown)
        clear hK K
        try simp only [Act.put, List.setIfInBounds_toArray, List.set_cons_zero, List.set_cons_succ]
        refine wpAnyH_done (by kernel_rfl) ?_ _
        have hst5 := mlst_low (mlst_below HST.out (w' := w4) (below_on (Below.drew (Below.refl _ _)) hb4)) hb5
        generalize hW6 : World.setCell _ _ _ = W6
        obtain ⟨hst6, hk6, hs6⟩ := mlst_put hst5 hW6
        have how6 := fown_put ho5 (by omega) (by omega) hk6 hs6
        have HN6 : Hid (LsR f (.slice (some ⟨bb, o, none⟩) f.len sc) bb o lo w W0 h h (.int .i64 ((k + 1 : Nat) : Int)) W6) := ⟨k + 1, pre0.app (.cons h' s' .nil), r', _, rfl, by rw [Fo.app_len, HPL.out]; rfl, by rw [Fo.app_assoc]; exact HAP.out, hrok.2, by rw [show o + (k + 1) * 10 = o + k * 10 + 10 by omega]; exact HR.out, hst6, by rw [sp_snoc]; exact how6⟩
        clear hW6 hst5 hst6 hk6 hs6 how6 ho5 hr5 hs4 HS4 hf5 he9 hd9 hb4 hb5 x0 c0 c1 c2 c3 c4 c5 c6 c7 c8 c9 y0 e0 e1 e2 e3 e4 e5 e6 e7 e8 e9 yf z0 d0 d1 d2 d3 d4 d5 d6 d7 d8 d9 zf hbl4 hbl5 HS5 HSE hbw
        go_wp2
        go_roundw
        case rel =>
          have e : ((k + 1 : Nat) : Int) = (k : Int) + 1 := by omega
          have h9 := HN6.out
          rw [e] at h9
          exact h9
        case measure => simp [intOf]; omega
      ·
        go_simp
        (go_at_call 74; refine HC.out.mono ?_; rintro e w4 ⟨s4, rfl, hs4, hb4⟩; have HS4 := Lib.hid hs4; obtain ⟨ga, gn, gc, rfl⟩ := hs4.slice; have hs44 : wr.heap.size ≤ w4.heap.size := hb4.size; have hlt4 : w.heap.size + 1 + 1 < w4.heap.size := (by omega); have hbl4 : Below W0.heap.size wr w4 := Below.mono (below_on (Below.drew (Below.refl _ _)) hb4) hsW; have hd9 : w4.cell? ⟨w.heap.size + 1 + 1, 9, none⟩ = some (.slice va k vc) := ((bcell hb4).1 _ 9 y0).trans e9; obtain ⟨v5, w5, hr5, ho5, hb5⟩ := fown_app (wa := wr.drew) (w4 := w4) (spF h' s').1 (spF h' s').2 ga gn gc (fown_below HOW.out (Below.drew (Below.refl _ _))) (by rw [HLV.out]; exact hlen1) (by omega) hb4 (FSP.kept (Nat.le_refl _) (fun _ _ _ => rfl) (fun q hq => ⟨Nat.le_trans hsW hq.1, .inr hq.1, hq.2⟩) (FSP.of HS4.out)); obtain ⟨a5, c5x, rfl⟩ := fown_slice ho5; rw [HLV.out] at hr5; have he9 : w5.cell? ⟨w.heap.size + 1 + 1, 9, none⟩ = some (.slice va k vc) := (World.cell?_of_block (a := ⟨w.heap.size + 1 + 1, 9, none⟩) (hb5.block _ hyy)).trans hd9; have hf5 : ∀ o, w5.frozen? ⟨w.heap.size + 1 + 1, o, none⟩ = false := (fun o => (World.frozen?_of_block (a := ⟨w.heap.size + 1 + 1, o, none⟩) (hb5.block _ hyy)).trans (((bcell hb4).2 _ o y0).trans (yf o))); have hbl5 : Below W0.heap.size wr w5 := hbl4.trans hb5; have HS5 := Lib.hid (keepE HSE.out (show w.heap.size < W0.heap.size by omega) (show bb < W0.heap.size by omega) hbl5))
        (try go_wp2_with fail)
        refine hK.out _ _ ?_ (fun hHeld => ?_)
        · try dsimp only
          first | exact HSE.out | exact keepP HS5.out (show w.heap.size ≠ w.heap.size + 1 + 1 by omega) (show bb ≠ w.heap.size + 1 + 1 by omega) (fun q hq => Below.heap_setCell _ _ _ _ (by dsimp only; omega)) | exact keepE HSE.out (show w.heap.size < W0.heap.size by omega) (show bb < W0.heap.size by omega) (by go_grown)
        clear hK K
        try simp only [Act.put, List.setIfInBounds_toArray, List.set_cons_zero, List.set_cons_succ]
        refine wpAnyH_ready (rs := [1, 8]) (by kernel_rfl) (by simp) ?_
        refine AllReadyH.cons (o := { dst := some 40, op := Go.Op.load 28 (Go.Operand.tmp 39), type := 28, pos := "l4_forms.go:70", after := #[{ on := 0, ground := Go.Ground.data }], guard := none }) rfl (fun K hK => ?_) (AllReadyH.cons (o := { dst := some 47, op := Go.Op.buildSlice 28 1 #[(0, Go.Operand.tmp 46)], type := 28, pos := "l4_forms.go:70", after := #[{ on := 7, ground := Go.Ground.data }], guard := none }) rfl (fun K hK => ?_) AllReadyH.nil)
        ·
          go_simp
          refine hK.out _ _ ?_ (fun hHeld => ?_)
          · try dsimp only
            first | exact HSE.out | exact keepP HS5.out (show w.heap.size ≠ w.heap.size + 1 + 1 by omega) (show bb ≠ w.heap.size + 1 + 1 by omega) (fun q hq => Below.heap_setCell _ _ _ _ (by dsimp only; omega)) | exact keepE HSE.out (show w.heap.size < W0.heap.size by omega) (show bb < W0.heap.size by omega) (by go_grown)
          clear hK K
          try simp only [Act.put, List.setIfInBounds_toArray, List.set_cons_zero, List.set_cons_succ]
          refine wpAnyH_ready (rs := [8]) (by kernel_rfl) (by simp) ?_
          refine AllReadyH.cons (o := { dst := some 47, op := Go.Op.buildSlice 28 1 #[(0, Go.Operand.tmp 46)], type := 28, pos := "l4_forms.go:70", after := #[{ on := 7, ground := Go.Ground.data }], guard := none }) rfl (fun K hK => ?_) AllReadyH.nil
          go_simp
          refine hK.out _ _ ?_ (fun hHeld => ?_)
          · try dsimp only
            first | exact HSE.out | exact keepP HS5.out (show w.heap.size ≠ w.heap.size + 1 + 1 by omega) (show bb ≠ w.heap.size + 1 + 1 by omega) (fun q hq => Below.heap_setCell _ _ _ _ (by dsimp only; omega)) | exact keepE HSE.out (show w.heap.size < W0.heap.size by omega) (show bb < W0.heap.size by omega) (by go_grown)
          clear hK K
          try simp only [Act.put, List.setIfInBounds_toArray, List.set_cons_zero, List.set_cons_succ]
          refine wpAnyH_ready (rs := [9]) (by kernel_rfl) (by simp) ?_
          refine AllReadyH.cons (o := { dst := some 48, op := Go.Op.call { callee := Go.Callee.builtin Go.Builtin.append, args := #[Go.Operand.tmp 40, Go.Operand.tmp 47], argTypes := #[28, 28] }, type := 28, pos := "l4_forms.go:70", after := #[{ on := 1, ground := Go.Ground.data }, { on := 8, ground := Go.Ground.data }, { on := 7, ground := Go.Ground.chain }], guard := none }) rfl (fun K hK => ?_) AllReadyH.nil
          rw [if_pos (by rfl)]
          (refine oper_append _ _ _ rfl rfl rfl hr5 ?_)
          refine hK.out _ _ ?_ (fun hHeld => ?_)
          · try dsimp only
            first | exact HSE.out | exact keepP HS5.out (show w.heap.size ≠ w.heap.size + 1 + 1 by omega) (show bb ≠ w.heap.size + 1 + 1 by omega) (fun q hq => Below.heap_setCell _ _ _ _ (by dsimp only; omega)) | exact keepE HSE.out (show w.heap.size < W0.heap.size by omega) (show bb < W0.heap.size by omega) (by go_grown)
          clear hK K
          try simp only [Act.put, List.setIfInBounds_toArray, List.set_cons_zero, List.set_cons_succ]
          refine wpAnyH_take (i := 10) (oi := { dst := some 49, op := Go.Op.fieldAddr 30 (Go.Operand.tmp 3) 3, type := 0, pos := "l4_forms.go:70", after := #[{ on := 0, ground := Go.Ground.phase }, { on := 1, ground := Go.Ground.phase }, { on := 2, ground := Go.Ground.phase }, { on := 3, ground := Go.Ground.phase }, { on := 4, ground := Go.Ground.phase }, { on := 5, ground := Go.Ground.phase }, { on := 6, ground := Go.Ground.phase }, { on := 7, ground := Go.Ground.phase }, { on := 8, ground := Go.Ground.phase }, { on := 9, ground := Go.Ground.phase }], guard := none }) (v := ?_) rfl (by kernel_rfl) (by kernel_rfl) (by kernel_rfl) (fun _ _ _ h => h) (Or.inl ⟨by rfl, ?_⟩) (by assumption) ?_
          rotate_left
          · (intro w hSw; (try dsimp only at hSw); first | (go_simp; done) | (go_simp; with_reducible rfl))
          try simp only [Act.put, List.setIfInBounds_toArray, List.set_cons_zero, List.set_cons_succ]
          refine wpAnyH_ready (rs := [11]) (by kernel_rfl) (by simp) ?_
          refine AllReadyH.cons (o := { dst := none, op := Go.Op.store 28 (Go.Operand.tmp 49) (Go.Operand.tmp 48), type := 0, pos := "l4_forms.go:70", after := #[{ on := 10, ground := Go.Ground.data }, { on := 9, ground := Go.Ground.data }, { on := 9, ground := Go.Ground.chain }, { on := 0, ground := Go.Ground.phase }, { on := 1, ground := Go.Ground.phase }, { on := 2, ground := Go.Ground.phase }, { on := 3, ground := Go.Ground.phase }, { on := 4, ground := Go.Ground.phase }, { on := 5, ground := Go.Ground.phase }, { on := 6, ground := Go.Ground.phase }, { on := 7, ground := Go.Ground.phase }, { on := 8, ground := Go.Ground.phase }, { on := 9, ground := Go.Ground.phase }], guard := none }) rfl (fun K hK => ?_) AllReadyH.nil
          go_simp
          refine hK.out _ _ ?_ (fun hHeld => ?_)
          · try dsimp only
            first | exact HSE.out | exact keepP HS5.out (show w.heap.size ≠ w.heap.size + 1 + 1 by omega) (show bb ≠ w.heap.size + 1 + 1 by omega) (fun q hq => Below.heap_setCell _ _ _ _ (by dsimp only; omega)) | exact keepE HSE.out (show w.heap.size < W0.heap.size by omega) (show bb < W0.heap.size by omega) (by go_grown)
          clear hK K
          try simp only [Act.put, List.setIfInBounds_toArray, List.set_cons_zero, List.set_cons_succ]
          refine wpAnyH_done (by kernel_rfl) ?_ _
          have hst5 := mlst_low (mlst_below HST.out (w' := w4) (below_on (Below.drew (Below.refl _ _)) hb4)) hb5
          generalize hW6 : World.setCell _ _ _ = W6
          obtain ⟨hst6, hk6, hs6⟩ := mlst_put hst5 hW6
          have how6 := fown_put ho5 (by omega) (by omega) hk6 hs6
          have HN6 : Hid (LsR f (.slice (some ⟨bb, o, none⟩) f.len sc) bb o lo w W0 h h (.int .i64 ((k + 1 : Nat) : Int)) W6) := ⟨k + 1, pre0.app (.cons h' s' .nil), r', _, rfl, by rw [Fo.app_len, HPL.out]; rfl, by rw [Fo.app_assoc]; exact HAP.out, hrok.2, by rw [show o + (k + 1) * 10 = o + k * 10 + 10 by omega]; exact HR.out, hst6, by rw [sp_snoc]; exact how6⟩
          clear hW6 hst5 hst6 hk6 hs6 how6 ho5 hr5 hs4 HS4 hf5 he9 hd9 hb4 hb5 x0 c0 c1 c2 c3 c4 c5 c6 c7 c8 c9 y0 e0 e1 e2 e3 e4 e5 e6 e7 e8 e9 yf z0 d0 d1 d2 d3 d4 d5 d6 d7 d8 d9 zf hbl4 hbl5 HS5 HSE hbw
          go_wp2
          go_roundw
          case rel =>
            have e : ((k + 1 : Nat) : Int) = (k : Int) + 1 := by omega
            have h9 := HN6.out
            rw [e] at h9
            exact h9
          case measure => simp [intOf]; omega
        ·
          go_simp
          refine hK.out _ _ ?_ (fun hHeld => ?_)
          · try dsimp only
            first | exact HSE.out | exact keepP HS5.out (show w.heap.size ≠ w.heap.size + 1 + 1 by omega) (show bb ≠ w.heap.size + 1 + 1 by omega) (fun q hq => Below.heap_setCell _ _ _ _ (by dsimp only; omega)) | exact keepE HSE.out (show w.heap.size < W0.heap.size by omega) (show bb < W0.heap.size by omega) (by go_grown)
          clear hK K
          try simp only [Act.put, List.setIfInBounds_toArray, List.set_cons_zero, List.set_cons_succ]
          refine wpAnyH_ready (rs := [1]) (by kernel_rfl) (by simp) ?_
          refine AllReadyH.cons (o := { dst := some 40, op := Go.Op.load 28 (Go.Operand.tmp 39), type := 28, pos := "l4_forms.go:70", after := #[{ on := 0, ground := Go.Ground.data }], guard := none }) rfl (fun K hK => ?_) AllReadyH.nil
          go_simp
          refine hK.out _ _ ?_ (fun hHeld => ?_)
          · try dsimp only
            first | exact HSE.out | exact keepP HS5.out (show w.heap.size ≠ w.heap.size + 1 + 1 by omega) (show bb ≠ w.heap.size + 1 + 1 by omega) (fun q hq => Below.heap_setCell _ _ _ _ (by dsimp only; omega)) | exact keepE HSE.out (show w.heap.size < W0.heap.size by omega) (show bb < W0.heap.size by omega) (by go_grown)
          clear hK K
          try simp only [Act.put, List.setIfInBounds_toArray, List.set_cons_zero, List.set_cons_succ]
          refine wpAnyH_ready (rs := [9]) (by kernel_rfl) (by simp) ?_
          refine AllReadyH.cons (o := { dst := some 48, op := Go.Op.call { callee := Go.Callee.builtin Go.Builtin.append, args := #[Go.Operand.tmp 40, Go.Operand.tmp 47], argTypes := #[28, 28] }, type := 28, pos := "l4_forms.go:70", after := #[{ on := 1, ground := Go.Ground.data }, { on := 8, ground := Go.Ground.data }, { on := 7, ground := Go.Ground.chain }], guard := none }) rfl (fun K hK => ?_) AllReadyH.nil
          rw [if_pos (by rfl)]
          (refine oper_append _ _ _ rfl rfl rfl hr5 ?_)
          refine hK.out _ _ ?_ (fun hHeld => ?_)
          · try dsimp only
            first | exact HSE.out | exact keepP HS5.out (show w.heap.size ≠ w.heap.size + 1 + 1 by omega) (show bb ≠ w.heap.size + 1 + 1 by omega) (fun q hq => Below.heap_setCell _ _ _ _ (by dsimp only; omega)) | exact keepE HSE.out (show w.heap.size < W0.heap.size by omega) (show bb < W0.heap.size by omega) (by go_grown)
          clear hK K
          try simp only [Act.put, List.setIfInBounds_toArray, List.set_cons_zero, List.set_cons_succ]
          refine wpAnyH_take (i := 10) (oi := { dst := some 49, op := Go.Op.fieldAddr 30 (Go.Operand.tmp 3) 3, type := 0, pos := "l4_forms.go:70", after := #[{ on := 0, ground := Go.Ground.phase }, { on := 1, ground := Go.Ground.phase }, { on := 2, ground := Go.Ground.phase }, { on := 3, ground := Go.Ground.phase }, { on := 4, ground := Go.Ground.phase }, { on := 5, ground := Go.Ground.phase }, { on := 6, ground := Go.Ground.phase }, { on := 7, ground := Go.Ground.phase }, { on := 8, ground := Go.Ground.phase }, { on := 9, ground := Go.Ground.phase }], guard := none }) (v := ?_) rfl (by kernel_rfl) (by kernel_rfl) (by kernel_rfl) (fun _ _ _ h => h) (Or.inl ⟨by rfl, ?_⟩) (by assumption) ?_
          rotate_left
          · (intro w hSw; (try dsimp only at hSw); first | (go_simp; done) | (go_simp; with_reducible rfl))
          try simp only [Act.put, List.setIfInBounds_toArray, List.set_cons_zero, List.set_cons_succ]
          refine wpAnyH_ready (rs := [11]) (by kernel_rfl) (by simp) ?_
          refine AllReadyH.cons (o := { dst := none, op := Go.Op.store 28 (Go.Operand.tmp 49) (Go.Operand.tmp 48), type := 0, pos := "l4_forms.go:70", after := #[{ on := 10, ground := Go.Ground.data }, { on := 9, ground := Go.Ground.data }, { on := 9, ground := Go.Ground.chain }, { on := 0, ground := Go.Ground.phase }, { on := 1, ground := Go.Ground.phase }, { on := 2, ground := Go.Ground.phase }, { on := 3, ground := Go.Ground.phase }, { on := 4, ground := Go.Ground.phase }, { on := 5, ground := Go.Ground.phase }, { on := 6, ground := Go.Ground.phase }, { on := 7, ground := Go.Ground.phase }, { on := 8, ground := Go.Ground.phase }, { on := 9, ground := Go.Ground.phase }], guard := none }) rfl (fun K hK => ?_) AllReadyH.nil
          go_simp
          refine hK.out _ _ ?_ (fun hHeld => ?_)
          · try dsimp only
            first | exact HSE.out | exact keepP HS5.out (show w.heap.size ≠ w.heap.size + 1 + 1 by omega) (show bb ≠ w.heap.size + 1 + 1 by omega) (fun q hq => Below.heap_setCell _ _ _ _ (by dsimp only; omega)) | exact keepE HSE.out (show w.heap.size < W0.heap.size by omega) (show bb < W0.heap.size by omega) (by go_grown)
          clear hK K
          try simp only [Act.put, List.setIfInBounds_toArray, List.set_cons_zero, List.set_cons_succ]
          refine wpAnyH_done (by kernel_rfl) ?_ _
          have hst5 := mlst_low (mlst_below HST.out (w' := w4) (below_on (Below.drew (Below.refl _ _)) hb4)) hb5
          generalize hW6 : World.setCell _ _ _ = W6
          obtain ⟨hst6, hk6, hs6⟩ := mlst_put hst5 hW6
          have how6 := fown_put ho5 (by omega) (by omega) hk6 hs6
          have HN6 : Hid (LsR f (.slice (some ⟨bb, o, none⟩) f.len sc) bb o lo w W0 h h (.int .i64 ((k + 1 : Nat) : Int)) W6) := ⟨k + 1, pre0.app (.cons h' s' .nil), r', _, rfl, by rw [Fo.app_len, HPL.out]; rfl, by rw [Fo.app_assoc]; exact HAP.out, hrok.2, by rw [show o + (k + 1) * 10 = o + k * 10 + 10 by omega]; exact HR.out, hst6, by rw [sp_snoc]; exact how6⟩
          clear hW6 hst5 hst6 hk6 hs6 how6 ho5 hr5 hs4 HS4 hf5 he9 hd9 hb4 hb5 x0 c0 c1 c2 c3 c4 c5 c6 c7 c8 c9 y0 e0 e1 e2 e3 e4 e5 e6 e7 e8 e9 yf z0 d0 d1 d2 d3 d4 d5 d6 d7 d8 d9 zf hbl4 hbl5 HS5 HSE hbw
          go_wp2
          go_roundw
          case rel =>
            have e : ((k + 1 : Nat) : Int) = (k : Int) + 1 := by omega
            have h9 := HN6.out
            rw [e] at h9
            exact h9
          case measure => simp [intOf]; omega

set_option maxRecDepth 10000 in
set_option maxHeartbeats 4000000 in
/-- An atom that is no equation. -/
theorem ls_else1 (h : FH) (f : Fo) (HF : ∀ h s, s.size < f.size → LsF h s) (hn : ¬ (h.k = 2 ∧ h.ak = 1)) (h2 : h.k = 2) : LsF h f := by
  intro ho hok w lo s hs
  have H := Lib.hid HF
  have HQ := Lib.hid (spF_else (h := h) (f := f) hn)
  obtain ⟨sa, sc, rfl⟩ := fs_len0 hs
  obtain ⟨bb, o, hel, hsh⟩ := fs_shape hs
  have HEL := Lib.hid hel
  have HSH := Lib.hid hsh
  have hlen := Fo.len_le f
  have hf6 : f.len ≤ 2 := by rcases own_kind ho with ⟨h, _⟩ | ⟨h, _⟩ | ⟨h, _⟩ <;> omega
  have b1 : ((h.ak : Int) == 1) = false := by rw [beq_eq_false_iff_ne]; exact fun e => hn ⟨h2, e⟩
  obtain ⟨kk, ak, am, a, bq, c, d, n, u⟩ := h
  dsimp only at h2 b1
  subst h2
  have HOK := Lib.hid hok
  clear HF hs hel hsh ho hok hn
  go_enter Try.func74, Try.ntmps74
  go_upto_region 4 with fail
  generalize hW0 : World.alloc _ _ = W0
  have hst : MlSt w W0 w.heap.size (w.heap.size + 1 + 1) (w.heap.size + 1) ⟨2, ak, am, a, bq, c, d, n, u⟩ ⟨2, ak, am, a, bq, c, d, n, u⟩ (.slice sa f.len sc) (.slice none 0 0) W0 := by
    have hz : w.heap.size + 1 + 1 < W0.heap.size := by subst hW0; simp only [World.size_alloc]; omega
    refine ⟨?_, ?_, ?_, ?_, ?_, ?_, Nat.le_refl _, by omega, by omega, by omega, by omega, by omega, by omega, by omega, by omega, by omega⟩
    · subst hW0; exact (by refine ⟨?_, ?_, ?_, ?_, ?_, ?_, ?_, ?_, ?_, ?_, ?_⟩ <;> first | (simp [go_sem]; done) | (simp; omega))
    · subst hW0; exact (by refine ⟨?_, ?_, ?_, ?_, ?_, ?_, ?_, ?_, ?_, ?_, ?_⟩ <;> first | (simp [go_sem]; done) | (simp; omega))
    · intro o; subst hW0; simp [go_sem]
    · subst hW0; exact (by refine ⟨?_, ?_, ?_, ?_, ?_, ?_, ?_, ?_, ?_, ?_, ?_⟩ <;> first | (simp [go_sem]; done) | (simp; omega))
    · intro o; subst hW0; simp [go_sem]
    · subst hW0; go_grown
  have HST := Lib.hid (show LsR f (.slice sa f.len sc) bb o lo w W0 ⟨2, ak, am, a, bq, c, d, n, u⟩ ⟨2, ak, am, a, bq, c, d, n, u⟩ (.int .i64 0) W0 from ⟨0, .nil, f, _, rfl, rfl, rfl, HOK.out, HEL.out, hst, fown_nil _ _ _⟩)
  clear hW0 hst
  clear b1
  go_wp2_with fail
  go_loopw [4] (fun i wr => LsR f (.slice sa f.len sc) bb o lo w W0 ⟨2, ak, am, a, bq, c, d, n, u⟩ ⟨2, ak, am, a, bq, c, d, n, u⟩ i wr) (fun i _ => f.len - (intOf i).toNat)
  case atStart => exact HST.out
  case round =>
    obtain ⟨k, pre0, r, v, rfl, hpl, hap, hrok, hr, hst, how⟩ := hrel
    clear HST
    have HAP := Lib.hid hap
    have HPL := Lib.hid hpl
    have HST := Lib.hid hst
    have HOW := Lib.hid how
    have hkf : k + r.len = f.len := by rw [← hap, Fo.app_len, hpl]
    have hszr : r.size ≤ f.size := by rw [← hap, size_app]; omega
    obtain ⟨va, vc, hv⟩ := fown_slice how
    subst hv
    have hlv : (pre0.sp).len = k := by rw [sp_len, hpl]
    obtain ⟨⟨x0, c0, c1, c2, c3, c4, c5, c6, c7, c8, c9⟩, ⟨y0, e0, e1, e2, e3, e4, e5, e6, e7, e8, e9⟩, yf, ⟨z0, d0, d1, d2, d3, d4, d5, d6, d7, d8, d9⟩, zf, hbw, hsW, _⟩ := id hst
    rw [hlv] at e9
    have HLV := Lib.hid hlv
    have hzz : w.heap.size + 1 < W0.heap.size := HST.out.2.2.2.2.2.2.2.2.2.2.2.2.1
    have hyy : w.heap.size + 1 + 1 < W0.heap.size := HST.out.2.2.2.2.2.2.2.2.2.2.2.1
    clear hap hpl hst how hlv
    cases r with
    | nil =>
      simp only [Fo.len] at hkf
      have hkl : ¬ (k : Int) < (f.len : Int) := by omega
      have e : pre0 = f := by have := HAP.out; rwa [Fo.app_nil] at this
      subst e
      obtain rfl : k = pre0.len := by omega
      go_wp2_with fail
      generalize hW7 : World.setCell _ _ _ = W7
      have hblk7 : ∀ x, x ≠ w.heap.size + 1 → W7.heap[x]? = wr.heap[x]? := fun x hx => by subst hW7; repeat rw [Below.heap_setCell _ _ _ _ (by dsimp only; omega)]
      have hsz7 : W7.heap.size = wr.heap.size := by subst hW7; simp [World.setCell]
      obtain ⟨hx7, hb7⟩ := put10b (g := ⟨2, ak, am, a, bq, c, d, n, u⟩) HST.out.2.2.2.1 hW7
      have hww7 := hbw.trans (hb7 w.heap.size (by omega))
      have HS7 := Lib.hid (FS.mono (lo' := w.heap.size) (by omega) (fown_fs (fown_put HOW.out (by omega) (by omega) hblk7 hsz7) (Nat.le_refl _)))
      obtain ⟨q0, k0, k1, k2, k3, k4, k5, k6, k7, k8, k9⟩ := hx7
      rw [HLV.out] at HS7
      (try simp only [Exit.inBlock, Exit.then])
      refine bodyPost_ret (v := .agg #[.int .i64 2, .int .i64 ak, .int .i64 am, .int .i64 a, .int .i64 bq, .int .i64 c, .int .i64 d, .int .i64 n, .int .i64 u, .slice va pre0.len vc]) ?_ rfl ⟨_, by rw [HQ.out], by rw [HQ.out]; exact HS7.out, hww7⟩
      rw [results_cell1 rfl]
      go_simp
    | cons h' s' r' =>
      simp only [Fo.len] at hkf
      simp only [Fo.size] at hszr
      simp only [Fo.okB, Bool.and_eq_true] at hrok
      have hkl : (k : Int) < (f.len : Int) := by omega
      have hk0 : (0 : Int) ≤ k := by omega
      obtain ⟨rfl, hcc2, hcc1, hlo, hbb⟩ := HSH.out (by omega)
      have hcc2' := hcc2
      unfold maxLen at hcc2'
      have HR := Lib.hid hr.2
      obtain ⟨⟨sl, hrow, hsl⟩, _⟩ := FEl.below hbw (Nat.le_refl _) hlo hbb hr
      obtain ⟨la, ln, lc, rfl⟩ : ∃ a n c, sl = .slice a n c := FS.slice (w := wr) (lo := lo) (f := s') hsl
      have HC := Lib.hid (H.out h' s' (by omega) hrok.1.1 hrok.1.2 wr.drew lo _ (FS.below (w := wr) (Below.drew (Below.refl _ _)) (Nat.le_refl _) hsl))
      have HSE := Lib.hid (show wr.cell? ⟨w.heap.size, 9, none⟩ = some (.slice (some ⟨bb, o, none⟩) f.len sc) ∧ FRow wr bb (o + k * 10) h' (.slice la ln lc) from ⟨c9, hrow⟩)
      clear hrow
      have hlen1 : k ≤ 1048576 := by omega
      clear hsl hr
      go_wp2_with fail
      refine wp_region_held_drew (S := (fun w' => w'.cell? ⟨w.heap.size, 9, none⟩ = some (.slice (some ⟨bb, o, none⟩) f.len sc) ∧ w'.cell? ⟨bb, o + k * 10, none⟩ = some (.int .i64 h'.k) ∧ w'.cell? ⟨bb, o + k * 10 + 1, none⟩ = some (.int .i64 h'.ak) ∧ w'.cell? ⟨bb, o + k * 10 + 2, none⟩ = some (.int .i64 h'.am) ∧ w'.cell? ⟨bb, o + k * 10 + 3, none⟩ = some (.int .i64 h'.a) ∧ w'.cell? ⟨bb, o + k * 10 + 4, none⟩ = some (.int .i64 h'.b) ∧ w'.cell? ⟨bb, o + k * 10 + 5, none⟩ = some (.int .i64 h'.c) ∧ w'.cell? ⟨bb, o + k * 10 + 6, none⟩ = some (.int .i64 h'.d) ∧ w'.cell? ⟨bb, o + k * 10 + 7, none⟩ = some (.int .i64 h'.n) ∧ w'.cell? ⟨bb, o + k * 10 + 8, none⟩ = some (.int .i64 h'.v) ∧ w'.cell? ⟨bb, o + k * 10 + 9, none⟩ = some (.slice la ln lc))) (by kernel_rfl) ?_ (fun hHeld => ?_)
      · try dsimp only
        first | exact HSE.out | exact keepP HS5.out (show w.heap.size ≠ w.heap.size + 1 + 1 by omega) (show bb ≠ w.heap.size + 1 + 1 by omega) (fun q hq => Below.heap_setCell _ _ _ _ (by dsimp only; omega)) | exact keepE HSE.out (show w.heap.size < W0.heap.size by omega) (show bb < W0.heap.size by omega) (by go_grown)
      refine wpAnyH_take (i := 0) (oi := { dst := some 39, op := Go.Op.fieldAddr 30 (Go.Operand.tmp 3) 3, type := 0, pos := "l4_forms.go:70", after := #[], guard := none }) (v := ?_) rfl (by kernel_rfl) (by kernel_rfl) (by kernel_rfl) (fun _ _ _ h => h) (Or.inl ⟨by rfl, ?_⟩) (by assumption) ?_
      rotate_left
      · (intro w hSw; (try dsimp only at hSw); first | (go_simp; done) | (go_simp; with_reducible rfl))
      try simp only [Act.put, List.setIfInBounds_toArray, List.set_cons_zero, List.set_cons_succ]
      refine wpAnyH_take (i := 2) (oi := { dst := some 41, op := Go.Op.fieldAddr 30 (Go.Operand.tmp 1) 3, type := 0, pos := "l4_forms.go:70", after := #[], guard := none }) (v := ?_) rfl (by kernel_rfl) (by kernel_rfl) (by kernel_rfl) (fun _ _ _ h => h) (Or.inl ⟨by rfl, ?_⟩) (by assumption) ?_
      rotate_left
      · (intro w hSw; (try dsimp only at hSw); first | (go_simp; done) | (go_simp; with_reducible rfl))
      try simp only [Act.put, List.setIfInBounds_toArray, List.set_cons_zero, List.set_cons_succ]
      refine wpAnyH_take (i := 3) (oi := { dst := some 42, op := Go.Op.load 28 (Go.Operand.tmp 41), type := 28, pos := "l4_forms.go:70", after := #[{ on := 2, ground := Go.Ground.data }], guard := none }) (v := ?_) rfl (by kernel_rfl) (by kernel_rfl) (by kernel_rfl) (fun _ _ _ h => h) (Or.inl ⟨by rfl, ?_⟩) (by assumption) ?_
      rotate_left
      · (intro w hSw; (try dsimp only at hSw); first | (go_simp; done) | (go_simp; with_reducible rfl))
      try simp only [Act.put, List.setIfInBounds_toArray, List.set_cons_zero, List.set_cons_succ]
      refine wpAnyH_take (i := 4) (oi := { dst := some 43, op := Go.Op.move (Go.Operand.tmp 4), type := 3, pos := "l4_forms.go:70", after := #[], guard := none }) (v := ?_) rfl (by kernel_rfl) (by kernel_rfl) (by kernel_rfl) (fun _ _ _ h => h) (Or.inl ⟨by rfl, ?_⟩) (by assumption) ?_
      rotate_left
      · (intro w hSw; (try dsimp only at hSw); first | (go_simp; done) | (go_simp; with_reducible rfl))
      try simp only [Act.put, List.setIfInBounds_toArray, List.set_cons_zero, List.set_cons_succ]
      refine wpAnyH_take (i := 5) (oi := { dst := some 44, op := Go.Op.indexAddr 28 (Go.Operand.tmp 42) (Go.Operand.tmp 43), type := 0, pos := "l4_forms.go:70", after := #[{ on := 3, ground := Go.Ground.data }, { on := 4, ground := Go.Ground.data }], guard := none }) (v := ?_) rfl (by kernel_rfl) (by kernel_rfl) (by kernel_rfl) (fun _ _ _ h => h) (Or.inl ⟨by rfl, ?_⟩) (by assumption) ?_
      rotate_left
      · (intro w hSw; (try dsimp only at hSw); first | (go_simp; done) | (go_simp; with_reducible rfl))
      try simp only [Act.put, List.setIfInBounds_toArray, List.set_cons_zero, List.set_cons_succ]
      refine wpAnyH_take (i := 6) (oi := { dst := some 45, op := Go.Op.load 30 (Go.Operand.tmp 44), type := 30, pos := "l4_forms.go:70", after := #[{ on := 5, ground := Go.Ground.data }], guard := none }) (v := ?_) rfl (by kernel_rfl) (by kernel_rfl) (by kernel_rfl) (fun _ _ _ h => h) (Or.inl ⟨by rfl, ?_⟩) (by assumption) ?_
      rotate_left
      · (intro w hSw; (try dsimp only at hSw); first | (go_simp; done) | (go_simp; with_reducible rfl))
      try simp only [Act.put, List.setIfInBounds_toArray, List.set_cons_zero, List.set_cons_succ]
      refine wpAnyH_ready (rs := [1, 7]) (by kernel_rfl) (by simp) ?_
      refine AllReadyH.cons (o := { dst := some 40, op := Go.Op.load 28 (Go.Operand.tmp 39), type := 28, pos := "l4_forms.go:70", after := #[{ on := 0, ground := Go.Ground.data }], guard := none }) rfl (fun K hK => ?_) (AllReadyH.cons (o := { dst := some 46, op := Go.Op.call { callee := Go.Callee.value (Go.Operand.func 74), args := #[Go.Operand.tmp 45], argTypes := #[30] }, type := 30, pos := "l4_forms.go:70", after := #[{ on := 6, ground := Go.Ground.data }], guard := none }) rfl (fun K hK => ?_) AllReadyH.nil)
      ·
        go_simp
        refine hK.out _ _ ?_ (fun hHeld => ?_)
        · try dsimp only
          first | exact HSE.out | exact keepP HS5.out (show w.heap.size ≠ w.heap.size + 1 + 1 by omega) (show bb ≠ w.heap.size + 1 + 1 by omega) (fun q hq => Below.heap_setCell _ _ _ _ (by dsimp only; omega)) | exact keepE HSE.out (show w.heap.size < W0.heap.size by omega) (show bb < W0.heap.size by omega) (by go_grown)
        clear hK K
        try simp only [Act.put, List.setIfInBounds_toArray, List.set_cons_zero, List.set_cons_succ]
        refine wpAnyH_ready (rs := [7]) (by kernel_rfl) (by simp) ?_
        refine AllReadyH.cons (o := { dst := some 46, op := Go.Op.call { callee := Go.Callee.value (Go.Operand.func 74), args := #[Go.Operand.tmp 45], argTypes := #[30] }, type := 30, pos := "l4_forms.go:70", after := #[{ on := 6, ground := Go.Ground.data }], guard := none }) rfl (fun K hK => ?_) AllReadyH.nil
        go_simp
        (go_at_call 74; refine HC.out.mono ?_; rintro e w4 ⟨s4, rfl, hs4, hb4⟩; have HS4 := Lib.hid hs4; obtain ⟨ga, gn, gc, rfl⟩ := hs4.slice; have hs44 : wr.heap.size ≤ w4.heap.size := hb4.size; have hlt4 : w.heap.size + 1 + 1 < w4.heap.size := (by omega); have hbl4 : Below W0.heap.size wr w4 := Below.mono (below_on (Below.drew (Below.refl _ _)) hb4) hsW; have hd9 : w4.cell? ⟨w.heap.size + 1 + 1, 9, none⟩ = some (.slice va k vc) := ((bcell hb4).1 _ 9 y0).trans e9; obtain ⟨v5, w5, hr5, ho5, hb5⟩ := fown_app (wa := wr.drew) (w4 := w4) (spF h' s').1 (spF h' s').2 ga gn gc (fown_below HOW.out (Below.drew (Below.refl _ _))) (by rw [HLV.out]; exact hlen1) (by omega) hb4 (FSP.kept (Nat.le_refl _) (fun _ _ _ => rfl) (fun q hq => ⟨Nat.le_trans hsW hq.1, .inr hq.1, hq.2⟩) (FSP.of HS4.out)); obtain ⟨a5, c5x, rfl⟩ := fown_slice ho5; rw [HLV.out] at hr5; have he9 : w5.cell? ⟨w.heap.size + 1 + 1, 9, none⟩ = some (.slice va k vc) := (World.cell?_of_block (a := ⟨w.heap.size + 1 + 1, 9, none⟩) (hb5.block _ hyy)).trans hd9; have hf5 : ∀ o, w5.frozen? ⟨w.heap.size + 1 + 1, o, none⟩ = false := (fun o => (World.frozen?_of_block (a := ⟨w.heap.size + 1 + 1, o, none⟩) (hb5.block _ hyy)).trans (((bcell hb4).2 _ o y0).trans (yf o))); have hbl5 : Below W0.heap.size wr w5 := hbl4.trans hb5; have HS5 := Lib.hid (keepE HSE.out (show w.heap.size < W0.heap.size by omega) (show bb < W0.heap.size by omega) hbl5))
        (try go_wp2_with fail)
        refine hK.out _ _ ?_ (fun hHeld => ?_)
        · try dsimp only
          first | exact HSE.out | exact keepP HS5.out (show w.heap.size ≠ w.heap.size + 1 + 1 by omega) (show bb ≠ w.heap.size + 1 + 1 by omega) (fun q hq => Below.heap_setCell _ _ _ _ (by dsimp only; omega)) | exact keepE HSE.out (show w.heap.size < W0.heap.size by omega) (show bb < W0.heap.size by omega) (by go_grown)
        clear hK K
        try simp only [Act.put, List.setIfInBounds_toArray, List.set_cons_zero, List.set_cons_succ]
        refine wpAnyH_ready (rs := [8]) (by kernel_rfl) (by simp) ?_
        refine AllReadyH.cons (o := { dst := some 47, op := Go.Op.buildSlice 28 1 #[(0, Go.Operand.tmp 46)], type := 28, pos := "l4_forms.go:70", after := #[{ on := 7, ground := Go.Ground.data }], guard := none }) rfl (fun K hK => ?_) AllReadyH.nil
        go_simp
        refine hK.out _ _ ?_ (fun hHeld => ?_)
        · try dsimp only
          first | exact HSE.out | exact keepP HS5.out (show w.heap.size ≠ w.heap.size + 1 + 1 by omega) (show bb ≠ w.heap.size + 1 + 1 by omega) (fun q hq => Below.heap_setCell _ _ _ _ (by dsimp only; omega)) | exact keepE HSE.out (show w.heap.size < W0.heap.size by omega) (show bb < W0.heap.size by omega) (by go_grown)
        clear hK K
        try simp only [Act.put, List.setIfInBounds_toArray, List.set_cons_zero, List.set_cons_succ]
        refine wpAnyH_ready (rs := [9]) (by kernel_rfl) (by simp) ?_
        refine AllReadyH.cons (o := { dst := some 48, op := Go.Op.call { callee := Go.Callee.builtin Go.Builtin.append, args := #[Go.Operand.tmp 40, Go.Operand.tmp 47], argTypes := #[28, 28] }, type := 28, pos := "l4_forms.go:70", after := #[{ on := 1, ground := Go.Ground.data }, { on := 8, ground := Go.Ground.data }, { on := 7, ground := Go.Ground.chain }], guard := none }) rfl (fun K hK => ?_) AllReadyH.nil
        rw [if_pos (by rfl)]
        (refine oper_append _ _ _ rfl rfl rfl hr5 ?_)
        refine hK.out _ _ ?_ (fun hHeld => ?_)
        · try dsimp only
          first | exact HSE.out | exact keepP HS5.out (show w.heap.size ≠ w.heap.size + 1 + 1 by omega) (show bb ≠ w.heap.size + 1 + 1 by omega) (fun q hq => Below.heap_setCell _ _ _ _ (by dsimp only; omega)) | exact keepE HSE.out (show w.heap.size < W0.heap.size by omega) (show bb < W0.heap.size by omega) (by go_grown)
        clear hK K
        try simp only [Act.put, List.setIfInBounds_toArray, List.set_cons_zero, List.set_cons_succ]
        refine wpAnyH_take (i := 10) (oi := { dst := some 49, op := Go.Op.fieldAddr 30 (Go.Operand.tmp 3) 3, type := 0, pos := "l4_forms.go:70", after := #[{ on := 0, ground := Go.Ground.phase }, { on := 1, ground := Go.Ground.phase }, { on := 2, ground := Go.Ground.phase }, { on := 3, ground := Go.Ground.phase }, { on := 4, ground := Go.Ground.phase }, { on := 5, ground := Go.Ground.phase }, { on := 6, ground := Go.Ground.phase }, { on := 7, ground := Go.Ground.phase }, { on := 8, ground := Go.Ground.phase }, { on := 9, ground := Go.Ground.phase }], guard := none }) (v := ?_) rfl (by kernel_rfl) (by kernel_rfl) (by kernel_rfl) (fun _ _ _ h => h) (Or.inl ⟨by rfl, ?_⟩) (by assumption) ?_
        rotate_left
        · (intro w hSw; (try dsimp only at hSw); first | (go_simp; done) | (go_simp; with_reducible rfl))
        try simp only [Act.put, List.setIfInBounds_toArray, List.set_cons_zero, List.set_cons_succ]
        refine wpAnyH_ready (rs := [11]) (by kernel_rfl) (by simp) ?_
        refine AllReadyH.cons (o := { dst := none, op := Go.Op.store 28 (Go.Operand.tmp 49) (Go.Operand.tmp 48), type := 0, pos := "l4_forms.go:70", after := #[{ on := 10, ground := Go.Ground.data }, { on := 9, ground := Go.Ground.data }, { on := 9, ground := Go.Ground.chain }, { on := 0, ground := Go.Ground.phase }, { on := 1, ground := Go.Ground.phase }, { on := 2, ground := Go.Ground.phase }, { on := 3, ground := Go.Ground.phase }, { on := 4, ground := Go.Ground.phase }, { on := 5, ground := Go.Ground.phase }, { on := 6, ground := Go.Ground.phase }, { on := 7, ground := Go.Ground.phase }, { on := 8, ground := Go.Ground.phase }, { on := 9, ground := Go.Ground.phase }], guard := none }) rfl (fun K hK => ?_) AllReadyH.nil
        go_simp
        refine hK.out _ _ ?_ (fun hHeld => ?_)
        · try dsimp only
          first | exact HSE.out | exact keepP HS5.out (show w.heap.size ≠ w.heap.size + 1 + 1 by omega) (show bb ≠ w.heap.size + 1 + 1 by omega) (fun q hq => Below.heap_setCell _ _ _ _ (by dsimp only; omega)) | exact keepE HSE.out (show w.heap.size < W0.heap.size by omega) (show bb < W0.heap.size by omega) (by go_grown)
        clear hK K
        try simp only [Act.put, List.setIfInBounds_toArray, List.set_cons_zero, List.set_cons_succ]
        refine wpAnyH_done (by kernel_rfl) ?_ _
        have hst5 := mlst_low (mlst_below HST.out (w' := w4) (below_on (Below.drew (Below.refl _ _)) hb4)) hb5
        generalize hW6 : World.setCell _ _ _ = W6
        obtain ⟨hst6, hk6, hs6⟩ := mlst_put hst5 hW6
        have how6 := fown_put ho5 (by omega) (by omega) hk6 hs6
        have HN6 : Hid (LsR f (.slice (some ⟨bb, o, none⟩) f.len sc) bb o lo w W0 ⟨2, ak, am, a, bq, c, d, n, u⟩ ⟨2, ak, am, a, bq, c, d, n, u⟩ (.int .i64 ((k + 1 : Nat) : Int)) W6) := ⟨k + 1, pre0.app (.cons h' s' .nil), r', _, rfl, by rw [Fo.app_len, HPL.out]; rfl, by rw [Fo.app_assoc]; exact HAP.out, hrok.2, by rw [show o + (k + 1) * 10 = o + k * 10 + 10 by omega]; exact HR.out, hst6, by rw [sp_snoc]; exact how6⟩
        clear hW6 hst5 hst6 hk6 hs6 how6 ho5 hr5 hs4 HS4 hf5 he9 hd9 hb4 hb5 x0 c0 c1 c2 c3 c4 c5 c6 c7 c8 c9 y0 e0 e1 e2 e3 e4 e5 e6 e7 e8 e9 yf z0 d0 d1 d2 d3 d4 d5 d6 d7 d8 d9 zf hbl4 hbl5 HS5 HSE hbw
        go_wp2
        go_roundw
        case rel =>
          have e : ((k + 1 : Nat) : Int) = (k : Int) + 1 := by omega
          have h9 := HN6.out
          rw [e] at h9
          exact h9
        case measure => simp [intOf]; omega
      ·
        go_simp
        (go_at_call 74; refine HC.out.mono ?_; rintro e w4 ⟨s4, rfl, hs4, hb4⟩; have HS4 := Lib.hid hs4; obtain ⟨ga, gn, gc, rfl⟩ := hs4.slice; have hs44 : wr.heap.size ≤ w4.heap.size := hb4.size; have hlt4 : w.heap.size + 1 + 1 < w4.heap.size := (by omega); have hbl4 : Below W0.heap.size wr w4 := Below.mono (below_on (Below.drew (Below.refl _ _)) hb4) hsW; have hd9 : w4.cell? ⟨w.heap.size + 1 + 1, 9, none⟩ = some (.slice va k vc) := ((bcell hb4).1 _ 9 y0).trans e9; obtain ⟨v5, w5, hr5, ho5, hb5⟩ := fown_app (wa := wr.drew) (w4 := w4) (spF h' s').1 (spF h' s').2 ga gn gc (fown_below HOW.out (Below.drew (Below.refl _ _))) (by rw [HLV.out]; exact hlen1) (by omega) hb4 (FSP.kept (Nat.le_refl _) (fun _ _ _ => rfl) (fun q hq => ⟨Nat.le_trans hsW hq.1, .inr hq.1, hq.2⟩) (FSP.of HS4.out)); obtain ⟨a5, c5x, rfl⟩ := fown_slice ho5; rw [HLV.out] at hr5; have he9 : w5.cell? ⟨w.heap.size + 1 + 1, 9, none⟩ = some (.slice va k vc) := (World.cell?_of_block (a := ⟨w.heap.size + 1 + 1, 9, none⟩) (hb5.block _ hyy)).trans hd9; have hf5 : ∀ o, w5.frozen? ⟨w.heap.size + 1 + 1, o, none⟩ = false := (fun o => (World.frozen?_of_block (a := ⟨w.heap.size + 1 + 1, o, none⟩) (hb5.block _ hyy)).trans (((bcell hb4).2 _ o y0).trans (yf o))); have hbl5 : Below W0.heap.size wr w5 := hbl4.trans hb5; have HS5 := Lib.hid (keepE HSE.out (show w.heap.size < W0.heap.size by omega) (show bb < W0.heap.size by omega) hbl5))
        (try go_wp2_with fail)
        refine hK.out _ _ ?_ (fun hHeld => ?_)
        · try dsimp only
          first | exact HSE.out | exact keepP HS5.out (show w.heap.size ≠ w.heap.size + 1 + 1 by omega) (show bb ≠ w.heap.size + 1 + 1 by omega) (fun q hq => Below.heap_setCell _ _ _ _ (by dsimp only; omega)) | exact keepE HSE.out (show w.heap.size < W0.heap.size by omega) (show bb < W0.heap.size by omega) (by go_grown)
        clear hK K
        try simp only [Act.put, List.setIfInBounds_toArray, List.set_cons_zero, List.set_cons_succ]
        refine wpAnyH_ready (rs := [1, 8]) (by kernel_rfl) (by simp) ?_
        refine AllReadyH.cons (o := { dst := some 40, op := Go.Op.load 28 (Go.Operand.tmp 39), type := 28, pos := "l4_forms.go:70", after := #[{ on := 0, ground := Go.Ground.data }], guard := none }) rfl (fun K hK => ?_) (AllReadyH.cons (o := { dst := some 47, op := Go.Op.buildSlice 28 1 #[(0, Go.Operand.tmp 46)], type := 28, pos := "l4_forms.go:70", after := #[{ on := 7, ground := Go.Ground.data }], guard := none }) rfl (fun K hK => ?_) AllReadyH.nil)
        ·
          go_simp
          refine hK.out _ _ ?_ (fun hHeld => ?_)
          · try dsimp only
            first | exact HSE.out | exact keepP HS5.out (show w.heap.size ≠ w.heap.size + 1 + 1 by omega) (show bb ≠ w.heap.size + 1 + 1 by omega) (fun q hq => Below.heap_setCell _ _ _ _ (by dsimp only; omega)) | exact keepE HSE.out (show w.heap.size < W0.heap.size by omega) (show bb < W0.heap.size by omega) (by go_grown)
          clear hK K
          try simp only [Act.put, List.setIfInBounds_toArray, List.set_cons_zero, List.set_cons_succ]
          refine wpAnyH_ready (rs := [8]) (by kernel_rfl) (by simp) ?_
          refine AllReadyH.cons (o := { dst := some 47, op := Go.Op.buildSlice 28 1 #[(0, Go.Operand.tmp 46)], type := 28, pos := "l4_forms.go:70", after := #[{ on := 7, ground := Go.Ground.data }], guard := none }) rfl (fun K hK => ?_) AllReadyH.nil
          go_simp
          refine hK.out _ _ ?_ (fun hHeld => ?_)
          · try dsimp only
            first | exact HSE.out | exact keepP HS5.out (show w.heap.size ≠ w.heap.size + 1 + 1 by omega) (show bb ≠ w.heap.size + 1 + 1 by omega) (fun q hq => Below.heap_setCell _ _ _ _ (by dsimp only; omega)) | exact keepE HSE.out (show w.heap.size < W0.heap.size by omega) (show bb < W0.heap.size by omega) (by go_grown)
          clear hK K
          try simp only [Act.put, List.setIfInBounds_toArray, List.set_cons_zero, List.set_cons_succ]
          refine wpAnyH_ready (rs := [9]) (by kernel_rfl) (by simp) ?_
          refine AllReadyH.cons (o := { dst := some 48, op := Go.Op.call { callee := Go.Callee.builtin Go.Builtin.append, args := #[Go.Operand.tmp 40, Go.Operand.tmp 47], argTypes := #[28, 28] }, type := 28, pos := "l4_forms.go:70", after := #[{ on := 1, ground := Go.Ground.data }, { on := 8, ground := Go.Ground.data }, { on := 7, ground := Go.Ground.chain }], guard := none }) rfl (fun K hK => ?_) AllReadyH.nil
          rw [if_pos (by rfl)]
          (refine oper_append _ _ _ rfl rfl rfl hr5 ?_)
          refine hK.out _ _ ?_ (fun hHeld => ?_)
          · try dsimp only
            first | exact HSE.out | exact keepP HS5.out (show w.heap.size ≠ w.heap.size + 1 + 1 by omega) (show bb ≠ w.heap.size + 1 + 1 by omega) (fun q hq => Below.heap_setCell _ _ _ _ (by dsimp only; omega)) | exact keepE HSE.out (show w.heap.size < W0.heap.size by omega) (show bb < W0.heap.size by omega) (by go_grown)
          clear hK K
          try simp only [Act.put, List.setIfInBounds_toArray, List.set_cons_zero, List.set_cons_succ]
          refine wpAnyH_take (i := 10) (oi := { dst := some 49, op := Go.Op.fieldAddr 30 (Go.Operand.tmp 3) 3, type := 0, pos := "l4_forms.go:70", after := #[{ on := 0, ground := Go.Ground.phase }, { on := 1, ground := Go.Ground.phase }, { on := 2, ground := Go.Ground.phase }, { on := 3, ground := Go.Ground.phase }, { on := 4, ground := Go.Ground.phase }, { on := 5, ground := Go.Ground.phase }, { on := 6, ground := Go.Ground.phase }, { on := 7, ground := Go.Ground.phase }, { on := 8, ground := Go.Ground.phase }, { on := 9, ground := Go.Ground.phase }], guard := none }) (v := ?_) rfl (by kernel_rfl) (by kernel_rfl) (by kernel_rfl) (fun _ _ _ h => h) (Or.inl ⟨by rfl, ?_⟩) (by assumption) ?_
          rotate_left
          · (intro w hSw; (try dsimp only at hSw); first | (go_simp; done) | (go_simp; with_reducible rfl))
          try simp only [Act.put, List.setIfInBounds_toArray, List.set_cons_zero, List.set_cons_succ]
          refine wpAnyH_ready (rs := [11]) (by kernel_rfl) (by simp) ?_
          refine AllReadyH.cons (o := { dst := none, op := Go.Op.store 28 (Go.Operand.tmp 49) (Go.Operand.tmp 48), type := 0, pos := "l4_forms.go:70", after := #[{ on := 10, ground := Go.Ground.data }, { on := 9, ground := Go.Ground.data }, { on := 9, ground := Go.Ground.chain }, { on := 0, ground := Go.Ground.phase }, { on := 1, ground := Go.Ground.phase }, { on := 2, ground := Go.Ground.phase }, { on := 3, ground := Go.Ground.phase }, { on := 4, ground := Go.Ground.phase }, { on := 5, ground := Go.Ground.phase }, { on := 6, ground := Go.Ground.phase }, { on := 7, ground := Go.Ground.phase }, { on := 8, ground := Go.Ground.phase }, { on := 9, ground := Go.Ground.phase }], guard := none }) rfl (fun K hK => ?_) AllReadyH.nil
          go_simp
          refine hK.out _ _ ?_ (fun hHeld => ?_)
          · try dsimp only
            first | exact HSE.out | exact keepP HS5.out (show w.heap.size ≠ w.heap.size + 1 + 1 by omega) (show bb ≠ w.heap.size + 1 + 1 by omega) (fun q hq => Below.heap_setCell _ _ _ _ (by dsimp only; omega)) | exact keepE HSE.out (show w.heap.size < W0.heap.size by omega) (show bb < W0.heap.size by omega) (by go_grown)
          clear hK K
          try simp only [Act.put, List.setIfInBounds_toArray, List.set_cons_zero, List.set_cons_succ]
          refine wpAnyH_done (by kernel_rfl) ?_ _
          have hst5 := mlst_low (mlst_below HST.out (w' := w4) (below_on (Below.drew (Below.refl _ _)) hb4)) hb5
          generalize hW6 : World.setCell _ _ _ = W6
          obtain ⟨hst6, hk6, hs6⟩ := mlst_put hst5 hW6
          have how6 := fown_put ho5 (by omega) (by omega) hk6 hs6
          have HN6 : Hid (LsR f (.slice (some ⟨bb, o, none⟩) f.len sc) bb o lo w W0 ⟨2, ak, am, a, bq, c, d, n, u⟩ ⟨2, ak, am, a, bq, c, d, n, u⟩ (.int .i64 ((k + 1 : Nat) : Int)) W6) := ⟨k + 1, pre0.app (.cons h' s' .nil), r', _, rfl, by rw [Fo.app_len, HPL.out]; rfl, by rw [Fo.app_assoc]; exact HAP.out, hrok.2, by rw [show o + (k + 1) * 10 = o + k * 10 + 10 by omega]; exact HR.out, hst6, by rw [sp_snoc]; exact how6⟩
          clear hW6 hst5 hst6 hk6 hs6 how6 ho5 hr5 hs4 HS4 hf5 he9 hd9 hb4 hb5 x0 c0 c1 c2 c3 c4 c5 c6 c7 c8 c9 y0 e0 e1 e2 e3 e4 e5 e6 e7 e8 e9 yf z0 d0 d1 d2 d3 d4 d5 d6 d7 d8 d9 zf hbl4 hbl5 HS5 HSE hbw
          go_wp2
          go_roundw
          case rel =>
            have e : ((k + 1 : Nat) : Int) = (k : Int) + 1 := by omega
            have h9 := HN6.out
            rw [e] at h9
            exact h9
          case measure => simp [intOf]; omega
        ·
          go_simp
          refine hK.out _ _ ?_ (fun hHeld => ?_)
          · try dsimp only
            first | exact HSE.out | exact keepP HS5.out (show w.heap.size ≠ w.heap.size + 1 + 1 by omega) (show bb ≠ w.heap.size + 1 + 1 by omega) (fun q hq => Below.heap_setCell _ _ _ _ (by dsimp only; omega)) | exact keepE HSE.out (show w.heap.size < W0.heap.size by omega) (show bb < W0.heap.size by omega) (by go_grown)
          clear hK K
          try simp only [Act.put, List.setIfInBounds_toArray, List.set_cons_zero, List.set_cons_succ]
          refine wpAnyH_ready (rs := [1]) (by kernel_rfl) (by simp) ?_
          refine AllReadyH.cons (o := { dst := some 40, op := Go.Op.load 28 (Go.Operand.tmp 39), type := 28, pos := "l4_forms.go:70", after := #[{ on := 0, ground := Go.Ground.data }], guard := none }) rfl (fun K hK => ?_) AllReadyH.nil
          go_simp
          refine hK.out _ _ ?_ (fun hHeld => ?_)
          · try dsimp only
            first | exact HSE.out | exact keepP HS5.out (show w.heap.size ≠ w.heap.size + 1 + 1 by omega) (show bb ≠ w.heap.size + 1 + 1 by omega) (fun q hq => Below.heap_setCell _ _ _ _ (by dsimp only; omega)) | exact keepE HSE.out (show w.heap.size < W0.heap.size by omega) (show bb < W0.heap.size by omega) (by go_grown)
          clear hK K
          try simp only [Act.put, List.setIfInBounds_toArray, List.set_cons_zero, List.set_cons_succ]
          refine wpAnyH_ready (rs := [9]) (by kernel_rfl) (by simp) ?_
          refine AllReadyH.cons (o := { dst := some 48, op := Go.Op.call { callee := Go.Callee.builtin Go.Builtin.append, args := #[Go.Operand.tmp 40, Go.Operand.tmp 47], argTypes := #[28, 28] }, type := 28, pos := "l4_forms.go:70", after := #[{ on := 1, ground := Go.Ground.data }, { on := 8, ground := Go.Ground.data }, { on := 7, ground := Go.Ground.chain }], guard := none }) rfl (fun K hK => ?_) AllReadyH.nil
          rw [if_pos (by rfl)]
          (refine oper_append _ _ _ rfl rfl rfl hr5 ?_)
          refine hK.out _ _ ?_ (fun hHeld => ?_)
          · try dsimp only
            first | exact HSE.out | exact keepP HS5.out (show w.heap.size ≠ w.heap.size + 1 + 1 by omega) (show bb ≠ w.heap.size + 1 + 1 by omega) (fun q hq => Below.heap_setCell _ _ _ _ (by dsimp only; omega)) | exact keepE HSE.out (show w.heap.size < W0.heap.size by omega) (show bb < W0.heap.size by omega) (by go_grown)
          clear hK K
          try simp only [Act.put, List.setIfInBounds_toArray, List.set_cons_zero, List.set_cons_succ]
          refine wpAnyH_take (i := 10) (oi := { dst := some 49, op := Go.Op.fieldAddr 30 (Go.Operand.tmp 3) 3, type := 0, pos := "l4_forms.go:70", after := #[{ on := 0, ground := Go.Ground.phase }, { on := 1, ground := Go.Ground.phase }, { on := 2, ground := Go.Ground.phase }, { on := 3, ground := Go.Ground.phase }, { on := 4, ground := Go.Ground.phase }, { on := 5, ground := Go.Ground.phase }, { on := 6, ground := Go.Ground.phase }, { on := 7, ground := Go.Ground.phase }, { on := 8, ground := Go.Ground.phase }, { on := 9, ground := Go.Ground.phase }], guard := none }) (v := ?_) rfl (by kernel_rfl) (by kernel_rfl) (by kernel_rfl) (fun _ _ _ h => h) (Or.inl ⟨by rfl, ?_⟩) (by assumption) ?_
          rotate_left
          · (intro w hSw; (try dsimp only at hSw); first | (go_simp; done) | (go_simp; with_reducible rfl))
          try simp only [Act.put, List.setIfInBounds_toArray, List.set_cons_zero, List.set_cons_succ]
          refine wpAnyH_ready (rs := [11]) (by kernel_rfl) (by simp) ?_
          refine AllReadyH.cons (o := { dst := none, op := Go.Op.store 28 (Go.Operand.tmp 49) (Go.Operand.tmp 48), type := 0, pos := "l4_forms.go:70", after := #[{ on := 10, ground := Go.Ground.data }, { on := 9, ground := Go.Ground.data }, { on := 9, ground := Go.Ground.chain }, { on := 0, ground := Go.Ground.phase }, { on := 1, ground := Go.Ground.phase }, { on := 2, ground := Go.Ground.phase }, { on := 3, ground := Go.Ground.phase }, { on := 4, ground := Go.Ground.phase }, { on := 5, ground := Go.Ground.phase }, { on := 6, ground := Go.Ground.phase }, { on := 7, ground := Go.Ground.phase }, { on := 8, ground := Go.Ground.phase }, { on := 9, ground := Go.Ground.phase }], guard := none }) rfl (fun K hK => ?_) AllReadyH.nil
          go_simp
          refine hK.out _ _ ?_ (fun hHeld => ?_)
          · try dsimp only
            first | exact HSE.out | exact keepP HS5.out (show w.heap.size ≠ w.heap.size + 1 + 1 by omega) (show bb ≠ w.heap.size + 1 + 1 by omega) (fun q hq => Below.heap_setCell _ _ _ _ (by dsimp only; omega)) | exact keepE HSE.out (show w.heap.size < W0.heap.size by omega) (show bb < W0.heap.size by omega) (by go_grown)
          clear hK K
          try simp only [Act.put, List.setIfInBounds_toArray, List.set_cons_zero, List.set_cons_succ]
          refine wpAnyH_done (by kernel_rfl) ?_ _
          have hst5 := mlst_low (mlst_below HST.out (w' := w4) (below_on (Below.drew (Below.refl _ _)) hb4)) hb5
          generalize hW6 : World.setCell _ _ _ = W6
          obtain ⟨hst6, hk6, hs6⟩ := mlst_put hst5 hW6
          have how6 := fown_put ho5 (by omega) (by omega) hk6 hs6
          have HN6 : Hid (LsR f (.slice (some ⟨bb, o, none⟩) f.len sc) bb o lo w W0 ⟨2, ak, am, a, bq, c, d, n, u⟩ ⟨2, ak, am, a, bq, c, d, n, u⟩ (.int .i64 ((k + 1 : Nat) : Int)) W6) := ⟨k + 1, pre0.app (.cons h' s' .nil), r', _, rfl, by rw [Fo.app_len, HPL.out]; rfl, by rw [Fo.app_assoc]; exact HAP.out, hrok.2, by rw [show o + (k + 1) * 10 = o + k * 10 + 10 by omega]; exact HR.out, hst6, by rw [sp_snoc]; exact how6⟩
          clear hW6 hst5 hst6 hk6 hs6 how6 ho5 hr5 hs4 HS4 hf5 he9 hd9 hb4 hb5 x0 c0 c1 c2 c3 c4 c5 c6 c7 c8 c9 y0 e0 e1 e2 e3 e4 e5 e6 e7 e8 e9 yf z0 d0 d1 d2 d3 d4 d5 d6 d7 d8 d9 zf hbl4 hbl5 HS5 HSE hbw
          go_wp2
          go_roundw
          case rel =>
            have e : ((k + 1 : Nat) : Int) = (k : Int) + 1 := by omega
            have h9 := HN6.out
            rw [e] at h9
            exact h9
          case measure => simp [intOf]; omega

theorem ls_any : ∀ (N : Nat) (h : FH) (f : Fo), f.size ≤ N → LsF h f := by
  intro N
  induction N with
  | zero =>
    intro h f hf
    have HF : ∀ h' s', s'.size < f.size → LsF h' s' := fun _ _ h9 => absurd h9 (by omega)
    by_cases h2 : h.k = 2
    · by_cases h1 : h.ak = 1
      · exact ls_eq h f h2 h1
      · exact ls_else1 h f HF (fun e => h1 e.2) h2
    · exact ls_else2 h f HF (fun e => h2 e.1) h2
  | succ N ih =>
    intro h f hf
    have HF : ∀ h' s', s'.size < f.size → LsF h' s' := fun h' s' h9 => ih h' s' (by omega)
    by_cases h2 : h.k = 2
    · by_cases h1 : h.ak = 1
      · exact ls_eq h f h2 h1
      · exact ls_else1 h f HF (fun e => h1 e.2) h2
    · exact ls_else2 h f HF (fun e => h2 e.1) h2

end Go.Proofs.Ytahilpccnabbgaa

/- The contract of the model's SplitFormula. -/
namespace Go.Proofs.Ytahilpccnabbgaa
open Go.RowKit

set_option maxRecDepth 10000 in
set_option maxHeartbeats 2000000 in
theorem rawSplitFormula_any (h : FH) (f : Fo) (w : World) (lo : Nat) (s : Value) (hs : FS w lo f s) : Calls Try.prog 45 #[.agg #[.int .i64 h.k, .int .i64 h.ak, .int .i64 h.am, .int .i64 h.a, .int .i64 h.b, .int .i64 h.c, .int .i64 h.d, .int .i64 h.n, .int .i64 h.v, s]] w (RqT (okQ (spB h f) (spF h f).1 (spF h f).2) (spB h f) w.heap.size w) := by
  have HSS := Lib.hid (fun W hW => FS.below (w := w) (w' := W) hW (Nat.le_refl _) hs)
  have HV := Lib.hid (fun W l t hs => specFormulaValid_any h f W l t hs)
  obtain ⟨sa0, sn0, sc0, rfl⟩ := hs.slice
  have hnn : spB h f = (vfB h f && vfB (spF h f).1 (spF h f).2) := rfl
  clear hs
  cases hv : vfB h f with
  | false =>
    rw [hv] at hnn HV
    simp only [Bool.false_and] at hnn
    rw [hnn]
    clear hv hnn
    go_enter Try.func45, Try.ntmps45
    go_wp2_with fail
    generalize hW : World.alloc _ _ = W
    have hw : Below w.heap.size w W := by subst hW; go_grown
    have hy : C10 W w.heap.size h (.slice sa0 sn0 sc0) := by subst hW; exact (by refine ⟨?_, ?_, ?_, ?_, ?_, ?_, ?_, ?_, ?_, ?_, ?_⟩ <;> first | (simp [go_sem]; done) | (simp; omega))
    have fy : ∀ o, W.frozen? ⟨w.heap.size, o, none⟩ = false := fun o => by subst hW; simp [go_sem]
    have hx : C10 W (w.heap.size + 1) ⟨0, 0, 0, 0, 0, 0, 0, 0, 0⟩ (.slice none 0 0) := by subst hW; exact (by refine ⟨?_, ?_, ?_, ?_, ?_, ?_, ?_, ?_, ?_, ?_, ?_⟩ <;> first | (simp [go_sem]; done) | (simp; omega))
    have hf : ∀ o, W.frozen? ⟨w.heap.size + 1, o, none⟩ = false := fun o => by subst hW; simp [go_sem]
    have hws : w.heap.size + 1 < W.heap.size := hx.1
    clear hW
    refine (HV.out W _ _ (HSS.out W hw)).mono ?_
    rintro e w4 ⟨rfl, hb4⟩
    have hz4 := c10_on hx hb4
    have fz4 : ∀ o, w4.frozen? ⟨w.heap.size + 1, o, none⟩ = false := fun o => ((bcell hb4).2 _ o hx.1).trans (hf o)
    have hw4 := below_on hw hb4
    clear hx hf hw hb4 hy fy
    obtain ⟨z0, e0, e1, e2, e3, e4, e5, e6, e7, e8, e9⟩ := id hz4
    go_upto_region 30 with fail
    generalize hW7 : World.setCell _ _ _ = W7
    obtain ⟨hz7, _, _, _⟩ := ten_set (g := ⟨0, 0, 0, 0, 0, 0, 0, 0, 0⟩) hz4 hW7
    have hw7 : Below w.heap.size w W7 := hw4.trans ((put10b (g := ⟨0, 0, 0, 0, 0, 0, 0, 0, 0⟩) hz4 hW7).2 w.heap.size (by omega))
    obtain ⟨y0, y1, y2, y3, y4, y5, y6, y7, y8, y9, y10⟩ := hz7
    clear hW7 z0 e0 e1 e2 e3 e4 e5 e6 e7 e8 e9
    go_wp2
    refine bodyPost_ret (v := .tuple #[.agg #[.int .i64 0, .int .i64 0, .int .i64 0, .int .i64 0, .int .i64 0, .int .i64 0, .int .i64 0, .int .i64 0, .int .i64 0, .slice none 0 0], .bool false]) (by simp [results, Try.results45, go_sem, y1, y2, y3, y4, y5, y6, y7, y8, y9, y10]) rfl ⟨_, rfl, fs_none _ _, hw7⟩
  | true =>
    rw [hv] at hnn HV
    simp only [Bool.true_and] at hnn
    have hvp := vf_parts hv
    have HN := Lib.hid (fun W l t hs => ls_any f.size h f (Nat.le_refl _) hvp.1 hvp.2.1 W l t hs)
    obtain ⟨q, hq⟩ : ∃ q, (spF h f) = q := ⟨_, rfl⟩
    obtain ⟨ok, hok⟩ : ∃ ok, spB h f = ok := ⟨_, rfl⟩
    have HL := Lib.hid (fun W l t hs => l3Valid_u (spF h f).1 (spF h f).2 W l t true ok hs (by rw [Bool.true_and, ← hnn, hok]))
    rw [hok]
    rw [hq] at HN HL ⊢
    obtain ⟨p, hp⟩ : ∃ p, okQ ok q.1 q.2 = p := ⟨_, rfl⟩
    rw [hp] at HL ⊢
    clear hv hnn hvp hq hok hp
    go_enter Try.func45, Try.ntmps45
    go_wp2_with fail
    generalize hW : World.alloc _ _ = W
    have hw : Below w.heap.size w W := by subst hW; go_grown
    have hy : C10 W w.heap.size h (.slice sa0 sn0 sc0) := by subst hW; exact (by refine ⟨?_, ?_, ?_, ?_, ?_, ?_, ?_, ?_, ?_, ?_, ?_⟩ <;> first | (simp [go_sem]; done) | (simp; omega))
    have fy : ∀ o, W.frozen? ⟨w.heap.size, o, none⟩ = false := fun o => by subst hW; simp [go_sem]
    have hx : C10 W (w.heap.size + 1) ⟨0, 0, 0, 0, 0, 0, 0, 0, 0⟩ (.slice none 0 0) := by subst hW; exact (by refine ⟨?_, ?_, ?_, ?_, ?_, ?_, ?_, ?_, ?_, ?_, ?_⟩ <;> first | (simp [go_sem]; done) | (simp; omega))
    have hf : ∀ o, W.frozen? ⟨w.heap.size + 1, o, none⟩ = false := fun o => by subst hW; simp [go_sem]
    have hws : w.heap.size + 1 < W.heap.size := hx.1
    clear hW
    refine (HV.out W _ _ (HSS.out W hw)).mono ?_
    rintro e w3 ⟨rfl, hb3⟩
    obtain ⟨y0, d0, d1, d2, d3, d4, d5, d6, d7, d8, d9⟩ := c10_on hy hb3
    have HS3 := Lib.hid (FS.below hb3 (Nat.le_refl _) (HSS.out W hw))
    have hx3 := c10_on hx hb3
    have fx3 : ∀ o, w3.frozen? ⟨w.heap.size + 1, o, none⟩ = false := fun o => ((bcell hb3).2 _ o hx.1).trans (hf o)
    have hw3 := below_on hw hb3
    have hsw3 : W.heap.size ≤ w3.heap.size := hb3.size
    clear hx hf hw hb3 hy fy
    go_wp2_with fail
    refine (HN.out w3 _ _ HS3.out).mono ?_
    rintro e w5 ⟨s5, rfl, hs5, hb5⟩
    obtain ⟨ta, tn, tc, rfl⟩ := hs5.slice
    have HS5 := Lib.hid hs5
    go_wp2_with fail
    refine (HL.out w5 _ _ HS5.out).mono ?_
    rintro e w4 ⟨s4, rfl, hs4, hb4⟩
    obtain ⟨ua, un, uc, rfl⟩ := hs4.slice
    have HS4 := Lib.hid hs4
    have hb34 := below_on hb5 hb4
    have hz4 := c10_on hx3 hb34
    have fz4 : ∀ o, w4.frozen? ⟨w.heap.size + 1, o, none⟩ = false := fun o => ((bcell hb34).2 _ o hx3.1).trans (fx3 o)
    have hw4 := below_on hw3 hb34
    clear hs5 hb5 hs4 hb4 hb34 hx3 fx3 hw3 d0 d1 d2 d3 d4 d5 d6 d7 d8 d9
    obtain ⟨z0, e0, e1, e2, e3, e4, e5, e6, e7, e8, e9⟩ := id hz4
    go_upto_region 30 with fail
    generalize hW7 : World.setCell _ _ _ = W7
    obtain ⟨hz7, hk7, hs7, _⟩ := ten_set (g := p.1) hz4 hW7
    have hw7 : Below w.heap.size w W7 := hw4.trans ((put10b (g := p.1) hz4 hW7).2 w.heap.size (by omega))
    obtain ⟨y0, y1, y2, y3, y4, y5, y6, y7, y8, y9, y10⟩ := hz7
    have HS7 := Lib.hid (FS.mono (lo' := w.heap.size) (by omega) (FS.kept (w' := W7) (Nat.le_of_eq hs7.symm) (fun k hk _ => hk7 k (by omega)) HS4.out))
    clear hW7 hk7 hs7 z0 e0 e1 e2 e3 e4 e5 e6 e7 e8 e9
    go_wp2
    refine bodyPost_ret (v := .tuple #[.agg #[.int .i64 p.1.k, .int .i64 p.1.ak, .int .i64 p.1.am, .int .i64 p.1.a, .int .i64 p.1.b, .int .i64 p.1.c, .int .i64 p.1.d, .int .i64 p.1.n, .int .i64 p.1.v, .slice ua un uc], .bool ok]) (by simp [results, Try.results45, go_sem, y1, y2, y3, y4, y5, y6, y7, y8, y9, y10]) rfl ⟨_, rfl, HS7.out, hw7⟩

set_option maxRecDepth 10000 in
set_option maxHeartbeats 2000000 in
theorem specSplitFormula_any (h : FH) (f : Fo) (w : World) (lo : Nat) (s : Value) (hs : FS w lo f s) : Calls Try.prog 24 #[.agg #[.int .i64 h.k, .int .i64 h.ak, .int .i64 h.am, .int .i64 h.a, .int .i64 h.b, .int .i64 h.c, .int .i64 h.d, .int .i64 h.n, .int .i64 h.v, s]] w (FrT (okQ (spB h f) (spF h f).1 (spF h f).2) (spB h f) w) := by
  have HR := Lib.hid (fun W hW => rawSplitFormula_any h f W lo s (FS.below (w := w) hW (Nat.le_refl _) hs))
  have hqz := okQ_size (spB h f) (spF h f).1 (spF h f).2 (fun e => by simp only [Bool.and_eq_true, spB] at e; exact e.2)
  obtain ⟨q, hq⟩ : ∃ q, okQ (spB h f) (spF h f).1 (spF h f).2 = q := ⟨_, rfl⟩
  obtain ⟨ok, hok⟩ : ∃ ok, spB h f = ok := ⟨_, rfl⟩
  rw [hq] at HR hqz ⊢
  rw [hok] at HR ⊢
  have HO := Lib.hid (fun W l t hs => olF_any q.1 q.2 W l t (by omega) hs)
  obtain ⟨sa0, sn0, sc0, rfl⟩ := hs.slice
  clear hs hq hok hqz
  go_enter Try.func24, Try.ntmps24
  go_wp2_with fail
  generalize hW : World.alloc _ _ = W
  have hw : Below w.heap.size w W := by subst hW; go_grown
  have hx : C10 W (w.heap.size + 1) ⟨0, 0, 0, 0, 0, 0, 0, 0, 0⟩ (.slice none 0 0) := by subst hW; exact (by refine ⟨?_, ?_, ?_, ?_, ?_, ?_, ?_, ?_, ?_, ?_, ?_⟩ <;> first | (simp [go_sem]; done) | (simp; omega))
  have hf : ∀ o, W.frozen? ⟨w.heap.size + 1, o, none⟩ = false := fun o => by subst hW; simp [go_sem]
  clear hW
  refine (HR.out W hw).mono ?_
  rintro e w1 ⟨s1, rfl, hs1, hb1⟩
  obtain ⟨ra, rn, rc, rfl⟩ := hs1.slice
  have HS1 := Lib.hid hs1
  clear hs1
  go_wp2_with fail
  generalize hW2 : World.alloc _ _ = W2
  have hb12 : Below w1.heap.size w1 W2 := by subst hW2; go_grown
  have HO2 := Lib.hid (HO.out W2 _ _ (FS.below hb12 (Nat.le_refl _) HS1.out))
  have hbW2 := below_on hb1 hb12
  clear hW2 hb1 hb12
  refine HO2.out.mono ?_
  rintro e w3 ⟨s3, rfl, hs3, hb23⟩
  obtain ⟨sa, sn, sc, rfl⟩ := hs3.slice
  have HS3 := Lib.hid hs3
  have hsW2 := hbW2.size
  have hb3 := below_on hbW2 hb23
  clear hbW2 hb23 hs3 HO2
  have hx3 := c10_on hx hb3
  have hf3 : ∀ o, w3.frozen? ⟨w.heap.size + 1, o, none⟩ = false := fun o => ((bcell hb3).2 _ o hx.1).trans (hf o)
  have hw3 := below_on hw hb3
  have hws : w.heap.size + 1 < W.heap.size := hx.1
  obtain ⟨x0, c0, c1, c2, c3, c4, c5, c6, c7, c8, c9⟩ := id hx3
  clear hb3 hx hf hw
  go_upto_region 20 with fail
  generalize hW7 : World.setCell _ _ _ = W7
  have hblk7 : ∀ x, x ≠ w.heap.size + 1 → W7.heap[x]? = w3.heap[x]? := fun x hx => by subst hW7; repeat rw [Below.heap_setCell _ _ _ _ (by dsimp only; omega)]
  have hsz7 : W7.heap.size = w3.heap.size := by subst hW7; simp [World.setCell]
  obtain ⟨hx7, hb7⟩ := put10b (g := q.1) hx3 hW7
  have hww7 := hw3.trans (hb7 w.heap.size (by omega))
  have HS7 : Hid (SF W7 w.heap.size W7.heap.size q.2 (.slice sa sn sc)) := by
    have h0 := SF.same (w' := W7) (fun x h1 _ => hblk7 x (by have h2 : W2.heap.size ≤ x := h1; omega)) HS3.out
    exact SF.mono (by omega) (by omega) h0
  obtain ⟨z0, k1, k2, k3, k4, k5, k6, k7, k8, k9, k10⟩ := hx7
  clear hW7 x0 c0 c1 c2 c3 c4 c5 c6 c7 c8 c9 hblk7 hsz7
  go_wp2
  refine bodyPost_ret (v := .tuple #[.agg #[.int .i64 q.1.k, .int .i64 q.1.ak, .int .i64 q.1.am, .int .i64 q.1.a, .int .i64 q.1.b, .int .i64 q.1.c, .int .i64 q.1.d, .int .i64 q.1.n, .int .i64 q.1.v, .slice sa sn sc], .bool ok]) (by simp [results, Try.results24, go_sem, k1, k2, k3, k4, k5, k6, k7, k8, k9, k10]) rfl ⟨_, rfl, HS7.out, hww7⟩

end Go.Proofs.Ytahilpccnabbgaa

/- The walk of the law that says that SplitFormula answers as its model does. -/
namespace Go.Proofs.Ytahilpccnabbgaa
open Go.RowKit

theorem keep20SplitFormula {W w' : World} {x y : Nat} {h : FH} {s s' : Value} (hx : C10 W x h s) (hy : C10 W y h s') (hB : Below W.heap.size W w') :
    Below W.heap.size W w' ∧ (w'.cell? ⟨x, 0, none⟩ = some (.int .i64 h.k) ∧ w'.cell? ⟨x, 1, none⟩ = some (.int .i64 h.ak) ∧ w'.cell? ⟨x, 2, none⟩ = some (.int .i64 h.am) ∧ w'.cell? ⟨x, 3, none⟩ = some (.int .i64 h.a) ∧ w'.cell? ⟨x, 4, none⟩ = some (.int .i64 h.b) ∧ w'.cell? ⟨x, 5, none⟩ = some (.int .i64 h.c) ∧ w'.cell? ⟨x, 6, none⟩ = some (.int .i64 h.d) ∧ w'.cell? ⟨x, 7, none⟩ = some (.int .i64 h.n) ∧ w'.cell? ⟨x, 8, none⟩ = some (.int .i64 h.v) ∧ w'.cell? ⟨x, 9, none⟩ = some (s)) ∧ (w'.cell? ⟨y, 0, none⟩ = some (.int .i64 h.k) ∧ w'.cell? ⟨y, 1, none⟩ = some (.int .i64 h.ak) ∧ w'.cell? ⟨y, 2, none⟩ = some (.int .i64 h.am) ∧ w'.cell? ⟨y, 3, none⟩ = some (.int .i64 h.a) ∧ w'.cell? ⟨y, 4, none⟩ = some (.int .i64 h.b) ∧ w'.cell? ⟨y, 5, none⟩ = some (.int .i64 h.c) ∧ w'.cell? ⟨y, 6, none⟩ = some (.int .i64 h.d) ∧ w'.cell? ⟨y, 7, none⟩ = some (.int .i64 h.n) ∧ w'.cell? ⟨y, 8, none⟩ = some (.int .i64 h.v) ∧ w'.cell? ⟨y, 9, none⟩ = some (s')) :=
  ⟨hB, (c10_on hx hB).2, (c10_on hy hB).2⟩

set_option maxRecDepth 100000 in
set_option maxHeartbeats 4000000 in
theorem exactSplitFormula_walk (h : FH) (f : Fo) (w : World) (lo : Nat) (s : Value) (hs : FS w lo f s) :
    Calls Try.prog 6 #[.agg #[.int .i64 h.k, .int .i64 h.ak, .int .i64 h.am, .int .i64 h.a, .int .i64 h.b, .int .i64 h.c, .int .i64 h.d, .int .i64 h.n, .int .i64 h.v, s]] w fun e w' => e = .returned (.bool true) ∧ Below w.heap.size w w' := by
  have HS := Lib.hid hs
  obtain ⟨sa, sn, sc, rfl⟩ := hs.slice
  clear hs
  by_cases hsz : f.size ≤ 1048576
  · have HZ : Hid (szI f.size 1048576 = ((1048576 - f.size : Nat) : Int)) := szI_pos hsz
    obtain ⟨l, hl⟩ : ∃ l : Nat, 1048576 - f.size = l := ⟨_, rfl⟩
    rw [hl] at HZ
    have hl0 : ¬ (l : Int) < 0 := by omega
    have HSZ := Lib.hid hsz
    have hq6 := okQ_size (spB h f) (spF h f).1 (spF h f).2 (fun e => by simp only [Bool.and_eq_true, spB] at e; exact e.2)
    have HSP := Lib.hid (fun V lo s hs => specSplitFormula_any h f V lo s hs)
    have HIM := Lib.hid (fun V lo s hs => SplitFormula_any h f V lo s hs)
    obtain ⟨q, hq⟩ : ∃ q, okQ (spB h f) (spF h f).1 (spF h f).2 = q := ⟨_, rfl⟩
    obtain ⟨tt, htt⟩ : ∃ tt, spB h f = tt := ⟨_, rfl⟩
    rw [hq] at hq6 HSP HIM
    rw [htt] at HSP HIM
    clear hl hq htt
    go_enter Try.func6, Try.ntmps6
    go_wp2_with fail
    generalize hW : World.alloc _ _ = w1
    have hb1 : Below w.heap.size w w1 := by subst hW; go_grown
    have xX1 : C10 w1 w.heap.size h (.slice sa sn sc) := by subst hW; exact (by refine ⟨?_, ?_, ?_, ?_, ?_, ?_, ?_, ?_, ?_, ?_, ?_⟩ <;> first | (simp [go_sem]; done) | (simp; omega))
    clear hW
    have HB1 := Lib.hid hb1
    have hs1 := hb1.size
    have hX := xX1.1
    clear hb1
    refine (szF_any h f w1 lo _ 1048576 (Nat.le_refl _) (FS.below HB1.out (Nat.le_refl _) HS.out)).mono ?_
    rintro e w2 ⟨rfl, hb2⟩
    rw [HZ.out]
    have hsw2 := (hb2).size
    have xXw2 := c10_on xX1 hb2
    have HBw2 := Lib.hid (below_on HB1.out hb2)
    clear xX1 HB1
    clear hb2
    obtain ⟨Xc0, Xc1, Xc2, Xc3, Xc4, Xc5, Xc6, Xc7, Xc8, Xc9, Xc10⟩ := id xXw2
    go_wp2_with fail
    refine (tF_any h f w2 lo _ HSZ.out (FS.below HBw2.out (Nat.le_refl _) HS.out)).mono ?_
    rintro e w3 ⟨s3, rfl, hs3, hb3⟩
    obtain ⟨a3, n3, c3, rfl⟩ := hs3.slice
    have hsw3 := (hb3).size
    have xXw3 := c10_on xXw2 hb3
    have HBw3 := Lib.hid (below_on HBw2.out hb3)
    clear Xc0 Xc1 Xc2 Xc3 Xc4 Xc5 Xc6 Xc7 Xc8 Xc9 Xc10 xXw2 HBw2
    clear hb3
    go_wp2_with fail
    refine (HSP.out w3 _ _ hs3).mono ?_
    rintro e w4 ⟨s4, rfl, hs4, hb4⟩
    obtain ⟨a4, n4, c4, rfl⟩ := hs4.slice
    have hsw4 := (hb4).size
    have xXw4 := c10_on xXw3 hb4
    have HBw4 := Lib.hid (below_on HBw3.out hb4)
    clear xXw3 HBw3
    have SQ4 := Lib.hid hs4
    clear hs4 hs3 hb4
    obtain ⟨Xc0, Xc1, Xc2, Xc3, Xc4, Xc5, Xc6, Xc7, Xc8, Xc9, Xc10⟩ := id xXw4
    go_wp2_with fail
    generalize hW : World.alloc _ _ = w5
    have hb5 : Below w4.heap.size w4 w5 := by subst hW; go_grown
    have xA5 : C10 w5 w4.heap.size q.1 (.slice a4 n4 c4) := by subst hW; exact (by refine ⟨?_, ?_, ?_, ?_, ?_, ?_, ?_, ?_, ?_, ?_, ?_⟩ <;> first | (simp [go_sem]; done) | (simp; omega))
    clear hW
    have hsw5 := (hb5).size
    have xXw5 := c10_on xXw4 hb5
    have SQw5 := Lib.hid (SF.below hb5 (by omega) SQ4.out)
    have HBw5 := Lib.hid (below_on HBw4.out hb5)
    clear Xc0 Xc1 Xc2 Xc3 Xc4 Xc5 Xc6 Xc7 Xc8 Xc9 Xc10 xXw4 SQ4 HBw4
    have hA := xA5.1
    clear hb5
    refine (tF_any2 h f w5 lo _ HSZ.out (FS.below HBw5.out (Nat.le_refl _) HS.out)).mono ?_
    rintro e w6 ⟨s6, rfl, hs6, hn6, hb6⟩
    obtain ⟨a6, n6, c6, rfl⟩ := hs6.slice
    have hsw6 := (hb6).size
    have xXw6 := c10_on xXw5 hb6
    have xAw6 := c10_on xA5 hb6
    have SQw6 := Lib.hid (SF.below hb6 (by omega) SQw5.out)
    have HBw6 := Lib.hid (below_on HBw5.out hb6)
    clear xXw5 xA5 SQw5 HBw5
    have FY6 := Lib.hid hs6
    have NY6 := Lib.hid hn6
    clear hs6 hn6 hb6
    go_wp2_with fail
    generalize hW : World.alloc _ _ = w7
    have hb7 : Below w6.heap.size w6 w7 := by subst hW; go_grown
    have xY7 : C10 w7 w6.heap.size h (.slice a6 n6 c6) := by subst hW; exact (by refine ⟨?_, ?_, ?_, ?_, ?_, ?_, ?_, ?_, ?_, ?_, ?_⟩ <;> first | (simp [go_sem]; done) | (simp; omega))
    clear hW
    have hsw7 := (hb7).size
    have xXw7 := c10_on xXw6 hb7
    have xAw7 := c10_on xAw6 hb7
    have SQw7 := Lib.hid (SF.below hb7 (by omega) SQw6.out)
    have NYw7 := Lib.hid (NS.same (fun x _ hx => (hb7).block x (by omega)) NY6.out)
    have FYw7 := Lib.hid (FS.below hb7 (Nat.le_refl _) FY6.out)
    have HBw7 := Lib.hid (below_on HBw6.out hb7)
    clear xXw6 xAw6 SQw6 NY6 FY6 HBw6
    have hY := xY7.1
    clear hb7
    refine (HIM.out w7 _ _ FYw7.out).mono ?_
    rintro e w8 ⟨s8, rfl, hs8, hb8⟩
    obtain ⟨a8, n8, c8, rfl⟩ := hs8.slice
    have hsw8 := (hb8).size
    have xXw8 := c10_on xXw7 hb8
    have xAw8 := c10_on xAw7 hb8
    have xYw8 := c10_on xY7 hb8
    have SQw8 := Lib.hid (SF.below hb8 (by omega) SQw7.out)
    have NYw8 := Lib.hid (NS.same (fun x _ hx => (hb8).block x (by omega)) NYw7.out)
    have FYw8 := Lib.hid (FS.below hb8 (Nat.le_refl _) FYw7.out)
    have HBw8 := Lib.hid (below_on HBw7.out hb8)
    clear xXw7 xAw7 xY7 SQw7 NYw7 FYw7 HBw7
    have SG8 := Lib.hid hs8
    clear hs8 hb8
    go_upto_region 8 with fail
    generalize hW : World.alloc _ _ = w9
    have hb9 : Below w8.heap.size w8 w9 := by subst hW; go_grown
    have xG9 : C10 w9 w8.heap.size q.1 (.slice a8 n8 c8) := by subst hW; exact (by refine ⟨?_, ?_, ?_, ?_, ?_, ?_, ?_, ?_, ?_, ?_, ?_⟩ <;> first | (simp [go_sem]; done) | (simp; omega))
    clear hW
    have hsw9 := (hb9).size
    have xXw9 := c10_on xXw8 hb9
    have xAw9 := c10_on xAw8 hb9
    have xYw9 := c10_on xYw8 hb9
    have SQw9 := Lib.hid (SF.below hb9 (by omega) SQw8.out)
    have SGw9 := Lib.hid (SF.below hb9 (by omega) SG8.out)
    have NYw9 := Lib.hid (NS.same (fun x _ hx => (hb9).block x (by omega)) NYw8.out)
    have FYw9 := Lib.hid (FS.below hb9 (Nat.le_refl _) FYw8.out)
    have HBw9 := Lib.hid (below_on HBw8.out hb9)
    clear xXw8 xAw8 xYw8 SQw8 SG8 NYw8 FYw8 HBw8
    have hG := xG9.1
    clear hb9
    obtain ⟨Ac0, Ac1, Ac2, Ac3, Ac4, Ac5, Ac6, Ac7, Ac8, Ac9, Ac10⟩ := id xAw9
    obtain ⟨Gc0, Gc1, Gc2, Gc3, Gc4, Gc5, Gc6, Gc7, Gc8, Gc9, Gc10⟩ := id xG9
    go_wp2_with fail
    refine (eqF_any q.1 q.2 w9 _ _ _ _ (SF.fs (by omega) SGw9.out) (SF.fs (by omega) SQw9.out)).mono ?_
    rintro e w10 ⟨rfl, hb10⟩
    have hsw10 := (hb10).size
    have xXw10 := c10_on xXw9 hb10
    have xAw10 := c10_on xAw9 hb10
    have xYw10 := c10_on xYw9 hb10
    have xGw10 := c10_on xG9 hb10
    have SQw10 := Lib.hid (SF.below hb10 (by omega) SQw9.out)
    have SGw10 := Lib.hid (SF.below hb10 (by omega) SGw9.out)
    have NYw10 := Lib.hid (NS.same (fun x _ hx => (hb10).block x (by omega)) NYw9.out)
    have FYw10 := Lib.hid (FS.below hb10 (Nat.le_refl _) FYw9.out)
    have HBw10 := Lib.hid (below_on HBw9.out hb10)
    clear Ac0 Ac1 Ac2 Ac3 Ac4 Ac5 Ac6 Ac7 Ac8 Ac9 Ac10 Gc0 Gc1 Gc2 Gc3 Gc4 Gc5 Gc6 Gc7 Gc8 Gc9 Gc10 xXw9 xAw9 xYw9 xG9 SQw9 SGw9 NYw9 FYw9 HBw9
    clear hb10
    have HTF := Lib.hid (fun W hW => tF_any h f W lo _ HSZ.out (FS.below (w := w10) hW (Nat.le_refl _) (FS.below HBw10.out (Nat.le_refl _) HS.out)))
    have HEQ := Lib.hid (fun W lo' s' hW hs' => eqF_any h f W _ lo' _ s' (FS.below (w := w10) hW (Nat.le_refl _) FYw10.out) hs')
    go_wp2_with fail
    refine wp_region_held_drew (S := (fun w' => Below w10.heap.size w10 w' ∧ (w'.cell? ⟨w.heap.size, 0, none⟩ = some (.int .i64 h.k) ∧ w'.cell? ⟨w.heap.size, 1, none⟩ = some (.int .i64 h.ak) ∧ w'.cell? ⟨w.heap.size, 2, none⟩ = some (.int .i64 h.am) ∧ w'.cell? ⟨w.heap.size, 3, none⟩ = some (.int .i64 h.a) ∧ w'.cell? ⟨w.heap.size, 4, none⟩ = some (.int .i64 h.b) ∧ w'.cell? ⟨w.heap.size, 5, none⟩ = some (.int .i64 h.c) ∧ w'.cell? ⟨w.heap.size, 6, none⟩ = some (.int .i64 h.d) ∧ w'.cell? ⟨w.heap.size, 7, none⟩ = some (.int .i64 h.n) ∧ w'.cell? ⟨w.heap.size, 8, none⟩ = some (.int .i64 h.v) ∧ w'.cell? ⟨w.heap.size, 9, none⟩ = some (.slice sa sn sc)) ∧ (w'.cell? ⟨w6.heap.size, 0, none⟩ = some (.int .i64 h.k) ∧ w'.cell? ⟨w6.heap.size, 1, none⟩ = some (.int .i64 h.ak) ∧ w'.cell? ⟨w6.heap.size, 2, none⟩ = some (.int .i64 h.am) ∧ w'.cell? ⟨w6.heap.size, 3, none⟩ = some (.int .i64 h.a) ∧ w'.cell? ⟨w6.heap.size, 4, none⟩ = some (.int .i64 h.b) ∧ w'.cell? ⟨w6.heap.size, 5, none⟩ = some (.int .i64 h.c) ∧ w'.cell? ⟨w6.heap.size, 6, none⟩ = some (.int .i64 h.d) ∧ w'.cell? ⟨w6.heap.size, 7, none⟩ = some (.int .i64 h.n) ∧ w'.cell? ⟨w6.heap.size, 8, none⟩ = some (.int .i64 h.v) ∧ w'.cell? ⟨w6.heap.size, 9, none⟩ = some (.slice a6 n6 c6)))) (by kernel_rfl) ?_ (fun hHeld => ?_)
    · try dsimp only
      exact keep20SplitFormula xXw10 xYw10 (by go_grown)
    refine wpAnyH_take (i := 0) (oi := { dst := some 41, op := Go.Op.load 30 (Go.Operand.tmp 6), type := 30, pos := "exact.go:3635", after := #[], guard := none }) (v := ?_) rfl (by kernel_rfl) (by kernel_rfl) (by kernel_rfl) (fun _ _ _ h => h) (Or.inl ⟨by rfl, ?_⟩) (by assumption) ?_
    rotate_left
    · (intro w hSw; (try dsimp only at hSw); first | (go_simp; done) | (go_simp; with_reducible rfl))
    try simp only [Act.put, List.setIfInBounds_toArray, List.set_cons_zero, List.set_cons_succ]
    refine wpAnyH_take (i := 1) (oi := { dst := some 42, op := Go.Op.load 43 (Go.Operand.tmp 1), type := 43, pos := "exact.go:3635", after := #[], guard := none }) (v := ?_) rfl (by kernel_rfl) (by kernel_rfl) (by kernel_rfl) (fun _ _ _ h => h) (Or.inl ⟨by rfl, ?_⟩) (by assumption) ?_
    rotate_left
    · (intro w hSw; (try dsimp only at hSw); first | (go_simp; done) | (go_simp; with_reducible rfl))
    try simp only [Act.put, List.setIfInBounds_toArray, List.set_cons_zero, List.set_cons_succ]
    refine wpAnyH_ready (rs := [2]) (by kernel_rfl) (by simp) ?_
    refine AllReadyH.cons (o := { dst := some 43, op := Go.Op.call { callee := Go.Callee.value (Go.Operand.func 22), args := #[Go.Operand.tmp 42], argTypes := #[43] }, type := 30, pos := "exact.go:3635", after := #[{ on := 1, ground := Go.Ground.data }], guard := none }) rfl (fun K hK => ?_) AllReadyH.nil
    go_simp
    (go_at_call 22; refine (HTF.out _ (by go_grown)).mono ?_; rintro e w11 ⟨s11, rfl, hs11, hb11⟩; have hbb11 := below_on (w := w10) (by go_grown) hb11; have hsb11 : w10.heap.size ≤ w11.heap.size := hbb11.size)
    (try go_wp2_with fail)
    refine hK.out _ _ ?_ (fun hHeld => ?_)
    · try dsimp only
      exact keep20SplitFormula xXw10 xYw10 (by go_grown)
    clear hK K
    try simp only [Act.put, List.setIfInBounds_toArray, List.set_cons_zero, List.set_cons_succ]
    refine wpAnyH_ready (rs := [3]) (by kernel_rfl) (by simp) ?_
    refine AllReadyH.cons (o := { dst := some 44, op := Go.Op.call { callee := Go.Callee.value (Go.Operand.func 13), args := #[Go.Operand.tmp 41, Go.Operand.tmp 43], argTypes := #[30, 30] }, type := 4, pos := "exact.go:3635", after := #[{ on := 0, ground := Go.Ground.data }, { on := 2, ground := Go.Ground.data }, { on := 2, ground := Go.Ground.chain }], guard := none }) rfl (fun K hK => ?_) AllReadyH.nil
    go_simp
    (go_at_call 13; refine (HEQ.out _ _ _ (by go_grown) hs11).mono ?_; rintro e w12 ⟨rfl, hb12⟩; have hbb12 := below_on hbb11 hb12; have hsb12 : w10.heap.size ≤ w12.heap.size := hbb12.size)
    (try go_wp2_with fail)
    refine hK.out _ _ ?_ (fun hHeld => ?_)
    · try dsimp only
      exact keep20SplitFormula xXw10 xYw10 (by go_grown)
    clear hK K
    try simp only [Act.put, List.setIfInBounds_toArray, List.set_cons_zero, List.set_cons_succ]
    refine wpAnyH_take (i := 4) (oi := { dst := some 45, op := Go.Op.unOp Go.UnOp.not 4 (Go.Operand.tmp 44), type := 4, pos := "exact.go:3635", after := #[{ on := 3, ground := Go.Ground.data }], guard := none }) (v := ?_) rfl (by kernel_rfl) (by kernel_rfl) (by kernel_rfl) (fun _ _ _ h => h) (Or.inl ⟨by rfl, ?_⟩) (by assumption) ?_
    rotate_left
    · (intro w hSw; (try dsimp only at hSw); first | (go_simp; done) | (go_simp; with_reducible rfl))
    try simp only [Act.put, List.setIfInBounds_toArray, List.set_cons_zero, List.set_cons_succ]
    refine wpAnyH_done (by kernel_rfl) ?_ _
    clear hHeld hb11 hb12 hbb11 hs11 HTF HEQ
    have hsw12 := (hbb12).size
    have xXw12 := c10_on xXw10 hbb12
    have xAw12 := c10_on xAw10 hbb12
    have xYw12 := c10_on xYw10 hbb12
    have xGw12 := c10_on xGw10 hbb12
    have SQw12 := Lib.hid (SF.below hbb12 (by omega) SQw10.out)
    have SGw12 := Lib.hid (SF.below hbb12 (by omega) SGw10.out)
    have NYw12 := Lib.hid (NS.same (fun x _ hx => (hbb12).block x (by omega)) NYw10.out)
    have FYw12 := Lib.hid (FS.below hbb12 (Nat.le_refl _) FYw10.out)
    have HBw12 := Lib.hid (below_on HBw10.out hbb12)
    clear xXw10 xAw10 xYw10 xGw10 SQw10 SGw10 NYw10 FYw10 HBw10
    clear hbb12
    obtain ⟨Yc0, Yc1, Yc2, Yc3, Yc4, Yc5, Yc6, Yc7, Yc8, Yc9, Yc10⟩ := id xYw12
    go_wp2_with fail
    refine (mkF_any h f w12 w5.heap.size w6.heap.size _ 1 NYw12.out (by omega) (by omega) (by omega)).mono ?_
    rintro e w13 ⟨rfl, hk13⟩
    obtain ⟨qk, hqk⟩ : ∃ qk : Int, 1 + ((f.size * 9 : Nat) : Int) = qk := ⟨_, rfl⟩
    have hqk0 : ¬ qk < 0 := by omega
    rw [hqk]
    clear hqk
    have hsw13 := (hk13).size
    have xXw13 := c10_keeps xXw12 hk13 (by omega)
    have xAw13 := c10_keeps xAw12 hk13 (by omega)
    have xYw13 := c10_keeps xYw12 hk13 (by omega)
    have xGw13 := c10_keeps xGw12 hk13 (by omega)
    have SQw13 := Lib.hid (SF.same (fun x h1 h2 => (hk13).block x (by omega) (by omega)) SQw12.out)
    have SGw13 := Lib.hid (SF.same (fun x h1 h2 => (hk13).block x (by omega) (by omega)) SGw12.out)
    have HBw13 := Lib.hid (HBw12.out.trans (((hk13).below (by omega)).mono (by omega)))
    clear Yc0 Yc1 Yc2 Yc3 Yc4 Yc5 Yc6 Yc7 Yc8 Yc9 Yc10 xXw12 xAw12 xYw12 xGw12 SQw12 SGw12 HBw12
    clear hk13
    obtain ⟨Ac0, Ac1, Ac2, Ac3, Ac4, Ac5, Ac6, Ac7, Ac8, Ac9, Ac10⟩ := id xAw13
    obtain ⟨Gc0, Gc1, Gc2, Gc3, Gc4, Gc5, Gc6, Gc7, Gc8, Gc9, Gc10⟩ := id xGw13
    go_wp2_with fail
    refine (eqF_any q.1 q.2 w13 _ _ _ _ (SF.fs (by omega) SGw13.out) (SF.fs (by omega) SQw13.out)).mono ?_
    rintro e w14 ⟨rfl, hb14⟩
    have hsw14 := (hb14).size
    have xXw14 := c10_on xXw13 hb14
    have xAw14 := c10_on xAw13 hb14
    have xYw14 := c10_on xYw13 hb14
    have xGw14 := c10_on xGw13 hb14
    have SQw14 := Lib.hid (SF.below hb14 (by omega) SQw13.out)
    have SGw14 := Lib.hid (SF.below hb14 (by omega) SGw13.out)
    have HBw14 := Lib.hid (below_on HBw13.out hb14)
    clear Ac0 Ac1 Ac2 Ac3 Ac4 Ac5 Ac6 Ac7 Ac8 Ac9 Ac10 Gc0 Gc1 Gc2 Gc3 Gc4 Gc5 Gc6 Gc7 Gc8 Gc9 Gc10 xXw13 xAw13 xYw13 xGw13 SQw13 SGw13 HBw13
    clear hb14
    obtain ⟨Gc0, Gc1, Gc2, Gc3, Gc4, Gc5, Gc6, Gc7, Gc8, Gc9, Gc10⟩ := id xGw14
    obtain ⟨N, hN⟩ : ∃ N : Int, 1 + ((q.2.size * 9 : Nat) : Int) = N := ⟨_, rfl⟩
    have HN := Lib.hid hN
    have hN0 : ¬ N < 0 := by omega
    clear hN
    go_wp2_with fail
    refine (xkF_any q.1 q.2 w14 w7.heap.size w8.heap.size _ 1 SGw14.out (by omega) (by omega) (by omega)).mono ?_
    rintro e w15 ⟨rfl, hk15, hs15⟩
    rw [HN.out]
    have hsw15 := (hk15).size
    have xXw15 := c10_keeps xXw14 hk15 (by omega)
    have xAw15 := c10_keeps xAw14 hk15 (by omega)
    have xYw15 := c10_keeps xYw14 hk15 (by omega)
    have xGw15 := c10_keeps xGw14 hk15 (by omega)
    have SQw15 := Lib.hid (SF.same (fun x h1 h2 => (hk15).block x (by omega) (by omega)) SQw14.out)
    have HBw15 := Lib.hid (HBw14.out.trans (((hk15).below (by omega)).mono (by omega)))
    clear Gc0 Gc1 Gc2 Gc3 Gc4 Gc5 Gc6 Gc7 Gc8 Gc9 Gc10 xXw14 xAw14 xYw14 xGw14 SQw14 HBw14
    have SG15 := Lib.hid hs15
    clear hk15 hs15 SGw14
    obtain ⟨Gc0, Gc1, Gc2, Gc3, Gc4, Gc5, Gc6, Gc7, Gc8, Gc9, Gc10⟩ := id xGw15
    go_wp2_with fail
    refine (heF_any q.1 q.2 w15 _ _ 1 (SF.fs (by omega) SG15.out) (by omega) (by omega)).mono ?_
    rintro e w16 ⟨rfl, hb16⟩
    rw [HN.out]
    have hsw16 := (hb16).size
    have xXw16 := c10_on xXw15 hb16
    have xAw16 := c10_on xAw15 hb16
    have xYw16 := c10_on xYw15 hb16
    have xGw16 := c10_on xGw15 hb16
    have SQw16 := Lib.hid (SF.below hb16 (by omega) SQw15.out)
    have SGw16 := Lib.hid (SF.below hb16 (by omega) SG15.out)
    have HBw16 := Lib.hid (below_on HBw15.out hb16)
    clear Gc0 Gc1 Gc2 Gc3 Gc4 Gc5 Gc6 Gc7 Gc8 Gc9 Gc10 xXw15 xAw15 xYw15 xGw15 SQw15 SG15 HBw15
    clear hb16
    obtain ⟨Xc0, Xc1, Xc2, Xc3, Xc4, Xc5, Xc6, Xc7, Xc8, Xc9, Xc10⟩ := id xXw16
    go_wp2_with fail
    refine (tF_any h f w16 lo _ HSZ.out (FS.below HBw16.out (Nat.le_refl _) HS.out)).mono ?_
    rintro e w17 ⟨s17, rfl, hs17, hb17⟩
    obtain ⟨a17, n17, c17, rfl⟩ := hs17.slice
    have hsw17 := (hb17).size
    have xXw17 := c10_on xXw16 hb17
    have xAw17 := c10_on xAw16 hb17
    have xYw17 := c10_on xYw16 hb17
    have xGw17 := c10_on xGw16 hb17
    have SQw17 := Lib.hid (SF.below hb17 (by omega) SQw16.out)
    have SGw17 := Lib.hid (SF.below hb17 (by omega) SGw16.out)
    have HBw17 := Lib.hid (below_on HBw16.out hb17)
    clear Xc0 Xc1 Xc2 Xc3 Xc4 Xc5 Xc6 Xc7 Xc8 Xc9 Xc10 xXw16 xAw16 xYw16 xGw16 SQw16 SGw16 HBw16
    clear hb17
    go_wp2_with fail
    refine (HIM.out w17 _ _ hs17).mono ?_
    rintro e w18 ⟨s18, rfl, hs18, hb18⟩
    obtain ⟨a18, n18, c18, rfl⟩ := hs18.slice
    have hsw18 := (hb18).size
    have xXw18 := c10_on xXw17 hb18
    have xAw18 := c10_on xAw17 hb18
    have xYw18 := c10_on xYw17 hb18
    have xGw18 := c10_on xGw17 hb18
    have SQw18 := Lib.hid (SF.below hb18 (by omega) SQw17.out)
    have SGw18 := Lib.hid (SF.below hb18 (by omega) SGw17.out)
    have HBw18 := Lib.hid (below_on HBw17.out hb18)
    clear xXw17 xAw17 xYw17 xGw17 SQw17 SGw17 HBw17
    have SH18 := Lib.hid hs18
    clear hs18 hs17 hb18
    obtain ⟨Ac0, Ac1, Ac2, Ac3, Ac4, Ac5, Ac6, Ac7, Ac8, Ac9, Ac10⟩ := id xAw18
    go_upto_region 25 with fail
    generalize hW : World.alloc _ _ = w19
    have hb19 : Below w18.heap.size w18 w19 := by subst hW; go_grown
    have xH19 : C10 w19 w18.heap.size q.1 (.slice a18 n18 c18) := by subst hW; exact (by refine ⟨?_, ?_, ?_, ?_, ?_, ?_, ?_, ?_, ?_, ?_, ?_⟩ <;> first | (simp [go_sem]; done) | (simp; omega))
    clear hW
    have hsw19 := (hb19).size
    have xXw19 := c10_on xXw18 hb19
    have xAw19 := c10_on xAw18 hb19
    have xYw19 := c10_on xYw18 hb19
    have xGw19 := c10_on xGw18 hb19
    have SQw19 := Lib.hid (SF.below hb19 (by omega) SQw18.out)
    have SGw19 := Lib.hid (SF.below hb19 (by omega) SGw18.out)
    have SHw19 := Lib.hid (SF.below hb19 (by omega) SH18.out)
    have HBw19 := Lib.hid (below_on HBw18.out hb19)
    clear Ac0 Ac1 Ac2 Ac3 Ac4 Ac5 Ac6 Ac7 Ac8 Ac9 Ac10 xXw18 xAw18 xYw18 xGw18 SQw18 SGw18 SH18 HBw18
    have hH := xH19.1
    clear hb19
    obtain ⟨Ac0, Ac1, Ac2, Ac3, Ac4, Ac5, Ac6, Ac7, Ac8, Ac9, Ac10⟩ := id xAw19
    obtain ⟨Hc0, Hc1, Hc2, Hc3, Hc4, Hc5, Hc6, Hc7, Hc8, Hc9, Hc10⟩ := id xH19
    go_wp2_with fail
    refine (eqF_any q.1 q.2 w19 _ _ _ _ (SF.fs (by omega) SHw19.out) (SF.fs (by omega) SQw19.out)).mono ?_
    rintro e w20 ⟨rfl, hb20⟩
    have hsw20 := (hb20).size
    have xXw20 := c10_on xXw19 hb20
    have xAw20 := c10_on xAw19 hb20
    have xYw20 := c10_on xYw19 hb20
    have xGw20 := c10_on xGw19 hb20
    have xHw20 := c10_on xH19 hb20
    have SQw20 := Lib.hid (SF.below hb20 (by omega) SQw19.out)
    have SGw20 := Lib.hid (SF.below hb20 (by omega) SGw19.out)
    have SHw20 := Lib.hid (SF.below hb20 (by omega) SHw19.out)
    have HBw20 := Lib.hid (below_on HBw19.out hb20)
    clear Ac0 Ac1 Ac2 Ac3 Ac4 Ac5 Ac6 Ac7 Ac8 Ac9 Ac10 Hc0 Hc1 Hc2 Hc3 Hc4 Hc5 Hc6 Hc7 Hc8 Hc9 Hc10 xXw19 xAw19 xYw19 xGw19 xH19 SQw19 SGw19 SHw19 HBw19
    clear hb20
    obtain ⟨Gc0, Gc1, Gc2, Gc3, Gc4, Gc5, Gc6, Gc7, Gc8, Gc9, Gc10⟩ := id xGw20
    go_wp2_with fail
    refine (heF_any q.1 q.2 w20 _ _ 1 (SF.fs (by omega) SGw20.out) (by omega) (by omega)).mono ?_
    rintro e w21 ⟨rfl, hb21⟩
    rw [HN.out]
    go_wp2
    go_ret
    exact ⟨rfl, below_on HBw20.out hb21⟩
  · have hz : szI f.size 1048576 = -1 := szI_neg (by omega)
    have HZ := Lib.hid hz
    clear hz
    go_enter Try.func6, Try.ntmps6
    go_wp2_with fail
    generalize hW : World.alloc _ _ = w1
    have hb1 : Below w.heap.size w w1 := by subst hW; go_grown
    clear hW
    refine (szF_any h f w1 lo _ 1048576 (Nat.le_refl _) (FS.below hb1 (Nat.le_refl _) HS.out)).mono ?_
    rintro e w2 ⟨rfl, hb2⟩
    rw [HZ.out]
    go_wp2
    go_ret
    exact ⟨rfl, below_on hb1 hb2⟩

end Go.Proofs.Ytahilpccnabbgaa
