/- Several texts in one: NfU NfV. -/
import Derived.Test.YtcgolbkpfncgpaaNm
import Derived.Test.YtcgolbkpfncgpaaIm

/- A term put in place of a variable in a formula: as data, and the contracts of the program's substitution. -/
namespace Go.Proofs.Ytcgolbkpfncgpaa
open Go.RowKit

/-- The variable and the term. -/
structure SbD where
  (v a b c d n : Int)
def SbD.ok (σ : SbD) : Prop := tvB σ.a σ.b σ.c σ.d σ.n = true ∧ 0 ≤ σ.v ∧ σ.v < 4
/-- An atom's head with the term put in. -/
def sbH (σ : SbD) (h : FH) : FH := ⟨2, h.ak, h.am, (if σ.v = 0 then 0 else h.a) + σ.a * sel h.a h.b h.c h.d σ.v 0, (if σ.v = 1 then 0 else h.b) + σ.b * sel h.a h.b h.c h.d σ.v 0, (if σ.v = 2 then 0 else h.c) + σ.c * sel h.a h.b h.c h.d σ.v 0, (if σ.v = 3 then 0 else h.d) + σ.d * sel h.a h.b h.c h.d σ.v 0, h.n + σ.n * sel h.a h.b h.c h.d σ.v 0, 0⟩
/-- A head that is not valid. -/
def badH : FH := ⟨9, 0, 0, 0, 0, 0, 0, 0, 0⟩
def sbE (σ : SbD) (h : FH) (s t : Fo) : FH × Fo :=
  if fr1 h σ.v (s.fr σ.v) = false then (h, s)
  else if h.k = 2 then (if tvB (sbH σ h).a (sbH σ h).b (sbH σ h).c (sbH σ h).d (sbH σ h).n = true then (sbH σ h, .nil) else (badH, .nil))
  else if qB h.k = true ∧ sel σ.a σ.b σ.c σ.d h.v 0 ≠ 0 then (badH, .nil)
  else (h, t)
def Fo.sb (σ : SbD) : Fo → Fo
  | .nil => .nil
  | .cons h s r => .cons (sbE σ h s (s.sb σ)).1 (sbE σ h s (s.sb σ)).2 (r.sb σ)
def sbF (σ : SbD) (h : FH) (f : Fo) : FH × Fo := sbE σ h f (f.sb σ)
def sbK (σ : SbD) (h : FH) (f : Fo) : Bool := ownB (sbF σ h f).1 (sbF σ h f).2.len && (sbF σ h f).2.okB
/-- What is left of a formula under a quantifier that catches the term: nothing may be put in. -/
def czE (σ : SbD) (h : FH) (s : Fo) : FH × Fo := if fr1 h σ.v (s.fr σ.v) = true then (badH, .nil) else (h, s)
def Fo.cz (σ : SbD) : Fo → Fo
  | .nil => .nil
  | .cons h s r => .cons (czE σ h s).1 (czE σ h s).2 (r.cz σ)

theorem badH_own (n : Nat) : ownB badH n = false := by
  unfold ownB badH subsI
  simp
theorem sb_len (σ : SbD) : ∀ f : Fo, (f.sb σ).len = f.len := by
  intro f
  induction f with
  | nil => rfl
  | cons h s r _ ih => simp only [Fo.sb, Fo.len, ih]
theorem cz_len (σ : SbD) : ∀ f : Fo, (f.cz σ).len = f.len := by
  intro f
  induction f with
  | nil => rfl
  | cons h s r _ ih => simp only [Fo.cz, Fo.len, ih]
theorem sb_snoc (σ : SbD) (h : FH) (s : Fo) : ∀ f : Fo, (f.app (.cons h s .nil)).sb σ = (f.sb σ).app (.cons (sbF σ h s).1 (sbF σ h s).2 .nil) := by
  intro f
  induction f with
  | nil => rfl
  | cons h' s' r _ ih => simp only [Fo.app, Fo.sb, ih]
/-- Nothing changes where the variable is not free. -/
theorem sb_not (σ : SbD) : ∀ f : Fo, f.fr σ.v = false → f.sb σ = f := by
  intro f
  induction f with
  | nil => intro _; rfl
  | cons h s r _ ih =>
    intro hf
    simp only [Fo.fr, Bool.or_eq_false_iff] at hf
    simp only [Fo.sb, ih hf.2, sbE]
    rw [if_pos hf.1]
theorem cz_not (σ : SbD) : ∀ f : Fo, f.okB = true → (f.cz σ).okB = !f.fr σ.v ∧ (f.fr σ.v = false → f.cz σ = f) := by
  intro f
  induction f with
  | nil => intro _; exact ⟨rfl, fun _ => rfl⟩
  | cons h s r _ ih =>
    intro hok
    simp only [Fo.okB, Bool.and_eq_true] at hok
    have h1 := ih hok.2
    simp only [Fo.cz, Fo.okB, Fo.fr, czE]
    cases hf : fr1 h σ.v (s.fr σ.v) with
    | true => simp [badH_own]
    | false =>
      simp only [Bool.false_or, Bool.false_eq_true, if_false, hok.1.1, hok.1.2, Bool.true_and]
      exact ⟨h1.1, fun h9 => by rw [h1.2 h9]⟩
theorem fr1_other {h : FH} {v : Int} {b : Bool} (h2 : h.k ≠ 2) (hn : ¬ (qB h.k = true ∧ h.v = v)) : fr1 h v b = b := by
  unfold fr1
  rw [if_neg hn, if_neg h2]
theorem fr1_atom {h : FH} {v : Int} {b : Bool} (h2 : h.k = 2) : fr1 h v b = decide (sel h.a h.b h.c h.d v 0 ≠ 0) := by
  unfold fr1
  rw [if_neg (by rw [h2]; simp [qB]), if_pos h2]
theorem fr1_bound {h : FH} {v : Int} {b : Bool} (hq : qB h.k = true) (hv : h.v = v) : fr1 h v b = false := by
  unfold fr1
  rw [if_pos ⟨hq, hv⟩]
theorem sbF_not {σ : SbD} {h : FH} {f : Fo} (hf : fr1 h σ.v (f.fr σ.v) = false) : sbF σ h f = (h, f) := by
  unfold sbF sbE
  rw [if_pos hf]
/-- Where the parts are changed in the same way. -/
theorem sbF_else {σ : SbD} {h : FH} {f : Fo} (h2 : h.k ≠ 2) (hn : ¬ (qB h.k = true ∧ h.v = σ.v)) (hc : ¬ (qB h.k = true ∧ sel σ.a σ.b σ.c σ.d h.v 0 ≠ 0)) : sbF σ h f = (h, f.sb σ) := by
  unfold sbF sbE
  rw [fr1_other h2 hn]
  by_cases hf : f.fr σ.v = false
  · rw [if_pos hf, sb_not σ f hf]
  · rw [if_neg hf, if_neg h2, if_neg hc]
theorem sbK_else {σ : SbD} {h : FH} {f : Fo} (ho : ownB h f.len = true) (h2 : h.k ≠ 2) (hn : ¬ (qB h.k = true ∧ h.v = σ.v)) (hc : ¬ (qB h.k = true ∧ sel σ.a σ.b σ.c σ.d h.v 0 ≠ 0)) : sbK σ h f = (f.sb σ).okB := by
  unfold sbK
  rw [sbF_else h2 hn hc]
  dsimp only
  rw [sb_len, ho, Bool.true_and]
theorem sbK_not {σ : SbD} {h : FH} {f : Fo} (ho : ownB h f.len = true) (hok : f.okB = true) (hf : fr1 h σ.v (f.fr σ.v) = false) : sbK σ h f = true := by
  unfold sbK
  rw [sbF_not hf, ho, hok]
  rfl
theorem sbE_size (σ : SbD) (h : FH) (s t : Fo) (ht : t.size ≤ s.size) : (sbE σ h s t).2.size ≤ s.size := by
  unfold sbE
  split
  · exact Nat.le_refl _
  · split
    · split <;> exact Nat.zero_le _
    · split
      · exact Nat.zero_le _
      · exact ht
theorem sb_size (σ : SbD) : ∀ f : Fo, (f.sb σ).size ≤ f.size := by
  intro f
  induction f with
  | nil => exact Nat.le_refl _
  | cons h s r ihs ihr =>
    simp only [Fo.sb, Fo.size]
    have := sbE_size σ h s (s.sb σ) ihs
    omega
theorem sbF_size (σ : SbD) (h : FH) (f : Fo) : (sbF σ h f).2.size ≤ f.size := sbE_size σ h f (f.sb σ) (sb_size σ f)

def SbV (cb vb tb : Nat) : Value := .func (.func 112) #[] #[.pointer (some ⟨cb, 0, none⟩), .pointer (some ⟨vb, 0, none⟩), .pointer (some ⟨tb, 0, none⟩)]
/-- The closure's variables lie in their boxes. -/
def SbI (σ : SbD) (c : Bool) (cb vb tb : Nat) (w : World) : Prop := cb < w.heap.size ∧ vb < w.heap.size ∧ w.cell? ⟨cb, 0, none⟩ = some (.bool c) ∧ w.cell? ⟨vb, 0, none⟩ = some (.int .i64 σ.v) ∧ C5 w tb σ.a σ.b σ.c σ.d σ.n
theorem sbI_stays (σ : SbD) (c : Bool) (cb vb tb : Nat) : Stays (SbI σ c cb vb tb) := by
  rintro W W' ⟨h1, h2, h3, h4, h5⟩ hb
  have hs := hb.size
  exact ⟨by omega, by omega, ((bcell hb).1 _ 0 h1).trans h3, ((bcell hb).1 _ 0 h2).trans h4, c5_on h5 hb⟩
theorem en_subst : EnT 112 := fun _ _ => by kernel_rfl

theorem subst_any (σ : SbD) (c : Bool) (w : World) : Calls Try.prog 75 #[.int .i64 σ.v, .agg #[.int .i64 σ.a, .int .i64 σ.b, .int .i64 σ.c, .int .i64 σ.d, .int .i64 σ.n], .bool c] w fun e w' => ∃ cb vb tb, e = .returned (SbV cb vb tb) ∧ SbI σ c cb vb tb w' ∧ Below w.heap.size w w' := by
  go_enter Try.func75, Try.ntmps75
  go_wp2
  go_ret
  exact ⟨w.heap.size + 1 + 1, w.heap.size, w.heap.size + 1, rfl, ⟨by simp, by simp; omega, by simp [go_sem], by simp [go_sem], (by refine ⟨?_, ?_, ?_, ?_, ?_, ?_⟩ <;> first | (simp [go_sem]; done) | (simp; omega))⟩, by go_grown⟩

def SbP (σ : SbD) (c : Bool) (cb vb tb : Nat) (x : Value) (ok : Bool) (y : Value) : Prop := ChAt 112 #[.pointer (some ⟨cb, 0, none⟩), .pointer (some ⟨vb, 0, none⟩), .pointer (some ⟨tb, 0, none⟩)] (SbI σ c cb vb tb) x ok y

theorem SubstAtom_u (σ : SbD) (hσ : σ.ok) (h : FH) (hav : avB h.ak h.am h.a h.b h.c h.d h.n = true) (w : World) :
    Calls Try.prog 22 #[.agg #[.int .i64 h.ak, .int .i64 h.am, .int .i64 h.a, .int .i64 h.b, .int .i64 h.c, .int .i64 h.d, .int .i64 h.n], .int .i64 σ.v, .agg #[.int .i64 σ.a, .int .i64 σ.b, .int .i64 σ.c, .int .i64 σ.d, .int .i64 σ.n]] w fun e w' => ∃ r0 r1 r2 r3 r4 r5 r6 : Int, e = .returned (.tuple #[.agg #[.int .i64 r0, .int .i64 r1, .int .i64 r2, .int .i64 r3, .int .i64 r4, .int .i64 r5, .int .i64 r6], .bool (tvB (sbH σ h).a (sbH σ h).b (sbH σ h).c (sbH σ h).d (sbH σ h).n)]) ∧
      (tvB (sbH σ h).a (sbH σ h).b (sbH σ h).c (sbH σ h).d (sbH σ h).n = true → r0 = h.ak ∧ r1 = h.am ∧ r2 = (sbH σ h).a ∧ r3 = (sbH σ h).b ∧ r4 = (sbH σ h).c ∧ r5 = (sbH σ h).d ∧ r6 = (sbH σ h).n) ∧ Below w.heap.size w w' := by
  have h1 := (avB_cases hav).2
  cases ht : tvB (sbH σ h).a (sbH σ h).b (sbH σ h).c (sbH σ h).d (sbH σ h).n with
  | true =>
    exact (SubstAtom_yes h.ak h.am h.a h.b h.c h.d h.n σ.v σ.a σ.b σ.c σ.d σ.n _ _ _ _ _ w hav (Lib.hid fun W => SubstTerm_ok h.a h.b h.c h.d h.n σ.v σ.a σ.b σ.c σ.d σ.n _ _ _ _ _ W h1 hσ.1 hσ.2 rfl rfl rfl rfl rfl ht)).mono fun e w' hp => ⟨_, _, _, _, _, _, _, hp.1, fun _ => ⟨rfl, rfl, rfl, rfl, rfl, rfl, rfl⟩, hp.2⟩
  | false =>
    exact (SubstAtom_no h.ak h.am h.a h.b h.c h.d h.n σ.v σ.a σ.b σ.c σ.d σ.n 0 0 0 0 0 w (Lib.hid fun W => SubstTerm_far h.a h.b h.c h.d h.n σ.v σ.a σ.b σ.c σ.d σ.n _ _ _ _ _ W h1 hσ.1 hσ.2 rfl rfl rfl rfl rfl ht)).mono fun e w' hp => ⟨_, _, _, _, _, _, _, hp.1, fun h9 => absurd h9 (by simp), hp.2⟩

/-- The closure at an atom. -/
theorem sb_atom0 (σ : SbD) (c : Bool) (cb vb tb : Nat) (h : FH) (f : Fo) (h2 : h.k = 2) (h0 : sel h.a h.b h.c h.d σ.v 0 = 0) : SbP σ c cb vb tb (nd1 h f.nds) true (nd1 h f.nds) := by
  intro w hi
  have hn : nd1 h f.nds = .iface 146 (.agg #[.int .i64 h.ak, .int .i64 h.am, .int .i64 h.a, .int .i64 h.b, .int .i64 h.c, .int .i64 h.d, .int .i64 h.n]) := by unfold nd1; simp [h2]
  have HC := Lib.hid (fun W => CoefOf_any h.a h.b h.c h.d h.n σ.v W)
  rw [h0] at HC
  rw [hn]
  have h9 := fun w => Try.taaa h.ak h.am h.a h.b h.c h.d h.n w
  obtain ⟨i1, i2, i3, i4, i5⟩ := hi
  clear hn h2 h0 i5
  show Calls Try.prog 112 #[.iface 146 _, .pointer (some ⟨cb, 0, none⟩), .pointer (some ⟨vb, 0, none⟩), .pointer (some ⟨tb, 0, none⟩)] w _
  go_enter Try.func112, Try.ntmps112
  go_wp2_with fail
  generalize hW : World.alloc _ _ = W
  have hw : Below w.heap.size w W := by subst hW; go_grown
  clear hW
  refine (HC.out W).mono ?_
  rintro e w1 ⟨rfl, hb1⟩
  go_wp2
  go_ret2
  exact ⟨_, rfl, fun _ => rfl, below_on hw hb1⟩

set_option maxHeartbeats 2000000 in
theorem sb_atom1 (σ : SbD) (hσ : σ.ok) (c : Bool) (cb vb tb : Nat) (h : FH) (f : Fo) (ho : ownB h f.len = true) (h2 : h.k = 2) (h0 : sel h.a h.b h.c h.d σ.v 0 ≠ 0) : SbP σ c cb vb tb (nd1 h f.nds) (tvB (sbH σ h).a (sbH σ h).b (sbH σ h).c (sbH σ h).d (sbH σ h).n && !c) (nd1 (sbH σ h) []) := by
  intro w hi
  have hav : avB h.ak h.am h.a h.b h.c h.d h.n = true := by
    unfold ownB atB at ho
    rw [if_pos h2] at ho
    simp only [Bool.and_eq_true] at ho
    exact ho.1.1
  have hn : nd1 h f.nds = .iface 146 (.agg #[.int .i64 h.ak, .int .i64 h.am, .int .i64 h.a, .int .i64 h.b, .int .i64 h.c, .int .i64 h.d, .int .i64 h.n]) := by unfold nd1; simp [h2]
  have hn2 : nd1 (sbH σ h) [] = .iface 146 (.agg #[.int .i64 h.ak, .int .i64 h.am, .int .i64 (sbH σ h).a, .int .i64 (sbH σ h).b, .int .i64 (sbH σ h).c, .int .i64 (sbH σ h).d, .int .i64 (sbH σ h).n]) := by unfold nd1; simp [sbH]
  have HSA := Lib.hid (fun W => SubstAtom_u σ hσ h hav W)
  have HC := Lib.hid (fun W => CoefOf_any h.a h.b h.c h.d h.n σ.v W)
  obtain ⟨z, hz⟩ : ∃ z, sel h.a h.b h.c h.d σ.v 0 = z := ⟨_, rfl⟩
  rw [hz] at HC h0
  have hz0 : ((z : Int) == 0) = false := by rw [beq_eq_false_iff_ne]; exact h0
  rw [hn, hn2]
  obtain ⟨ta, hta⟩ : ∃ ta, (sbH σ h).a = ta := ⟨_, rfl⟩
  obtain ⟨tbb, htb⟩ : ∃ tbb, (sbH σ h).b = tbb := ⟨_, rfl⟩
  obtain ⟨tc, htc⟩ : ∃ tc, (sbH σ h).c = tc := ⟨_, rfl⟩
  obtain ⟨td, htd⟩ : ∃ td, (sbH σ h).d = td := ⟨_, rfl⟩
  obtain ⟨tn, htn⟩ : ∃ tn, (sbH σ h).n = tn := ⟨_, rfl⟩
  rw [hta, htb, htc, htd, htn] at HSA ⊢
  obtain ⟨ok, hok⟩ : ∃ ok, tvB ta tbb tc td tn = ok := ⟨_, rfl⟩
  rw [hok] at HSA ⊢
  have h9 := fun w => Try.taaa h.ak h.am h.a h.b h.c h.d h.n w
  have HI := Lib.hid hi
  obtain ⟨i1, i2, i3, i4, i5⟩ := hi
  clear hn hn2 h2 h0 hav ho hz hta htb htc htd htn hok hσ
  show Calls Try.prog 112 #[.iface 146 _, .pointer (some ⟨cb, 0, none⟩), .pointer (some ⟨vb, 0, none⟩), .pointer (some ⟨tb, 0, none⟩)] w _
  go_enter Try.func112, Try.ntmps112
  go_wp2_with fail
  generalize hW : World.alloc _ _ = W
  have hw : Below w.heap.size w W := by subst hW; go_grown
  have hx : C7 W w.heap.size h.ak h.am h.a h.b h.c h.d h.n := by subst hW; exact (by refine ⟨?_, ?_, ?_, ?_, ?_, ?_, ?_, ?_⟩ <;> first | (simp [go_sem]; done) | (simp; omega))
  have hiW := sbI_stays σ c cb vb tb w W HI.out hw
  clear hW i1 i2 i3 i4 i5
  refine (HC.out W).mono ?_
  rintro e w1 ⟨rfl, hb1⟩
  have hi1 := sbI_stays σ c cb vb tb W w1 hiW hb1
  have hw1 := below_on hw hb1
  have HI1 := Lib.hid hi1
  obtain ⟨x0, x1, x2, x3, x4, x5, x6, x7⟩ := c7_on hx hb1
  obtain ⟨j1, j2, j3, j4, j5⟩ := hi1
  obtain ⟨y0, y1, y2, y3, y4, y5⟩ := j5
  clear hx hb1 hiW hw
  go_wp2_with fail
  refine (HSA.out w1).mono ?_
  rintro e w2 ⟨r0, r1, r2, r3, r4, r5, r6, rfl, hr, hb2⟩
  have hw2 := below_on hw1 hb2
  obtain ⟨k1, k2, k3, k4, k5⟩ := sbI_stays σ c cb vb tb w1 w2 HI1.out hb2
  clear x0 x1 x2 x3 x4 x5 x6 x7 y0 y1 y2 y3 y4 y5 j1 j2 j3 j4 k4 k5 hb2
  cases ok with
  | true =>
    obtain ⟨rfl, rfl, rfl, rfl, rfl, rfl, rfl⟩ := hr rfl
    clear hr
    cases c with
    | true =>
      go_wp2
      go_quiet (fail)
      go_wp2
      go_ret2
      exact ⟨_, rfl, by simp, below_on hw2 (below_dn (by go_grown))⟩
    | false =>
      go_wp2
      go_quiet (fail)
      go_wp2
      go_ret2
      exact ⟨_, rfl, fun _ => rfl, below_on hw2 (below_dn (by go_grown))⟩
  | false =>
    clear hr
    go_wp2
    go_quiet (fail)
    go_wp2
    go_ret2
    exact ⟨_, rfl, by simp, below_on hw2 (below_dn (by go_grown))⟩

theorem bound_node {h : FH} {f : Fo} (ho : ownB h f.len = true) (hq : qB h.k = true) : ∃ (bb : Bool) (h1 : FH) (s1 : Fo) (t : TypeId) (y : Value), f = .cons h1 s1 .nil ∧ nd1 h f.nds = .iface 148 (.agg #[.bool bb, .int .i64 h.v, .iface t y]) := by
  have hq' : h.k = 6 ∨ h.k = 7 := by simpa [qB] using hq
  rcases own_kind ho with ⟨_, h9 | h9 | h9⟩ | ⟨hl, h9 | h9 | h9⟩ | ⟨_, h9 | h9⟩
  · omega
  · omega
  · omega
  · omega
  · match f, hl with
    | .cons h1 s1 .nil, _ =>
      obtain ⟨t, y, e⟩ := nd1_iface h1 s1.nds
      refine ⟨true, h1, s1, t, y, rfl, ?_⟩
      simp only [Fo.nds, e]
      unfold nd1
      simp [h9]
    | .cons _ _ (.cons _ _ r), hl => simp [Fo.len] at hl
  · match f, hl with
    | .cons h1 s1 .nil, _ =>
      obtain ⟨t, y, e⟩ := nd1_iface h1 s1.nds
      refine ⟨false, h1, s1, t, y, rfl, ?_⟩
      simp only [Fo.nds, e]
      unfold nd1
      simp [h9]
    | .cons _ _ (.cons _ _ r), hl => simp [Fo.len] at hl
  · omega
  · omega

set_option maxHeartbeats 1000000 in
theorem sb_boundv (σ : SbD) (c : Bool) (cb vb tb : Nat) (h : FH) (f : Fo) (ho : ownB h f.len = true) (hq : qB h.k = true) (hv : h.v = σ.v) : SbP σ c cb vb tb (nd1 h f.nds) true (nd1 h f.nds) := by
  intro w hi
  obtain ⟨bb, h1, s1, t, y, rfl, hn⟩ := bound_node ho hq
  rw [hn, hv]
  have h8 := fun w => Try.taab bb σ.v t y w
  have h9 := fun w => Try.tabb bb σ.v t y w
  obtain ⟨i1, i2, i3, i4, i5⟩ := hi
  clear hn i5 hv
  show Calls Try.prog 112 #[.iface 148 _, .pointer (some ⟨cb, 0, none⟩), .pointer (some ⟨vb, 0, none⟩), .pointer (some ⟨tb, 0, none⟩)] w _
  go_enter Try.func112, Try.ntmps112
  go_wp2
  go_ret2
  exact ⟨_, rfl, fun _ => rfl, by go_grown⟩

/-- The closures of the parts, whichever they are. -/
def SbS (σ : SbD) (c : Bool) (f g : Fo) : Prop := ∀ cb vb tb : Nat, ChS 112 #[.pointer (some ⟨cb, 0, none⟩), .pointer (some ⟨vb, 0, none⟩), .pointer (some ⟨tb, 0, none⟩)] (SbI σ c cb vb tb) f g

set_option maxHeartbeats 1000000 in
/-- A quantifier of another variable: the term is caught already, or not. -/
theorem sb_bound (σ : SbD) (c c' : Bool) (cb vb tb : Nat) (h : FH) (f g : Fo) (ho : ownB h f.len = true) (hq : qB h.k = true) (hv : h.v ≠ σ.v) (hc : c' = (c || decide (sel σ.a σ.b σ.c σ.d h.v 0 ≠ 0))) (HC : SbS σ c' f g) : SbP σ c cb vb tb (nd1 h f.nds) g.okB (nd1 h g.nds) := by
  intro w hi
  have HW := Lib.hid (fun cb vb tb => wp_any 112 _ (SbI σ c' cb vb tb) en_subst (sbI_stays σ c' cb vb tb) h f g ho (HC cb vb tb))
  have HSU := Lib.hid (fun W => subst_any σ c' W)
  have HCO := Lib.hid (fun W => CoefOf_any σ.a σ.b σ.c σ.d σ.n h.v W)
  obtain ⟨bb, h1, s1, t, y, rfl, hn⟩ := bound_node ho hq
  obtain ⟨t', y', e'⟩ := nd1_iface h g.nds
  rw [hn, e'] at HW
  rw [hn, e']
  have hv' : ((h.v : Int) == σ.v) = false := by rw [beq_eq_false_iff_ne]; exact hv
  obtain ⟨z, hz⟩ : ∃ z, sel σ.a σ.b σ.c σ.d h.v 0 = z := ⟨_, rfl⟩
  rw [hz] at HCO hc
  have h8 := fun w => Try.taab bb h.v t y w
  have h9 := fun w => Try.tabb bb h.v t y w
  have HI := Lib.hid hi
  obtain ⟨i1, i2, i3, i4, ⟨i5, i6, i7, i8, i9, i10⟩⟩ := hi
  clear hn HC hv e' hz
  show Calls Try.prog 112 #[.iface 148 _, .pointer (some ⟨cb, 0, none⟩), .pointer (some ⟨vb, 0, none⟩), .pointer (some ⟨tb, 0, none⟩)] w _
  cases c with
  | true =>
    simp only [Bool.true_or] at hc
    subst hc
    go_enter Try.func112, Try.ntmps112
    go_wp2_with fail
    generalize hW : World.alloc _ _ = W
    have hw : Below w.heap.size w W := by subst hW; go_grown
    clear hW
    refine (HSU.out W).mono ?_
    rintro e w1 ⟨cb', vb', tb', rfl, hi1, hb1⟩
    have hw1 := below_on hw hb1
    unfold SbV
    go_wp2_with fail
    refine (HW.out cb' vb' tb' w1 hi1).mono ?_
    rintro e w2 ⟨v2, rfl, hv2, hb2⟩
    go_wp2
    go_ret2
    exact ⟨_, rfl, hv2, below_on hw1 hb2⟩
  | false =>
    simp only [Bool.false_or] at hc
    have hz0 : ((z : Int) != 0) = c' := by
      rw [hc]
      by_cases e : z = 0 <;> simp [e]
    clear hc
    go_enter Try.func112, Try.ntmps112
    go_wp2_with fail
    generalize hW : World.alloc _ _ = W
    have hw : Below w.heap.size w W := by subst hW; go_grown
    have hiW := sbI_stays σ false cb vb tb w W HI.out hw
    clear hW i1 i2 i3 i4 i5 i6 i7 i8 i9 i10
    refine (HCO.out W).mono ?_
    rintro e w0 ⟨rfl, hb0⟩
    have hw0 := below_on hw hb0
    obtain ⟨i1, i2, i3, i4, ⟨i5, i6, i7, i8, i9, i10⟩⟩ := sbI_stays σ false cb vb tb W w0 hiW hb0
    clear hb0 hiW
    go_wp2_with fail
    refine (HSU.out w0).mono ?_
    rintro e w1 ⟨cb', vb', tb', rfl, hi1, hb1⟩
    have hw1 := below_on hw0 hb1
    unfold SbV
    go_wp2_with fail
    refine (HW.out cb' vb' tb' w1 hi1).mono ?_
    rintro e w2 ⟨v2, rfl, hv2, hb2⟩
    go_wp2
    go_ret2
    exact ⟨_, rfl, hv2, below_on hw1 hb2⟩

theorem ta_bound_no (h : FH) (f : Fo) (ho : ownB h f.len = true) (hq : qB h.k = false) : ∃ t y, nd1 h f.nds = .iface t y ∧ ∀ w, (Instr.typeAssert (.iface t y) 120 148 true).run Try.prog w = .ok (.tuple #[.agg #[.bool false, .int .i64 0, .nilIface], .bool false]) w := by
  have hq' : h.k ≠ 6 ∧ h.k ≠ 7 := by
    have : ¬ (h.k = 6 ∨ h.k = 7) := by simpa [qB] using hq
    omega
  obtain ⟨k, ak, am, a, b, c, d, m, v⟩ := h
  dsimp only at hq'
  rcases own_kind ho with ⟨hl, hk⟩ | ⟨hl, hk⟩ | ⟨hl, hk⟩
  · dsimp only at hk
    rcases hk with rfl | rfl | rfl
    · exact ⟨_, _, rfl, fun w => Try.tabt true w⟩
    · exact ⟨_, _, rfl, fun w => Try.tabt false w⟩
    · exact ⟨_, _, rfl, fun w => Try.taba ak am a b c d m w⟩
  · dsimp only at hk
    match f, hl with
    | .cons h1 s1 .nil, _ =>
      obtain ⟨t, y, e⟩ := nd1_iface h1 s1.nds
      simp only [Fo.nds, e]
      rcases hk with rfl | rfl | rfl
      · exact ⟨_, _, rfl, fun w => Try.tabn t y w⟩
      · omega
      · omega
    | .cons _ _ (.cons _ _ r), hl => simp [Fo.len] at hl
  · dsimp only at hk
    match f, hl with
    | .cons h1 s1 (.cons h2 s2 .nil), _ =>
      obtain ⟨t, y, e⟩ := nd1_iface h1 s1.nds
      obtain ⟨u, z, q⟩ := nd1_iface h2 s2.nds
      simp only [Fo.nds, e, q]
      rcases hk with rfl | rfl
      · exact ⟨_, _, rfl, fun w => Try.tabp true t u y z w⟩
      · exact ⟨_, _, rfl, fun w => Try.tabp false t u y z w⟩
    | .cons _ _ .nil, hl => simp [Fo.len] at hl
    | .cons _ _ (.cons _ _ (.cons _ _ r)), hl => simp [Fo.len] at hl

set_option maxHeartbeats 1000000 in
/-- A node that is neither an atom nor a quantifier. -/
theorem sb_other (σ : SbD) (c : Bool) (cb vb tb : Nat) (h : FH) (f g : Fo) (ho : ownB h f.len = true) (h2 : h.k ≠ 2) (hq : qB h.k = false) (HC : SbS σ c f g) : SbP σ c cb vb tb (nd1 h f.nds) g.okB (nd1 h g.nds) := by
  intro w hi
  have HW := Lib.hid (fun cb vb tb => wp_any 112 _ (SbI σ c cb vb tb) en_subst (sbI_stays σ c cb vb tb) h f g ho (HC cb vb tb))
  have HSU := Lib.hid (fun W => subst_any σ c W)
  obtain ⟨t, y, e, hta⟩ := ta_bound_no h f ho hq
  obtain ⟨t2, y2, e2, hta2⟩ := ta_atom_no h f ho h2
  obtain ⟨rfl, rfl⟩ : t2 = t ∧ y2 = y := by rw [e] at e2; injection e2 with a b; exact ⟨a.symm, b.symm⟩
  obtain ⟨t', y', e'⟩ := nd1_iface h g.nds
  rw [e, e'] at HW
  rw [e, e']
  obtain ⟨i1, i2, i3, i4, ⟨i5, i6, i7, i8, i9, i10⟩⟩ := hi
  clear HC e e' e2
  show Calls Try.prog 112 #[.iface t2 y2, .pointer (some ⟨cb, 0, none⟩), .pointer (some ⟨vb, 0, none⟩), .pointer (some ⟨tb, 0, none⟩)] w _
  go_enter Try.func112, Try.ntmps112
  go_wp2_with fail
  refine (HSU.out w).mono ?_
  rintro e w1 ⟨cb', vb', tb', rfl, hi1, hb1⟩
  unfold SbV
  go_wp2_with fail
  refine (HW.out cb' vb' tb' w1 hi1).mono ?_
  rintro e w2 ⟨v2, rfl, hv2, hb2⟩
  go_wp2
  go_ret2
  exact ⟨_, rfl, hv2, below_on hb1 hb2⟩

theorem sbP_no {σ : SbD} {c : Bool} {cb vb tb : Nat} {x y y' : Value} (h : SbP σ c cb vb tb x false y) : SbP σ c cb vb tb x false y' := by
  intro w hi
  exact (h w hi).mono fun e w' hp => by
    obtain ⟨v, he, _, hb⟩ := hp
    exact ⟨v, he, fun h9 => absurd h9 (by simp), hb⟩

/-- One node, its parts' closures being told. -/
theorem sb_step (σ : SbD) (hσ : σ.ok) (h : FH) (f : Fo) (ho : ownB h f.len = true) (hok : f.okB = true) (H0 : SbS σ false f (f.sb σ)) (H1 : SbS σ true f (f.cz σ)) (cb vb tb : Nat) :
    SbP σ false cb vb tb (nd1 h f.nds) (sbK σ h f) (nd1 (sbF σ h f).1 (sbF σ h f).2.nds) ∧ SbP σ true cb vb tb (nd1 h f.nds) (!fr1 h σ.v (f.fr σ.v)) (nd1 h f.nds) := by
  have hcz := cz_not σ f hok
  by_cases h2 : h.k = 2
  · have hf1 : fr1 h σ.v (f.fr σ.v) = decide (sel h.a h.b h.c h.d σ.v 0 ≠ 0) := fr1_atom h2
    by_cases h0 : sel h.a h.b h.c h.d σ.v 0 = 0
    · have hf : fr1 h σ.v (f.fr σ.v) = false := by rw [hf1]; simpa using h0
      rw [sbK_not ho hok hf, sbF_not hf, hf]
      exact ⟨sb_atom0 σ false cb vb tb h f h2 h0, sb_atom0 σ true cb vb tb h f h2 h0⟩
    · have hf : fr1 h σ.v (f.fr σ.v) = true := by rw [hf1]; simpa using h0
      have a0 := sb_atom1 σ hσ false cb vb tb h f ho h2 h0
      have a1 := sb_atom1 σ hσ true cb vb tb h f ho h2 h0
      rw [Bool.not_true, Bool.and_false] at a1
      rw [Bool.not_false, Bool.and_true] at a0
      rw [hf]
      refine ⟨?_, sbP_no a1⟩
      unfold sbK sbF sbE
      rw [if_neg (by rw [hf]; simp), if_pos h2]
      cases ht : tvB (sbH σ h).a (sbH σ h).b (sbH σ h).c (sbH σ h).d (sbH σ h).n with
      | true =>
        rw [ht] at a0
        rw [if_pos rfl]
        have e : (ownB (sbH σ h) Fo.nil.len && Fo.nil.okB) = true := by
          have hav : avB h.ak h.am h.a h.b h.c h.d h.n = true := by
            unfold ownB atB at ho
            rw [if_pos h2] at ho
            simp only [Bool.and_eq_true] at ho
            exact ho.1.1
          have h9 : avB h.ak h.am (sbH σ h).a (sbH σ h).b (sbH σ h).c (sbH σ h).d (sbH σ h).n = true := by
            unfold avB at hav ⊢
            rw [ht]
            simp only [Bool.and_eq_true] at hav ⊢
            simp_all
          simp only [ownB, sbH, atB, Fo.len, Fo.okB, qB, subsI, Bool.and_true]
          simpa [sbH] using h9
        show SbP _ _ _ _ _ _ (ownB (sbH σ h) Fo.nil.len && Fo.nil.okB) _
        rw [e]
        exact a0
      | false =>
        rw [ht] at a0
        rw [if_neg (by simp)]
        show SbP _ _ _ _ _ _ (ownB badH Fo.nil.len && Fo.nil.okB) _
        rw [badH_own, Bool.false_and]
        exact sbP_no a0
  · cases hq : qB h.k with
    | false =>
      have hn : ¬ (qB h.k = true ∧ h.v = σ.v) := fun e => by rw [hq] at e; simp at e
      have hc : ¬ (qB h.k = true ∧ sel σ.a σ.b σ.c σ.d h.v 0 ≠ 0) := fun e => by rw [hq] at e; simp at e
      rw [sbK_else ho h2 hn hc, sbF_else h2 hn hc, fr1_other h2 hn, ← hcz.1]
      refine ⟨sb_other σ false cb vb tb h f _ ho h2 hq H0, ?_⟩
      have a1 := sb_other σ true cb vb tb h f _ ho h2 hq H1
      cases hf : f.fr σ.v with
      | true => rw [hcz.1, hf] at a1 ⊢; exact sbP_no a1
      | false => rw [hcz.2 hf] at a1 ⊢; exact a1
    | true =>
      by_cases hv : h.v = σ.v
      · have hf : fr1 h σ.v (f.fr σ.v) = false := fr1_bound hq hv
        rw [sbK_not ho hok hf, sbF_not hf, hf]
        exact ⟨sb_boundv σ false cb vb tb h f ho hq hv, sb_boundv σ true cb vb tb h f ho hq hv⟩
      · have hn : ¬ (qB h.k = true ∧ h.v = σ.v) := fun e => hv e.2
        have a1 := sb_bound σ true true cb vb tb h f _ ho hq hv (by simp) H1
        rw [fr1_other h2 hn, ← hcz.1]
        refine ⟨?_, ?_⟩
        · by_cases hc : sel σ.a σ.b σ.c σ.d h.v 0 = 0
          · have hc' : ¬ (qB h.k = true ∧ sel σ.a σ.b σ.c σ.d h.v 0 ≠ 0) := fun e => e.2 hc
            rw [sbK_else ho h2 hn hc', sbF_else h2 hn hc']
            exact sb_bound σ false false cb vb tb h f _ ho hq hv (by simp [hc]) H0
          · have a2 := sb_bound σ false true cb vb tb h f _ ho hq hv (by simp [hc]) H1
            cases hf : f.fr σ.v with
            | false =>
              have hf1 : fr1 h σ.v (f.fr σ.v) = false := by rw [fr1_other h2 hn]; exact hf
              rw [sbK_not ho hok hf1, sbF_not hf1]
              rw [hcz.1, hcz.2 hf, hf] at a2
              exact a2
            | true =>
              rw [hcz.1, hf] at a2
              unfold sbK sbF sbE
              rw [fr1_other h2 hn, hf, if_neg (by simp), if_neg h2, if_pos ⟨hq, hc⟩]
              show SbP _ _ _ _ _ _ (ownB badH Fo.nil.len && Fo.nil.okB) _
              rw [badH_own, Bool.false_and]
              exact sbP_no a2
        · cases hf : f.fr σ.v with
          | true => rw [hcz.1, hf] at a1 ⊢; exact sbP_no a1
          | false => rw [hcz.2 hf] at a1 ⊢; exact a1

/-- The closures at every node. -/
theorem sb_any (σ : SbD) (hσ : σ.ok) : ∀ (N : Nat) (h : FH) (f : Fo), f.size ≤ N → ownB h f.len = true → f.okB = true → ∀ cb vb tb : Nat,
    SbP σ false cb vb tb (nd1 h f.nds) (sbK σ h f) (nd1 (sbF σ h f).1 (sbF σ h f).2.nds) ∧ SbP σ true cb vb tb (nd1 h f.nds) (!fr1 h σ.v (f.fr σ.v)) (nd1 h f.nds) := by
  intro N
  induction N with
  | zero =>
    intro h f hf ho hok cb vb tb
    match f, hf, ho with
    | .cons _ _ _, hf, _ => simp [Fo.size] at hf
    | .nil, _, ho =>
      exact sb_step σ hσ h .nil ho rfl (fun _ _ _ => trivial) (fun _ _ _ => trivial) cb vb tb
  | succ N ih =>
    intro h f hf ho hok cb vb tb
    have hS : ∀ g : Fo, g.size ≤ N + 1 → g.okB = true → SbS σ false g (g.sb σ) ∧ SbS σ true g (g.cz σ) := by
      intro g
      induction g with
      | nil => intro _ _; exact ⟨fun _ _ _ => trivial, fun _ _ _ => trivial⟩
      | cons h1 s1 r _ ihr =>
        intro hg hgok
        simp only [Fo.size, Fo.okB, Bool.and_eq_true] at hg hgok
        have h5 := ihr (by omega) hgok.2
        refine ⟨fun cb vb tb => ⟨(ih h1 s1 (by omega) hgok.1.1 hgok.1.2 cb vb tb).1, h5.1 cb vb tb⟩, fun cb vb tb => ⟨?_, h5.2 cb vb tb⟩⟩
        have h4 := (ih h1 s1 (by omega) hgok.1.1 hgok.1.2 cb vb tb).2
        unfold czE
        cases hfr : fr1 h1 σ.v (s1.fr σ.v) with
        | true =>
          rw [hfr] at h4
          rw [if_pos rfl]
          dsimp only
          rw [badH_own, Bool.false_and]
          exact sbP_no h4
        | false =>
          rw [hfr] at h4
          rw [if_neg (by simp)]
          dsimp only
          rw [hgok.1.1, hgok.1.2]
          exact h4
    exact sb_step σ hσ h f ho hok (hS f hf hok).1 (hS f hf hok).2 cb vb tb

/-- The variable and the term are valid. -/
def svB (σ : SbD) : Bool := varB σ.v && tvB σ.a σ.b σ.c σ.d σ.n
theorem sv_ok {σ : SbD} (h : svB σ = true) : σ.ok := by
  unfold svB at h
  simp only [Bool.and_eq_true] at h
  exact ⟨h.2, by simpa [varB] using h.1⟩
/-- The formula with the term put in is valid. -/
def ssB (σ : SbD) (h : FH) (f : Fo) : Bool := svB σ && (vfB h f && vfB (sbF σ h f).1 (sbF σ h f).2)
theorem TermValid_b (σ : SbD) (t : Bool) (w : World) (ht : tvB σ.a σ.b σ.c σ.d σ.n = t) : Calls Try.prog 40 #[.agg #[.int .i64 σ.a, .int .i64 σ.b, .int .i64 σ.c, .int .i64 σ.d, .int .i64 σ.n]] w (BoolT t w) :=
  (TermValid_is σ.a σ.b σ.c σ.d σ.n t w ht).mono fun _ _ hp => ⟨hp.1, by rw [← hp.2]; go_grown⟩

set_option maxRecDepth 10000 in
set_option maxHeartbeats 2000000 in
theorem SubstFormula_bad (σ : SbD) (h : FH) (w : World) (s : Value) (hsl : ∃ a n c, s = .slice a n c) (hb : svB σ = false) :
    Calls Try.prog 27 #[.agg #[.int .i64 h.k, .int .i64 h.ak, .int .i64 h.am, .int .i64 h.a, .int .i64 h.b, .int .i64 h.c, .int .i64 h.d, .int .i64 h.n, .int .i64 h.v, s], .int .i64 σ.v, .agg #[.int .i64 σ.a, .int .i64 σ.b, .int .i64 σ.c, .int .i64 σ.d, .int .i64 σ.n]] w (VnT w) := by
  obtain ⟨sa0, sn0, sc0, rfl⟩ := hsl
  have HI := Lib.hid (fun W => isVar_any σ.v W)
  cases hv : varB σ.v with
  | false =>
    rw [hv] at HI
    clear hv hb
    go_enter Try.func27, Try.ntmps27
    go_wp2_with fail
    generalize hW : World.alloc _ _ = W
    have hw4 : Below w.heap.size w W := by subst hW; go_grown
    have hz4 : C10 W (w.heap.size + 1 + 1) ⟨0, 0, 0, 0, 0, 0, 0, 0, 0⟩ (.slice none 0 0) := by subst hW; exact (by refine ⟨?_, ?_, ?_, ?_, ?_, ?_, ?_, ?_, ?_, ?_, ?_⟩ <;> first | (simp [go_sem]; done) | (simp; omega))
    have fz4 : ∀ o, W.frozen? ⟨w.heap.size + 1 + 1, o, none⟩ = false := fun o => by subst hW; simp [go_sem]
    clear hW
    refine (HI.out W).mono ?_
    rintro e w' ⟨rfl, rfl⟩
    obtain ⟨z0, e0, e1, e2, e3, e4, e5, e6, e7, e8, e9⟩ := id hz4
    go_upto_region 30 with fail
    generalize hW7 : World.setCell _ _ _ = W7
    obtain ⟨hz7, _, _, _⟩ := ten_set (g := ⟨0, 0, 0, 0, 0, 0, 0, 0, 0⟩) hz4 hW7
    have hw7 : Below w.heap.size w W7 := hw4.trans ((put10b (g := ⟨0, 0, 0, 0, 0, 0, 0, 0, 0⟩) hz4 hW7).2 w.heap.size (by omega))
    obtain ⟨y0, y1, y2, y3, y4, y5, y6, y7, y8, y9, y10⟩ := hz7
    clear hW7 z0 e0 e1 e2 e3 e4 e5 e6 e7 e8 e9
    go_wp2
    refine bodyPost_ret (v := .tuple #[.agg #[.int .i64 0, .int .i64 0, .int .i64 0, .int .i64 0, .int .i64 0, .int .i64 0, .int .i64 0, .int .i64 0, .int .i64 0, .slice none 0 0], .bool false]) (by simp [results, Try.results27, go_sem, y1, y2, y3, y4, y5, y6, y7, y8, y9, y10]) rfl ⟨rfl, hw7⟩
  | true =>
    rw [hv] at HI
    have ht : tvB σ.a σ.b σ.c σ.d σ.n = false := by unfold svB at hb; rw [hv] at hb; simpa using hb
    have HT := Lib.hid (fun W => TermValid_b σ false W ht)
    clear hv hb ht
    go_enter Try.func27, Try.ntmps27
    go_wp2_with fail
    generalize hW : World.alloc _ _ = W
    have hw : Below w.heap.size w W := by subst hW; go_grown
    have hy : C5 W (w.heap.size + 1) σ.a σ.b σ.c σ.d σ.n := by subst hW; exact (by refine ⟨?_, ?_, ?_, ?_, ?_, ?_⟩ <;> first | (simp [go_sem]; done) | (simp; omega))
    have hx : C10 W (w.heap.size + 1 + 1) ⟨0, 0, 0, 0, 0, 0, 0, 0, 0⟩ (.slice none 0 0) := by subst hW; exact (by refine ⟨?_, ?_, ?_, ?_, ?_, ?_, ?_, ?_, ?_, ?_, ?_⟩ <;> first | (simp [go_sem]; done) | (simp; omega))
    have hf : ∀ o, W.frozen? ⟨w.heap.size + 1 + 1, o, none⟩ = false := fun o => by subst hW; simp [go_sem]
    clear hW
    refine (HI.out W).mono ?_
    rintro e w' ⟨rfl, rfl⟩
    obtain ⟨j0, j1, j2, j3, j4, j5⟩ := id hy
    go_wp2_with fail
    refine (HT.out W).mono ?_
    rintro e w4 ⟨rfl, hb4⟩
    have hz4 := c10_on hx hb4
    have fz4 : ∀ o, w4.frozen? ⟨w.heap.size + 1 + 1, o, none⟩ = false := fun o => ((bcell hb4).2 _ o hx.1).trans (hf o)
    have hw4 := below_on hw hb4
    obtain ⟨z0, e0, e1, e2, e3, e4, e5, e6, e7, e8, e9⟩ := id hz4
    clear hb4 hx hf hw hy j0 j1 j2 j3 j4 j5
    go_upto_region 30 with fail
    generalize hW7 : World.setCell _ _ _ = W7
    obtain ⟨hz7, _, _, _⟩ := ten_set (g := ⟨0, 0, 0, 0, 0, 0, 0, 0, 0⟩) hz4 hW7
    have hw7 : Below w.heap.size w W7 := hw4.trans ((put10b (g := ⟨0, 0, 0, 0, 0, 0, 0, 0, 0⟩) hz4 hW7).2 w.heap.size (by omega))
    obtain ⟨y0, y1, y2, y3, y4, y5, y6, y7, y8, y9, y10⟩ := hz7
    clear hW7 z0 e0 e1 e2 e3 e4 e5 e6 e7 e8 e9
    go_wp2
    refine bodyPost_ret (v := .tuple #[.agg #[.int .i64 0, .int .i64 0, .int .i64 0, .int .i64 0, .int .i64 0, .int .i64 0, .int .i64 0, .int .i64 0, .int .i64 0, .slice none 0 0], .bool false]) (by simp [results, Try.results27, go_sem, y1, y2, y3, y4, y5, y6, y7, y8, y9, y10]) rfl ⟨rfl, hw7⟩

theorem keep15u {W w' : World} {x : Nat} {h : FH} {s : Value} {a b c d n : Int} (hx : C10 W x h s) (hy : C5 W (x + 1) a b c d n) (hB : Below (x + 1 + 1) W w') : Below (x + 1 + 1) W w' ∧ w'.cell? ⟨x, 0, none⟩ = some (.int .i64 h.k) ∧ w'.cell? ⟨x, 1, none⟩ = some (.int .i64 h.ak) ∧ w'.cell? ⟨x, 2, none⟩ = some (.int .i64 h.am) ∧ w'.cell? ⟨x, 3, none⟩ = some (.int .i64 h.a) ∧ w'.cell? ⟨x, 4, none⟩ = some (.int .i64 h.b) ∧ w'.cell? ⟨x, 5, none⟩ = some (.int .i64 h.c) ∧ w'.cell? ⟨x, 6, none⟩ = some (.int .i64 h.d) ∧ w'.cell? ⟨x, 7, none⟩ = some (.int .i64 h.n) ∧ w'.cell? ⟨x, 8, none⟩ = some (.int .i64 h.v) ∧ w'.cell? ⟨x, 9, none⟩ = some (s) ∧ w'.cell? ⟨x + 1, 0, none⟩ = some (.int .i64 a) ∧ w'.cell? ⟨x + 1, 1, none⟩ = some (.int .i64 b) ∧ w'.cell? ⟨x + 1, 2, none⟩ = some (.int .i64 c) ∧ w'.cell? ⟨x + 1, 3, none⟩ = some (.int .i64 d) ∧ w'.cell? ⟨x + 1, 4, none⟩ = some (.int .i64 n) := by
  have f : ∀ o, w'.cell? ⟨x, o, none⟩ = W.cell? ⟨x, o, none⟩ := fun o => World.cell?_of_block (hB.block x (by omega))
  have g : ∀ o, w'.cell? ⟨x + 1, o, none⟩ = W.cell? ⟨x + 1, o, none⟩ := fun o => World.cell?_of_block (hB.block (x + 1) (by omega))
  obtain ⟨h0, h1, h2, h3, h4, h5, h6, h7, h8, h9, h10⟩ := hx
  obtain ⟨g0, g1, g2, g3, g4, g5⟩ := hy
  simp only [f, g]
  exact ⟨hB, h1, h2, h3, h4, h5, h6, h7, h8, h9, h10, g1, g2, g3, g4, g5⟩

set_option maxRecDepth 10000 in
set_option maxHeartbeats 2000000 in
theorem SubstFormula_good (σ : SbD) (h : FH) (f : Fo) (w : World) (lo : Nat) (s : Value) (hs : FS w lo f s) (hb : svB σ = true) :
    Calls Try.prog 27 #[.agg #[.int .i64 h.k, .int .i64 h.ak, .int .i64 h.am, .int .i64 h.a, .int .i64 h.b, .int .i64 h.c, .int .i64 h.d, .int .i64 h.n, .int .i64 h.v, s], .int .i64 σ.v, .agg #[.int .i64 σ.a, .int .i64 σ.b, .int .i64 σ.c, .int .i64 σ.d, .int .i64 σ.n]] w (FrT (okQ (vfB h f && vfB (sbF σ h f).1 (sbF σ h f).2) (sbF σ h f).1 (sbF σ h f).2) (vfB h f && vfB (sbF σ h f).1 (sbF σ h f).2) w) := by
  have hσ := sv_ok hb
  have HC : Hid (∀ (cb vb tb : Nat) (W : World), SbI σ false cb vb tb W → Below w.heap.size w W → Calls Try.prog 74 #[.agg #[.int .i64 h.k, .int .i64 h.ak, .int .i64 h.am, .int .i64 h.a, .int .i64 h.b, .int .i64 h.c, .int .i64 h.d, .int .i64 h.n, .int .i64 h.v, s], SbV cb vb tb] W (FrT (okQ (vfB h f && vfB (sbF σ h f).1 (sbF σ h f).2) (sbF σ h f).1 (sbF σ h f).2) (vfB h f && vfB (sbF σ h f).1 (sbF σ h f).2) W)) := by
    intro cb vb tb W hi hW
    have hsW := FS.below (w := w) hW (Nat.le_refl _) hs
    by_cases hv : vfB h f = true
    · have h3 := vf_parts hv
      exact changed_any 112 _ (SbI σ false cb vb tb) en_subst (sbI_stays σ false cb vb tb) h _ f _ W lo s hi hsW (by have := sbF_size σ h f; omega) (fun _ => (sb_any σ hσ f.size h f (Nat.le_refl _) h3.1 h3.2.1 cb vb tb).1)
    · have hv' : vfB h f = false := by simpa using hv
      have e2 : okQ (vfB h f && vfB (sbF σ h f).1 (sbF σ h f).2) (sbF σ h f).1 (sbF σ h f).2 = okQ (vfB h f && vfB h00 .nil) h00 .nil := by rw [hv']; rfl
      have e : (vfB h f && vfB (sbF σ h f).1 (sbF σ h f).2) = (vfB h f && vfB h00 .nil) := by rw [hv']; rfl
      rw [e2, e]
      exact changed_any 112 _ (SbI σ false cb vb tb) en_subst (sbI_stays σ false cb vb tb) h h00 f .nil W lo s hi hsW (Nat.zero_le _) (fun h9 => absurd h9 hv)
  have hvt : varB σ.v = true ∧ tvB σ.a σ.b σ.c σ.d σ.n = true := by unfold svB at hb; simpa using hb
  have HI := Lib.hid (fun W => isVar_yes σ.v W hσ.2.1 hσ.2.2)
  have HT := Lib.hid (fun W => TermValid_b σ true W hvt.2)
  have HSU := Lib.hid (fun W => subst_any σ false W)
  obtain ⟨q, hq⟩ : ∃ q, okQ (vfB h f && vfB (sbF σ h f).1 (sbF σ h f).2) (sbF σ h f).1 (sbF σ h f).2 = q := ⟨_, rfl⟩
  obtain ⟨ok, hok⟩ : ∃ ok, (vfB h f && vfB (sbF σ h f).1 (sbF σ h f).2) = ok := ⟨_, rfl⟩
  rw [hq, hok] at HC
  rw [hq, hok]
  obtain ⟨sa0, sn0, sc0, rfl⟩ := hs.slice
  clear hs hq hok hσ hvt hb
  go_enter Try.func27, Try.ntmps27
  go_wp2_with fail
  generalize hW : World.alloc _ _ = W0
  have hw0 : Below w.heap.size w W0 := by subst hW; go_grown
  have hx0 : C10 W0 w.heap.size h (.slice sa0 sn0 sc0) := by subst hW; exact (by refine ⟨?_, ?_, ?_, ?_, ?_, ?_, ?_, ?_, ?_, ?_, ?_⟩ <;> first | (simp [go_sem]; done) | (simp; omega))
  have hy0 : C5 W0 (w.heap.size + 1) σ.a σ.b σ.c σ.d σ.n := by subst hW; exact (by refine ⟨?_, ?_, ?_, ?_, ?_, ?_⟩ <;> first | (simp [go_sem]; done) | (simp; omega))
  have hz0 : C10 W0 (w.heap.size + 1 + 1) ⟨0, 0, 0, 0, 0, 0, 0, 0, 0⟩ (.slice none 0 0) := by subst hW; exact (by refine ⟨?_, ?_, ?_, ?_, ?_, ?_, ?_, ?_, ?_, ?_, ?_⟩ <;> first | (simp [go_sem]; done) | (simp; omega))
  have hf0 : ∀ o, W0.frozen? ⟨w.heap.size + 1 + 1, o, none⟩ = false := fun o => by subst hW; simp [go_sem]
  clear hW
  refine (HI.out W0).mono ?_
  rintro e w' ⟨rfl, rfl⟩
  obtain ⟨j0, j1, j2, j3, j4, j5⟩ := id hy0
  go_wp2_with fail
  refine (HT.out W0).mono ?_
  rintro e W ⟨rfl, hb4⟩
  have hx := c10_on hx0 hb4
  have hy := c5_on hy0 hb4
  have hz := c10_on hz0 hb4
  have hf : ∀ o, W.frozen? ⟨w.heap.size + 1 + 1, o, none⟩ = false := fun o => ((bcell hb4).2 _ o hz0.1).trans (hf0 o)
  have hw := below_on hw0 hb4
  have hsW : w.heap.size + 1 + 1 < W.heap.size := hz.1
  clear hb4 hx0 hy0 hz0 hf0 hw0 j0 j1 j2 j3 j4 j5
  go_wp2_with fail
  refine wp_region_held_drew (S := (fun w' => Below (w.heap.size + 1 + 1) W w' ∧ w'.cell? ⟨w.heap.size, 0, none⟩ = some (.int .i64 h.k) ∧ w'.cell? ⟨w.heap.size, 1, none⟩ = some (.int .i64 h.ak) ∧ w'.cell? ⟨w.heap.size, 2, none⟩ = some (.int .i64 h.am) ∧ w'.cell? ⟨w.heap.size, 3, none⟩ = some (.int .i64 h.a) ∧ w'.cell? ⟨w.heap.size, 4, none⟩ = some (.int .i64 h.b) ∧ w'.cell? ⟨w.heap.size, 5, none⟩ = some (.int .i64 h.c) ∧ w'.cell? ⟨w.heap.size, 6, none⟩ = some (.int .i64 h.d) ∧ w'.cell? ⟨w.heap.size, 7, none⟩ = some (.int .i64 h.n) ∧ w'.cell? ⟨w.heap.size, 8, none⟩ = some (.int .i64 h.v) ∧ w'.cell? ⟨w.heap.size, 9, none⟩ = some (.slice sa0 sn0 sc0) ∧ w'.cell? ⟨w.heap.size + 1, 0, none⟩ = some (.int .i64 σ.a) ∧ w'.cell? ⟨w.heap.size + 1, 1, none⟩ = some (.int .i64 σ.b) ∧ w'.cell? ⟨w.heap.size + 1, 2, none⟩ = some (.int .i64 σ.c) ∧ w'.cell? ⟨w.heap.size + 1, 3, none⟩ = some (.int .i64 σ.d) ∧ w'.cell? ⟨w.heap.size + 1, 4, none⟩ = some (.int .i64 σ.n))) (by kernel_rfl) ?_ (fun hHeld => ?_)
  · try dsimp only
    exact keep15u hx hy (by go_grown)
  refine wpAnyH_take (i := 0) (oi := { dst := some 17, op := Go.Op.load 56 (Go.Operand.tmp 3), type := 56, pos := "l4_forms.go:204", after := #[], guard := none }) (v := ?_) rfl (by kernel_rfl) (by kernel_rfl) (by kernel_rfl) (fun _ _ _ h => h) (Or.inl ⟨by rfl, ?_⟩) (by assumption) ?_
  rotate_left
  · (intro w hSw; (try dsimp only at hSw); first | (go_simp; done) | (go_simp; with_reducible rfl))
  try simp only [Act.put, List.setIfInBounds_toArray, List.set_cons_zero, List.set_cons_succ]
  refine wpAnyH_take (i := 1) (oi := { dst := some 18, op := Go.Op.move (Go.Operand.tmp 1), type := 3, pos := "l4_forms.go:204", after := #[], guard := none }) (v := ?_) rfl (by kernel_rfl) (by kernel_rfl) (by kernel_rfl) (fun _ _ _ h => h) (Or.inl ⟨by rfl, ?_⟩) (by assumption) ?_
  rotate_left
  · (intro w hSw; (try dsimp only at hSw); first | (go_simp; done) | (go_simp; with_reducible rfl))
  try simp only [Act.put, List.setIfInBounds_toArray, List.set_cons_zero, List.set_cons_succ]
  refine wpAnyH_take (i := 2) (oi := { dst := some 19, op := Go.Op.load 24 (Go.Operand.tmp 5), type := 24, pos := "l4_forms.go:204", after := #[], guard := none }) (v := ?_) rfl (by kernel_rfl) (by kernel_rfl) (by kernel_rfl) (fun _ _ _ h => h) (Or.inl ⟨by rfl, ?_⟩) (by assumption) ?_
  rotate_left
  · (intro w hSw; (try dsimp only at hSw); first | (go_simp; done) | (go_simp; with_reducible rfl))
  try simp only [Act.put, List.setIfInBounds_toArray, List.set_cons_zero, List.set_cons_succ]
  refine wpAnyH_ready (rs := [3]) (by kernel_rfl) (by simp) ?_
  refine AllReadyH.cons (o := { dst := some 20, op := Go.Op.call { callee := Go.Callee.value (Go.Operand.func 75), args := #[Go.Operand.tmp 18, Go.Operand.tmp 19, Go.Operand.const (Go.Value.bool false)], argTypes := #[3, 24, 4] }, type := 108, pos := "l4_forms.go:204", after := #[{ on := 1, ground := Go.Ground.data }, { on := 2, ground := Go.Ground.data }], guard := none }) rfl (fun K hK => ?_) AllReadyH.nil
  go_simp
  (go_at_call 75; refine (HSU.out _).mono ?_; rintro e w1 ⟨cb, vb, tb, rfl, hi1, hb1⟩; unfold SbV; have hbb1 := below_on (w := W) (by go_grown) hb1; have hsw1 : W.heap.size ≤ w1.heap.size := hbb1.size; have hbl1 := hbb1.mono (show w.heap.size + 1 + 1 ≤ W.heap.size by omega))
  (try go_wp2_with fail)
  refine hK.out _ _ ?_ (fun hHeld => ?_)
  · try dsimp only
    exact keep15u hx hy (by go_grown)
  clear hK K
  try simp only [Act.put, List.setIfInBounds_toArray, List.set_cons_zero, List.set_cons_succ]
  refine wpAnyH_ready (rs := [4]) (by kernel_rfl) (by simp) ?_
  refine AllReadyH.cons (o := { dst := some 21, op := Go.Op.call { callee := Go.Callee.value (Go.Operand.func 74), args := #[Go.Operand.tmp 17, Go.Operand.tmp 20], argTypes := #[56, 108] }, type := 57, pos := "l4_forms.go:204", after := #[{ on := 0, ground := Go.Ground.data }, { on := 3, ground := Go.Ground.data }, { on := 3, ground := Go.Ground.chain }], guard := none }) rfl (fun K hK => ?_) AllReadyH.nil
  go_simp
  (go_at_call 74; refine (HC.out cb vb tb w1 hi1 (below_on hw hbb1)).mono ?_; rintro e w3 ⟨s3, rfl, hs3, hb3⟩; obtain ⟨sa, sn, sc, rfl⟩ := hs3.slice; have HS3 := Lib.hid hs3; have hbb3 := below_on (w := W) (by go_grown) hb3; have hbl3 := hbb3.mono (show w.heap.size + 1 + 1 ≤ W.heap.size by omega); have hx3 := c10_on hz hbb3; have hf3 : ∀ o, w3.frozen? ⟨w.heap.size + 1 + 1, o, none⟩ = false := (fun o => ((bcell hbb3).2 _ o hz.1).trans (hf o)); obtain ⟨x0, c0, c1, c2, c3, c4, c5, c6, c7, c8, c9⟩ := id hx3)
  (try go_wp2_with fail)
  refine hK.out _ _ ?_ (fun hHeld => ?_)
  · try dsimp only
    exact keep15u hx hy (by go_grown)
  clear hK K
  try simp only [Act.put, List.setIfInBounds_toArray, List.set_cons_zero, List.set_cons_succ]
  refine wpAnyH_take (i := 5) (oi := { dst := some 22, op := Go.Op.extract (Go.Operand.tmp 21) 0, type := 56, pos := "l4_forms.go:204", after := #[{ on := 4, ground := Go.Ground.data }], guard := none }) (v := ?_) rfl (by kernel_rfl) (by kernel_rfl) (by kernel_rfl) (fun _ _ _ h => h) (Or.inl ⟨by rfl, ?_⟩) (by assumption) ?_
  rotate_left
  · (intro w hSw; (try dsimp only at hSw); first | (go_simp; done) | (go_simp; with_reducible rfl))
  try simp only [Act.put, List.setIfInBounds_toArray, List.set_cons_zero, List.set_cons_succ]
  refine wpAnyH_take (i := 6) (oi := { dst := some 23, op := Go.Op.extract (Go.Operand.tmp 21) 1, type := 4, pos := "l4_forms.go:204", after := #[{ on := 4, ground := Go.Ground.data }], guard := none }) (v := ?_) rfl (by kernel_rfl) (by kernel_rfl) (by kernel_rfl) (fun _ _ _ h => h) (Or.inl ⟨by rfl, ?_⟩) (by assumption) ?_
  rotate_left
  · (intro w hSw; (try dsimp only at hSw); first | (go_simp; done) | (go_simp; with_reducible rfl))
  try simp only [Act.put, List.setIfInBounds_toArray, List.set_cons_zero, List.set_cons_succ]
  refine wpAnyH_ready (rs := [7]) (by kernel_rfl) (by simp) ?_
  refine AllReadyH.cons (o := { dst := none, op := Go.Op.store 56 (Go.Operand.tmp 6) (Go.Operand.tmp 22), type := 0, pos := "l4_forms.go:204", after := #[{ on := 5, ground := Go.Ground.data }, { on := 4, ground := Go.Ground.chain }, { on := 0, ground := Go.Ground.phase }, { on := 1, ground := Go.Ground.phase }, { on := 2, ground := Go.Ground.phase }, { on := 3, ground := Go.Ground.phase }, { on := 4, ground := Go.Ground.phase }, { on := 5, ground := Go.Ground.phase }, { on := 6, ground := Go.Ground.phase }], guard := none }) rfl (fun K hK => ?_) AllReadyH.nil
  go_simp
  refine hK.out _ _ ?_ (fun hHeld => ?_)
  · try dsimp only
    exact keep15u hx hy (by go_grown)
  clear hK K
  try simp only [Act.put, List.setIfInBounds_toArray, List.set_cons_zero, List.set_cons_succ]
  refine wpAnyH_take (i := 8) (oi := { dst := some 7, op := Go.Op.assign (Go.Operand.tmp 23), type := 4, pos := "l4_forms.go:204", after := #[{ on := 6, ground := Go.Ground.data }, { on := 7, ground := Go.Ground.chain }, { on := 0, ground := Go.Ground.phase }, { on := 1, ground := Go.Ground.phase }, { on := 2, ground := Go.Ground.phase }, { on := 3, ground := Go.Ground.phase }, { on := 4, ground := Go.Ground.phase }, { on := 5, ground := Go.Ground.phase }, { on := 6, ground := Go.Ground.phase }, { on := 7, ground := Go.Ground.phase }], guard := none }) (v := ?_) rfl (by kernel_rfl) (by kernel_rfl) (by kernel_rfl) (fun _ _ _ h => h) (Or.inl ⟨by rfl, ?_⟩) (by assumption) ?_
  rotate_left
  · (intro w hSw; (try dsimp only at hSw); first | (go_simp; done) | (go_simp; with_reducible rfl))
  try simp only [Act.put, List.setIfInBounds_toArray, List.set_cons_zero, List.set_cons_succ]
  refine wpAnyH_done (by kernel_rfl) ?_ _
  generalize hW7 : World.setCell _ _ _ = W7
  have hblk7 : ∀ x, x ≠ w.heap.size + 1 + 1 → W7.heap[x]? = w3.heap[x]? := fun x hx => by subst hW7; repeat rw [Below.heap_setCell _ _ _ _ (by dsimp only; omega)]
  have hsz7 : W7.heap.size = w3.heap.size := by subst hW7; simp [World.setCell]
  obtain ⟨hx7, hb7⟩ := put10b (g := q.1) hx3 hW7
  have hww7 := (below_on hw hbb3).trans (hb7 w.heap.size (by omega))
  have HS7 : Hid (SF W7 w.heap.size W7.heap.size q.2 (.slice sa sn sc)) := by
    have h0 := SF.same (w' := W7) (fun x h1 _ => hblk7 x (by have h2 : W.heap.size ≤ x := Nat.le_trans hsw1 h1; omega)) HS3.out
    exact SF.mono (by omega) (by omega) h0
  obtain ⟨z0, k0, k1, k2, k3, k4, k5, k6, k7, k8, k9⟩ := hx7
  clear hW7 hblk7 hsz7
  go_wp2
  refine bodyPost_ret (v := .tuple #[.agg #[.int .i64 q.1.k, .int .i64 q.1.ak, .int .i64 q.1.am, .int .i64 q.1.a, .int .i64 q.1.b, .int .i64 q.1.c, .int .i64 q.1.d, .int .i64 q.1.n, .int .i64 q.1.v, .slice sa sn sc], .bool ok]) (by simp [results, Try.results27, go_sem, k0, k1, k2, k3, k4, k5, k6, k7, k8, k9]) rfl ⟨_, rfl, HS7.out, hww7⟩

theorem SubstFormula_any (σ : SbD) (h : FH) (f : Fo) (w : World) (lo : Nat) (s : Value) (hs : FS w lo f s) :
    Calls Try.prog 27 #[.agg #[.int .i64 h.k, .int .i64 h.ak, .int .i64 h.am, .int .i64 h.a, .int .i64 h.b, .int .i64 h.c, .int .i64 h.d, .int .i64 h.n, .int .i64 h.v, s], .int .i64 σ.v, .agg #[.int .i64 σ.a, .int .i64 σ.b, .int .i64 σ.c, .int .i64 σ.d, .int .i64 σ.n]] w (FrT (okQ (ssB σ h f) (sbF σ h f).1 (sbF σ h f).2) (ssB σ h f) w) := by
  unfold ssB
  cases hb : svB σ with
  | false =>
    rw [Bool.false_and]
    exact (SubstFormula_bad σ h w s hs.slice hb).mono fun _ _ hp => fr_no hp
  | true =>
    rw [Bool.true_and]
    exact SubstFormula_good σ h f w lo s hs hb

end Go.Proofs.Ytcgolbkpfncgpaa

/- The contract of the model's l4Subst. -/
namespace Go.Proofs.Ytcgolbkpfncgpaa
open Go.RowKit

/-- Blocks that a growing list's formulas may lie in. -/
def QR (R : Nat → Prop) (g N k : Nat) : Prop := R k ∧ k ≠ g ∧ k < N
/-- The list v, made since block B, holds the formulas pre; their lists lie in blocks with R. -/
def FOwnR (w : World) (B : Nat) (R : Nat → Prop) (v : Value) (pre : Fo) : Prop :=
  ∃ xs, w.ownsRow B 56 10 v pre.len xs ∧ ((v = .slice none 0 0 ∧ pre = .nil) ∨ ∃ g cap, v = .slice (some ⟨g, 0, none⟩) pre.len cap ∧ FElP w (QR R g w.heap.size) pre g 0)
theorem fownR_nil (w : World) (B : Nat) (R : Nat → Prop) : FOwnR w B R (.slice none 0 0) .nil := ⟨[], World.ownsRow_nil _ _ _ _, .inl ⟨rfl, rfl⟩⟩
theorem fownR_below {w w' : World} {B : Nat} {R : Nat → Prop} {v : Value} {pre : Fo} (h : FOwnR w B R v pre) (hb : Below w.heap.size w w') : FOwnR w' B R v pre := by
  obtain ⟨xs, ho, hc⟩ := h
  refine ⟨xs, own_below ho hb, ?_⟩
  rcases hc with hc | ⟨g, cap, rfl, hel⟩
  · exact .inl hc
  · have hlt := ho.lt g rfl
    have hs := hb.size
    exact .inr ⟨g, cap, rfl, FElP.moved hs (fun k hk => hb.block k hk.2.2) (fun k hk => ⟨hk.1, hk.2.1, Nat.lt_of_lt_of_le hk.2.2 hs⟩) pre g g 0 (fun j _ _ => (bcell hb).1 g j hlt.2) hel⟩
theorem fownR_put {w w' : World} {B x : Nat} {R : Nat → Prop} {v : Value} {pre : Fo} (h : FOwnR w B R v pre) (hx : x < B) (hl : ¬ R x) (hk : ∀ k, k ≠ x → w'.heap[k]? = w.heap[k]?) (hs : w'.heap.size = w.heap.size) : FOwnR w' B R v pre := by
  obtain ⟨xs, ho, hc⟩ := h
  rcases hc with ⟨rfl, rfl⟩ | ⟨g, cap, rfl, hel⟩
  · exact fownR_nil _ _ _
  · have hlt := ho.lt g rfl
    refine ⟨xs, own_block ho (hk g (by omega)), .inr ⟨g, cap, rfl, FElP.moved (Nat.le_of_eq hs.symm) (fun k hq => hk k (fun e => hl (e ▸ hq.1))) (fun k hq => ⟨hq.1, hq.2.1, by have := hq.2.2; omega⟩) pre g g 0 (fun j _ _ => World.cell?_of_block (hk g (by omega))) hel⟩⟩
theorem fownR_slice {w : World} {B : Nat} {R : Nat → Prop} {v : Value} {pre : Fo} (h : FOwnR w B R v pre) : ∃ a c, v = .slice a pre.len c := by
  obtain ⟨xs, _, ⟨rfl, rfl⟩ | ⟨g, cap, rfl, _⟩⟩ := h
  · exact ⟨_, _, rfl⟩
  · exact ⟨_, _, rfl⟩
theorem FElP.weak {w : World} {P Q : Nat → Prop} (hq : ∀ k, P k → Q k) (f : Fo) (b o : Nat) (h : FElP w P f b o) : FElP w Q f b o :=
  FElP.moved (Nat.le_refl _) (fun _ _ => rfl) hq f b b o (fun _ _ _ => rfl) h
theorem FSP.weak {w : World} {P Q : Nat → Prop} {f : Fo} {s : Value} (hq : ∀ k, P k → Q k) (h : FSP w P f s) : FSP w Q f s := FSP.kept (Nat.le_refl _) (fun _ _ _ => rfl) hq h
theorem FElP.lt {w : World} {P : Nat → Prop} : ∀ (f : Fo) (b o : Nat), FElP w P f b o → FElP w (fun k => P k ∧ k < w.heap.size) f b o := by
  intro f
  induction f with
  | nil => intro _ _ _; trivial
  | cons h s r ihs ihr =>
    rintro b o ⟨⟨sl, hr, hsl⟩, hrest⟩
    refine ⟨⟨sl, hr, ?_⟩, ihr b (o + 10) hrest⟩
    rcases hsl with h0 | ⟨h0, b', o', cap, e, h1, h2, h3, h4, h5⟩
    · exact .inl h0
    · exact .inr ⟨h0, b', o', cap, e, h1, h2, ⟨h3, h4⟩, h4, ihs b' o' h5⟩
theorem FSP.lt {w : World} {P : Nat → Prop} {f : Fo} {s : Value} (h : FSP w P f s) : FSP w (fun k => P k ∧ k < w.heap.size) f s := by
  rcases h with h0 | ⟨h0, b', o', cap, e, h1, h2, h3, h4, h5⟩
  · exact .inl h0
  · exact .inr ⟨h0, b', o', cap, e, h1, h2, ⟨h3, h4⟩, h4, FElP.lt f b' o' h5⟩
theorem fownR_fsp {w : World} {B : Nat} {R : Nat → Prop} {v : Value} {pre : Fo} (h : FOwnR w B R v pre) : FSP w (fun k => (R k ∨ B ≤ k) ∧ k < w.heap.size) pre v := by
  obtain ⟨xs, ho, ⟨rfl, rfl⟩ | ⟨g, cap, rfl, hel⟩⟩ := h
  · exact .inl ⟨rfl, none, 0, rfl, Nat.le_refl _, Nat.zero_le _⟩
  · have hlt := ho.lt g rfl
    have hcap : pre.len ≤ cap ∧ cap ≤ maxLen := by
      rcases ho.2 with ⟨e, _⟩ | ⟨g', cap', cur, e, _, _, h1, h2, _⟩
      · simp at e
      · injection e with _ _ e3
        subst e3
        exact ⟨h1, h2⟩
    by_cases h0 : pre.len = 0
    · exact .inl ⟨h0, _, cap, by rw [h0], Nat.zero_le _, hcap.2⟩
    · exact .inr ⟨by omega, g, 0, cap, rfl, hcap.1, hcap.2, ⟨.inr hlt.1, hlt.2⟩, hlt.2, FElP.weak (fun k hk => ⟨.inl hk.1, hk.2.2⟩) pre g 0 hel⟩

/-- One formula more. -/
theorem fownR_app {wa w4 : World} {B : Nat} {R : Nat → Prop} {v : Value} {pre : Fo} (h2 : FH) (f2 : Fo) (sa : Option Addr) (sn sc : Nat) (h : FOwnR wa B R v pre) (hn : pre.len ≤ 1048576) (hB : B ≤ w4.heap.size) (hb4 : Below wa.heap.size wa w4)
    (hs2 : FSP w4 (fun k => R k ∧ (k < B ∨ wa.heap.size ≤ k) ∧ k < w4.heap.size) f2 (.slice sa sn sc)) :
    ∃ v1 w5, (Builtin.append_ #[54, 54] 54 #[v, .slice (some ⟨w4.heap.size, 0, none⟩) 1 1]).run Try.prog (w4.alloc (.cells #[.int .i64 h2.k, .int .i64 h2.ak, .int .i64 h2.am, .int .i64 h2.a, .int .i64 h2.b, .int .i64 h2.c, .int .i64 h2.d, .int .i64 h2.n, .int .i64 h2.v, .slice sa sn sc] 56)) = .ok v1 w5 ∧ FOwnR w5 B R v1 (pre.app (.cons h2 f2 .nil)) ∧ Below B w4 w5 := by
  have hw4 := fownR_below h hb4
  obtain ⟨xs, ho, hc⟩ := h
  obtain ⟨xs4, ho4, hc4⟩ := hw4
  obtain ⟨v1, w5, hr, ho5, hg, hwh⟩ := fo_app h2 sa sn sc hB hn ho4
  have hb45 : Below B w4 w5 := by
    refine ⟨hg.os, hg.tape, hg.output, Nat.le_trans (by simp) hg.size, fun k hk => ?_⟩
    have hkw : k < w4.heap.size := by omega
    refine (hg.block k (by simp; omega) ?_).trans (Below.heap_alloc _ _ _ hkw)
    intro e
    have := ho4.lt k e.symm
    omega
  have hs45 : w4.heap.size + 1 ≤ w5.heap.size := by have := hg.size; simpa using this
  have hsa4 := hb4.size
  have hl5 : (pre.app (.cons h2 f2 .nil)).len = pre.len + 1 := by rw [Fo.app_len]; rfl
  obtain ⟨g', cap', rfl⟩ := own_some ho5 (fun e => by
    rcases ho5.2 with ⟨_, h0⟩ | ⟨g, cap, cur, e0, _⟩
    · omega
    · rw [e] at e0; simp at e0)
  have hlt5 := ho5.lt g' rfl
  refine ⟨_, w5, hr, ⟨_, by rw [hl5]; exact ho5, .inr ⟨g', cap', by rw [hl5], ?_⟩⟩, hb45⟩
  have hcell : ∀ j u, (xs4 ++ fcel h2 (.slice sa sn sc))[j]? = some u → w5.cell? ⟨g', j, none⟩ = some u := by
    intro j u hj
    have hj' : j < (pre.len + 1) * 10 := by
      have h := (List.getElem?_eq_some_iff.1 hj).1
      have h1 := ho5.1
      omega
    exact (ho5.cellAt j hj').trans hj
  have hl : xs4.length = pre.len * 10 := ho4.1
  have hnew : ∀ j u, (fcel h2 (.slice sa sn sc))[j]? = some u → w5.cell? ⟨g', 0 + pre.len * 10 + j, none⟩ = some u := by
    intro j u hj
    have h := hcell (xs4.length + j) u (by rw [List.getElem?_append_right (Nat.le_add_right _ _), Nat.add_sub_cancel_left]; exact hj)
    rwa [hl, ← Nat.zero_add (pre.len * 10)] at h
  have hblk : ∀ k, some k ≠ v.ownBlock → k < w4.heap.size → w5.heap[k]? = w4.heap[k]? := fun k hne hk => (hg.block k (by simp; omega) hne).trans (Below.heap_alloc _ _ _ hk)
  have hrow : FRow w5 g' (0 + pre.len * 10) h2 (.slice sa sn sc) := ⟨hnew 0 _ rfl, hnew 1 _ rfl, hnew 2 _ rfl, hnew 3 _ rfl, hnew 4 _ rfl, hnew 5 _ rfl, hnew 6 _ rfl, hnew 7 _ rfl, hnew 8 _ rfl, hnew 9 _ rfl⟩
  have hgv : ∀ g, v.ownBlock = some g → g < wa.heap.size ∧ B ≤ g := fun g e => ⟨(ho.lt g e).2, (ho.lt g e).1⟩
  have hg' : v.ownBlock = some g' ∨ g' = w4.heap.size + 1 := by
    rcases hwh with e | e
    · exact .inl e.symm
    · exact .inr (by simpa [Value.ownBlock] using e)
  have hsub : FSP w5 (QR R g' w5.heap.size) f2 (.slice sa sn sc) := FSP.kept (Nat.le_trans (by omega) hs45) (fun k hk _ => hblk k (by
      intro e
      have h1 := hgv k e.symm
      have h2 := hk.2.1
      omega) hk.2.2) (fun k hk => ⟨hk.1, by
      have h2 := hk.2
      rcases hg' with e | e
      · have h1 := hgv g' e; omega
      · omega, by have := hk.2.2; omega⟩) hs2
  refine FElP.snoc pre 0 ?_ hrow hsub
  rcases hc4 with ⟨_, rfl⟩ | ⟨g, cap, e, hel⟩
  · trivial
  · have eg : v.ownBlock = some g := by rw [e]; rfl
    have hgl := hgv g eg
    refine FElP.moved (P := QR R g w4.heap.size) (by omega) (fun k hk => hblk k (by rw [eg]; intro h9; injection h9 with h9; exact hk.2.1 h9) hk.2.2) (fun k hk => ⟨hk.1, by
      have h2 := hk.2
      rcases hg' with e9 | e9
      · rw [eg] at e9; injection e9 with e9; omega
      · omega, by have := hk.2.2; omega⟩) pre g g' 0 (fun j _ hj => ?_) hel
    have hj' : j < pre.len * 10 := by omega
    subst e
    have h1 := ho4.cellAt j hj'
    obtain ⟨u, hu⟩ : ∃ u, xs4[j]? = some u := ⟨_, List.getElem?_eq_getElem (by omega)⟩
    rw [h1, hu]
    exact hcell j u (by rw [List.getElem?_append_left (by omega)]; exact hu)

/-- What comes of a formula: whether the term could be put in, and then the formula. -/
def LbT (σ : SbD) (h : FH) (f : Fo) (P : Nat → Prop) (w : World) (e : Ending) (w' : World) : Prop := ∃ (q : FH × Fo) (s : Value), e = .returned (.tuple #[.agg #[.int .i64 q.1.k, .int .i64 q.1.ak, .int .i64 q.1.am, .int .i64 q.1.a, .int .i64 q.1.b, .int .i64 q.1.c, .int .i64 q.1.d, .int .i64 q.1.n, .int .i64 q.1.v, s], .bool (sbK σ h f)]) ∧ (sbK σ h f = true → q = sbF σ h f) ∧ FSP w' (fun k => (P k ∨ w.heap.size ≤ k) ∧ k < w'.heap.size) q.2 s ∧ Below w.heap.size w w'
def LbF (σ : SbD) (h : FH) (f : Fo) : Prop := ownB h f.len = true → f.okB = true → ∀ (w : World) (P : Nat → Prop) (s : Value), FSP w P f s → Calls Try.prog 109 #[.agg #[.int .i64 h.k, .int .i64 h.ak, .int .i64 h.am, .int .i64 h.a, .int .i64 h.b, .int .i64 h.c, .int .i64 h.d, .int .i64 h.n, .int .i64 h.v, s], .int .i64 σ.v, .agg #[.int .i64 σ.a, .int .i64 σ.b, .int .i64 σ.c, .int .i64 σ.d, .int .i64 σ.n]] w (LbT σ h f P w)

theorem fsp_fs {w : World} {P : Nat → Prop} {f : Fo} {s : Value} (h : FSP w P f s) : FS w 0 f s := FSP.to (fun _ _ => Nat.zero_le _) h
theorem fsp_nil {w w' : World} {P Q : Nat → Prop} {s : Value} (h : FSP w P .nil s) : FSP w' Q .nil s := by
  rcases h with h0 | ⟨h0, _⟩
  · exact .inl h0
  · simp [Fo.len] at h0

set_option maxRecDepth 10000 in
set_option maxHeartbeats 2000000 in
/-- The variable is not free. -/
theorem lb_not (σ : SbD) (h : FH) (f : Fo) (hf : fr1 h σ.v (f.fr σ.v) = false) : LbF σ h f := by
  intro ho hok w P s hs
  have HS := Lib.hid hs
  have HF := Lib.hid (fun W hW => l3f_any h f W 0 s σ.v (FS.below (w := w) hW (Nat.le_refl _) (fsp_fs HS.out)))
  rw [hf] at HF
  obtain ⟨sa0, sn0, sc0, rfl⟩ := hs.slice
  unfold LbT
  rw [sbK_not ho hok hf, sbF_not hf]
  clear hs ho hok hf
  go_enter Try.func109, Try.ntmps109
  go_wp2_with fail
  generalize hW : World.alloc _ _ = W
  have hw : Below w.heap.size w W := by subst hW; go_grown
  have hy : C10 W w.heap.size h (.slice sa0 sn0 sc0) := by subst hW; exact (by refine ⟨?_, ?_, ?_, ?_, ?_, ?_, ?_, ?_, ?_, ?_, ?_⟩ <;> first | (simp [go_sem]; done) | (simp; omega))
  have hx : C10 W (w.heap.size + 1 + 1) ⟨0, 0, 0, 0, 0, 0, 0, 0, 0⟩ (.slice none 0 0) := by subst hW; exact (by refine ⟨?_, ?_, ?_, ?_, ?_, ?_, ?_, ?_, ?_, ?_, ?_⟩ <;> first | (simp [go_sem]; done) | (simp; omega))
  have hf : ∀ o, W.frozen? ⟨w.heap.size + 1 + 1, o, none⟩ = false := fun o => by subst hW; simp [go_sem]
  clear hW
  refine (HF.out W hw).mono ?_
  rintro e w3 ⟨rfl, hb3⟩
  obtain ⟨y0, d0, d1, d2, d3, d4, d5, d6, d7, d8, d9⟩ := c10_on hy hb3
  have hz3 := c10_on hx hb3
  have fz3 : ∀ o, w3.frozen? ⟨w.heap.size + 1 + 1, o, none⟩ = false := fun o => ((bcell hb3).2 _ o hx.1).trans (hf o)
  have hw3 := below_on hw hb3
  obtain ⟨x0, c0, c1, c2, c3, c4, c5, c6, c7, c8, c9⟩ := id hz3
  clear hy hx hf hb3 hw
  go_upto_region 30 with fail
  generalize hW7 : World.setCell _ _ _ = W7
  obtain ⟨hz7, hk7, hs7, _⟩ := ten_set (g := h) hz3 hW7
  have hw7 : Below w.heap.size w W7 := hw3.trans ((put10b (g := h) hz3 hW7).2 w.heap.size (by omega))
  have HS7 := Lib.hid (FSP.kept (w' := W7) (Q := fun k => (P k ∨ w.heap.size ≤ k) ∧ k < W7.heap.size) hw7.size (fun k hk _ => hw7.block k hk.2) (fun k hk => ⟨.inl hk.1, Nat.lt_of_lt_of_le hk.2 hw7.size⟩) (FSP.lt HS.out))
  obtain ⟨z0, k0, k1, k2, k3, k4, k5, k6, k7, k8, k9⟩ := hz7
  clear hW7 hk7 hs7 x0 c0 c1 c2 c3 c4 c5 c6 c7 c8 c9 y0 d0 d1 d2 d3 d4 d5 d6 d7 d8 d9
  go_wp2
  refine bodyPost_ret (v := .tuple #[.agg #[.int .i64 h.k, .int .i64 h.ak, .int .i64 h.am, .int .i64 h.a, .int .i64 h.b, .int .i64 h.c, .int .i64 h.d, .int .i64 h.n, .int .i64 h.v, .slice sa0 sn0 sc0], .bool true]) (by simp [results, Try.results109, go_sem, k0, k1, k2, k3, k4, k5, k6, k7, k8, k9]) rfl ⟨(h, f), _, rfl, fun _ => rfl, HS7.out, hw7⟩

theorem specSubstAtom_u (σ : SbD) (hσ : σ.ok) (h : FH) (hav : avB h.ak h.am h.a h.b h.c h.d h.n = true) (w : World) :
    Calls Try.prog 20 #[.agg #[.int .i64 h.ak, .int .i64 h.am, .int .i64 h.a, .int .i64 h.b, .int .i64 h.c, .int .i64 h.d, .int .i64 h.n], .int .i64 σ.v, .agg #[.int .i64 σ.a, .int .i64 σ.b, .int .i64 σ.c, .int .i64 σ.d, .int .i64 σ.n]] w fun e w' => ∃ x : AtD, e = .returned (.tuple #[.agg #[.int .i64 x.k, .int .i64 x.m, .int .i64 x.a, .int .i64 x.b, .int .i64 x.c, .int .i64 x.d, .int .i64 x.n], .bool (tvB (sbH σ h).a (sbH σ h).b (sbH σ h).c (sbH σ h).d (sbH σ h).n)]) ∧
      (tvB (sbH σ h).a (sbH σ h).b (sbH σ h).c (sbH σ h).d (sbH σ h).n = true → atH x = sbH σ h) ∧ Below w.heap.size w w' := by
  have h1 := (avB_cases hav).2
  cases ht : tvB (sbH σ h).a (sbH σ h).b (sbH σ h).c (sbH σ h).d (sbH σ h).n with
  | true =>
    exact (specSubstAtom_yes h.ak h.am h.a h.b h.c h.d h.n σ.v σ.a σ.b σ.c σ.d σ.n _ _ _ _ _ w hav (Lib.hid fun W => specSubstTerm_ok h.a h.b h.c h.d h.n σ.v σ.a σ.b σ.c σ.d σ.n _ _ _ _ _ W h1 hσ.1 hσ.2 rfl rfl rfl rfl rfl ht)).mono fun e w' hp => ⟨⟨_, _, _, _, _, _, _⟩, hp.1, fun _ => rfl, hp.2⟩
  | false =>
    exact (specSubstAtom_no h.ak h.am h.a h.b h.c h.d h.n σ.v σ.a σ.b σ.c σ.d σ.n 0 0 0 0 0 w hav (Lib.hid fun W => specSubstTerm_far h.a h.b h.c h.d h.n σ.v σ.a σ.b σ.c σ.d σ.n _ _ _ _ _ W h1 hσ.1 hσ.2 rfl rfl rfl rfl rfl ht)).mono fun e w' hp => ⟨⟨_, _, _, _, _, _, _⟩, hp.1, fun h9 => absurd h9 (by simp), hp.2⟩

set_option maxRecDepth 10000 in
set_option maxHeartbeats 2000000 in
/-- An atom with the variable. -/
theorem lb_atom (σ : SbD) (hσ : σ.ok) (h : FH) (f : Fo) (h2 : h.k = 2) (hf : fr1 h σ.v (f.fr σ.v) = true) : LbF σ h f := by
  intro ho hok w P s hs
  have hav : avB h.ak h.am h.a h.b h.c h.d h.n = true := by
    unfold ownB atB at ho
    rw [if_pos h2] at ho
    simp only [Bool.and_eq_true] at ho
    exact ho.1.1
  have HF := Lib.hid (fun W hW => l3f_any h f W 0 s σ.v (FS.below (w := w) hW (Nat.le_refl _) (fsp_fs hs)))
  rw [hf] at HF
  have HSA := Lib.hid (fun W => specSubstAtom_u σ hσ h hav W)
  have HLA := Lib.hid (fun x W => l3Atom_a x W)
  have hsbF : sbF σ h f = if tvB (sbH σ h).a (sbH σ h).b (sbH σ h).c (sbH σ h).d (sbH σ h).n = true then (sbH σ h, .nil) else (badH, .nil) := by
    unfold sbF sbE
    rw [hf, if_neg (by simp), if_pos h2]
  have hsbK : sbK σ h f = tvB (sbH σ h).a (sbH σ h).b (sbH σ h).c (sbH σ h).d (sbH σ h).n := by
    unfold sbK
    rw [hsbF]
    cases ht : tvB (sbH σ h).a (sbH σ h).b (sbH σ h).c (sbH σ h).d (sbH σ h).n with
    | true =>
      rw [if_pos rfl]
      have h9 : avB h.ak h.am (sbH σ h).a (sbH σ h).b (sbH σ h).c (sbH σ h).d (sbH σ h).n = true := by
        unfold avB at hav ⊢
        rw [ht]
        simp only [Bool.and_eq_true] at hav ⊢
        simp_all
      simp only [ownB, sbH, atB, Fo.len, Fo.okB, qB, subsI, Bool.and_true]
      simpa [sbH] using h9
    | false =>
      rw [if_neg (by simp)]
      show (ownB badH Fo.nil.len && Fo.nil.okB) = false
      rw [badH_own, Bool.false_and]
  obtain ⟨sa0, sn0, sc0, rfl⟩ := hs.slice
  unfold LbT
  have HFF := Lib.hid hsbF
  rw [hsbK]
  obtain ⟨ok, hok'⟩ : ∃ ok, tvB (sbH σ h).a (sbH σ h).b (sbH σ h).c (sbH σ h).d (sbH σ h).n = ok := ⟨_, rfl⟩
  rw [hok'] at HSA HFF ⊢
  have hk2 : ((h.k : Int) == 2) = true := by rw [h2]; rfl
  obtain ⟨kk, hkk⟩ : ∃ kk, h.k = kk := ⟨_, rfl⟩
  rw [hkk] at h2
  subst h2
  clear hs ho hok hf hsbF hsbK hok' hav hσ hk2
  have HK := Lib.hid hkk
  rw [hkk]
  clear hkk
  go_enter Try.func109, Try.ntmps109
  go_wp2_with fail
  generalize hW : World.alloc _ _ = W
  have hw : Below w.heap.size w W := by subst hW; go_grown
  have hy : C10 W w.heap.size ⟨2, h.ak, h.am, h.a, h.b, h.c, h.d, h.n, h.v⟩ (.slice sa0 sn0 sc0) := by subst hW; exact (by refine ⟨?_, ?_, ?_, ?_, ?_, ?_, ?_, ?_, ?_, ?_, ?_⟩ <;> first | (simp [go_sem]; done) | (simp; omega))
  have hv5 : C5 W (w.heap.size + 1) σ.a σ.b σ.c σ.d σ.n := by subst hW; exact (by refine ⟨?_, ?_, ?_, ?_, ?_, ?_⟩ <;> first | (simp [go_sem]; done) | (simp; omega))
  have hx : C10 W (w.heap.size + 1 + 1) ⟨0, 0, 0, 0, 0, 0, 0, 0, 0⟩ (.slice none 0 0) := by subst hW; exact (by refine ⟨?_, ?_, ?_, ?_, ?_, ?_, ?_, ?_, ?_, ?_, ?_⟩ <;> first | (simp [go_sem]; done) | (simp; omega))
  have hf : ∀ o, W.frozen? ⟨w.heap.size + 1 + 1, o, none⟩ = false := fun o => by subst hW; simp [go_sem]
  clear hW
  have HF2 := HF.out W hw
  rw [HK.out] at HF2
  refine HF2.mono ?_
  rintro e w1 ⟨rfl, hb1⟩
  obtain ⟨y0, d0, d1, d2, d3, d4, d5, d6, d7, d8, d9⟩ := c10_on hy hb1
  obtain ⟨j0, j1, j2, j3, j4, j5⟩ := c5_on hv5 hb1
  have hx1 := c10_on hx hb1
  have fx1 : ∀ o, w1.frozen? ⟨w.heap.size + 1 + 1, o, none⟩ = false := fun o => ((bcell hb1).2 _ o hx.1).trans (hf o)
  have hw1 := below_on hw hb1
  clear hy hx hf hb1 hw hv5 HF2
  go_wp2_with fail
  refine (HSA.out w1).mono ?_
  rintro e w2 ⟨x, rfl, hxx, hb2⟩
  clear y0 d0 d1 d2 d3 d4 d5 d6 d7 d8 d9 j0 j1 j2 j3 j4 j5
  go_wp2_with fail
  generalize hW3 : World.alloc _ _ = W3
  have hb23 : Below w2.heap.size w2 W3 := by subst hW3; go_grown
  have hb3 := below_on hb2 hb23
  clear hW3 hb23 hb2
  refine (HLA.out x W3).mono ?_
  rintro e w4 ⟨rfl, hb4⟩
  have hb14 := below_on hb3 hb4
  have hz4 := c10_on hx1 hb14
  have fz4 : ∀ o, w4.frozen? ⟨w.heap.size + 1 + 1, o, none⟩ = false := fun o => ((bcell hb14).2 _ o hx1.1).trans (fx1 o)
  have hw4 := below_on hw1 hb14
  obtain ⟨x0, c0, c1, c2, c3, c4, c5, c6, c7, c8, c9⟩ := id hz4
  clear hb3 hb4 hb14 hx1 fx1 hw1
  go_upto_region 30 with fail
  generalize hW7 : World.setCell _ _ _ = W7
  obtain ⟨hz7, hk7, hs7, _⟩ := ten_set (g := atH x) hz4 hW7
  have hw7 : Below w.heap.size w W7 := hw4.trans ((put10b (g := atH x) hz4 hW7).2 w.heap.size (by omega))
  obtain ⟨z0, k0, k1, k2, k3, k4, k5, k6, k7, k8, k9⟩ := hz7
  clear hW7 hk7 hs7 x0 c0 c1 c2 c3 c4 c5 c6 c7 c8 c9
  go_wp2
  refine bodyPost_ret (v := .tuple #[.agg #[.int .i64 (atH x).k, .int .i64 (atH x).ak, .int .i64 (atH x).am, .int .i64 (atH x).a, .int .i64 (atH x).b, .int .i64 (atH x).c, .int .i64 (atH x).d, .int .i64 (atH x).n, .int .i64 (atH x).v, .slice none 0 0], .bool ok]) (by simp [results, Try.results109, go_sem, k0, k1, k2, k3, k4, k5, k6, k7, k8, k9]) rfl ⟨(atH x, .nil), _, rfl, fun h9 => by rw [HFF.out, if_pos h9, hxx h9], .inl ⟨rfl, none, 0, rfl, Nat.le_refl _, Nat.zero_le _⟩, hw7⟩

def LbR (σ : SbD) (f : Fo) (s : Value) (bb o : Nat) (P : Nat → Prop) (w W0 : World) (xo : Nat) (h : FH) (i : Value) (wr : World) : Prop :=
  ∃ (k : Nat) (pre0 r : Fo) (v : Value), i = .int .i64 k ∧ pre0.len = k ∧ pre0.app r = f ∧ r.okB = true ∧ (pre0.sb σ).okB = true ∧ FElP w P r bb (o + k * 10) ∧
    MlSt w W0 w.heap.size xo (w.heap.size + 1 + 1) h h s v wr ∧ C5 wr (w.heap.size + 1) σ.a σ.b σ.c σ.d σ.n ∧ w.heap.size + 1 < W0.heap.size ∧ xo ≠ w.heap.size + 1 ∧ FOwnR wr W0.heap.size (fun k => (P k ∧ k < w.heap.size) ∨ W0.heap.size ≤ k) v (pre0.sb σ)

theorem fsp_shape {w : World} {P : Nat → Prop} {f : Fo} {sa : Option Addr} {sc : Nat} (hs : FSP w P f (.slice sa f.len sc)) : ∃ b o, FElP w P f b (o + 0 * 10) ∧ (0 < f.len → sa = some ⟨b, o, none⟩ ∧ sc ≤ maxLen ∧ f.len ≤ sc ∧ b < w.heap.size) := by
  rcases hs with ⟨h0, _⟩ | ⟨h0, b, o, cap, e, hcc1, hcc2, hP, hb, hel⟩
  · obtain rfl : f = .nil := Fo.len_zero h0
    exact ⟨0, 0, trivial, fun h => absurd h (by simp [Fo.len])⟩
  · injection e with e1 e2 e3
    subst e1 e3
    exact ⟨b, o, by simpa using hel, fun _ => ⟨rfl, hcc2, hcc1, hb⟩⟩
theorem fsp_len {w : World} {P : Nat → Prop} {f : Fo} {s : Value} (hs : FSP w P f s) : ∃ a c, s = .slice a f.len c := by
  rcases hs with ⟨h0, x, cap, e, _⟩ | ⟨_, b, o, cap, e, _⟩
  · exact ⟨_, _, by rw [e, h0]⟩
  · exact ⟨_, _, e⟩
theorem c5_low {V w' : World} {B x : Nat} {a b c d n : Int} (h : C5 V x a b c d n) (hx : x < B) (hB : Below B V w') : C5 w' x a b c d n := by
  have g : ∀ o, w'.cell? ⟨x, o, none⟩ = V.cell? ⟨x, o, none⟩ := fun o => World.cell?_of_block (hB.block x hx)
  obtain ⟨g0, g1, g2, g3, g4, g5⟩ := h
  exact ⟨Nat.lt_of_lt_of_le g0 hB.size, (g 0).trans g1, (g 1).trans g2, (g 2).trans g3, (g 3).trans g4, (g 4).trans g5⟩
theorem c5_putb {V w' : World} {y x : Nat} {a b c d n : Int} (h : C5 V x a b c d n) (hx : x ≠ y) (hk : ∀ k, k ≠ y → w'.heap[k]? = V.heap[k]?) (hs : w'.heap.size = V.heap.size) : C5 w' x a b c d n := by
  have g : ∀ o, w'.cell? ⟨x, o, none⟩ = V.cell? ⟨x, o, none⟩ := fun o => World.cell?_of_block (hk x hx)
  obtain ⟨g0, g1, g2, g3, g4, g5⟩ := h
  exact ⟨by omega, (g 0).trans g1, (g 1).trans g2, (g 2).trans g3, (g 3).trans g4, (g 4).trans g5⟩
theorem sb_app (σ : SbD) (g : Fo) : ∀ f : Fo, ((f.app g).sb σ) = (f.sb σ).app (g.sb σ) := by
  intro f
  induction f with
  | nil => rfl
  | cons h s r _ ih => simp only [Fo.app, Fo.sb, ih]
theorem keepB {V w' : World} {B xf xt b off : Nat} {sv s : Value} {h : FH} {a b' c d n : Int} (h1 : V.cell? ⟨xf, 9, none⟩ = some sv ∧ FRow V b off h s) (h2 : C5 V xt a b' c d n) (hx : xf < B) (hb : b < B) (ht : xt < B) (hB : Below B V w') :
    w'.cell? ⟨xf, 9, none⟩ = some sv ∧ FRow w' b off h s ∧ w'.cell? ⟨xt, 0, none⟩ = some (.int .i64 a) ∧ w'.cell? ⟨xt, 1, none⟩ = some (.int .i64 b') ∧ w'.cell? ⟨xt, 2, none⟩ = some (.int .i64 c) ∧ w'.cell? ⟨xt, 3, none⟩ = some (.int .i64 d) ∧ w'.cell? ⟨xt, 4, none⟩ = some (.int .i64 n) := by
  have h3 := keepE h1 hx hb hB
  have g : ∀ o, w'.cell? ⟨xt, o, none⟩ = V.cell? ⟨xt, o, none⟩ := fun o => World.cell?_of_block (hB.block xt ht)
  obtain ⟨_, g1, g2, g3, g4, g5⟩ := h2
  simp only [g]
  exact ⟨h3.1, h3.2, g1, g2, g3, g4, g5⟩

end Go.Proofs.Ytcgolbkpfncgpaa
