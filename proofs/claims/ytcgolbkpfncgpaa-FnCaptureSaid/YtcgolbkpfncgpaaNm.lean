/- Several texts in one: NfA NfB NfC NfD NfE NfG. -/
import Derived.Test.YtcgolbkpfncgpaaAtS
import Derived.Test.YtcgolbkpfncgpaaJm
import Derived.Test.YtcgolbkpfncgpaaAm
import Derived.Laws.EntriesVeiled

/- Atoms as formulas: contracts of the program's joinedAtoms and of the model's l3Atom, l4Atoms. -/
namespace Go.Proofs.Ytcgolbkpfncgpaa
open Go.RowKit

/-- The head of an atom's formula. -/
def atH (x : AtD) : FH := ⟨2, x.k, x.m, x.a, x.b, x.c, x.d, x.n, 0⟩
/-- Atoms as a list of formulas. -/
def atFo : List AtD → Fo
  | [] => .nil
  | x :: L => .cons (atH x) .nil (atFo L)
/-- The node of an atom. -/
def atN (x : AtD) : Value := .iface 146 (.agg #[.int .i64 x.k, .int .i64 x.m, .int .i64 x.a, .int .i64 x.b, .int .i64 x.c, .int .i64 x.d, .int .i64 x.n])
theorem atFo_len (L : List AtD) : (atFo L).len = L.length := by
  induction L with
  | nil => rfl
  | cons x L ih => simp only [atFo, Fo.len, ih, List.length_cons]
theorem atFo_size (L : List AtD) : (atFo L).size = L.length := by
  induction L with
  | nil => rfl
  | cons x L ih => simp only [atFo, Fo.size, ih, List.length_cons]; omega
theorem atH_nd (x : AtD) : nd1 (atH x) [] = atN x := by simp [nd1, atH, atN]
theorem atFo_nds (L : List AtD) : (atFo L).nds = L.map atN := by
  induction L with
  | nil => rfl
  | cons x L ih => simp only [atFo, Fo.nds, ih, List.map_cons, atH_nd]
theorem atFo_snoc (L : List AtD) (x : AtD) : atFo (L ++ [x]) = (atFo L).app (.cons (atH x) .nil .nil) := by
  induction L with
  | nil => rfl
  | cons y L ih => simp only [List.cons_append, atFo, Fo.app, ih]
/-- The atom is valid. -/
def avQ (x : AtD) : Bool := avB x.k x.m x.a x.b x.c x.d x.n
theorem atH_own (x : AtD) : ownB (atH x) 0 = avQ x := by
  simp [ownB, atH, atB, qB, subsI, avQ]
theorem atFo_ok (L : List AtD) : (atFo L).okB = L.all avQ := by
  induction L with
  | nil => rfl
  | cons x L ih => simp only [atFo, Fo.okB, Fo.len, ih, atH_own, List.all_cons, Bool.and_true]

def JaR (L : List AtD) (w : World) (v i : Value) (wr : World) : Prop :=
  ∃ k : Nat, i = .int .i64 k ∧ k ≤ L.length ∧ wr.ownsRow w.heap.size 120 1 v k ((L.take k).map atN) ∧ Below w.heap.size w wr

set_option maxRecDepth 10000 in
set_option maxHeartbeats 2000000 in
theorem joinedAtoms_any (bb : Bool) (v : Value) (L : List AtD) (w : World) (h : RdA w v L) (hL : L.length ≤ 1000000) :
    Calls Try.prog 94 #[.bool bb, v] w (JoT (nd1 (jA bb (atFo L)).1 (jA bb (atFo L)).2.nds) w) := by
  obtain ⟨sp, cap, rfl, hc⟩ := h
  obtain ⟨n, hn⟩ : ∃ n, L.length = n := ⟨_, rfl⟩
  have HN := Lib.hid hn
  have HC := Lib.hid hc
  have HST := Lib.hid (show JaR L w (.slice none 0 0) (.int .i64 0) w from ⟨0, rfl, Nat.zero_le _, World.ownsRow_nil _ _ _ _, Below.refl _ _⟩)
  rw [hn] at hL ⊢
  clear hn hc
  go_enter Try.func94, Try.ntmps94
  go_wp2
  go_loopw [5, 10] (fun v i wr => JaR L w v i wr) (fun _ i _ => n - (intOf i).toNat)
  case atStart => exact HST.out
  case round =>
    obtain ⟨k, rfl, hk, hown, hbw⟩ := hrel
    have hkn : k ≤ n := by rw [← HN.out]; exact hk
    have HO := Lib.hid hown
    have HB := Lib.hid hbw
    have hsw := hbw.size
    clear HST hk hown
    by_cases hlt : k < n
    · have hk' : (k : Int) < (n : Int) := by omega
      obtain ⟨y, hy⟩ : ∃ y, L[k]? = some y := ⟨_, List.getElem?_eq_getElem (by rw [HN.out]; exact hlt)⟩
      have HT := Lib.hid (show (L.take (k + 1)).map atN = (L.take k).map atN ++ [atN y] by rw [List.take_add_one, hy]; simp)
      obtain ⟨b, rfl, hbl, hcell⟩ := HC.out.resolve_left (by rw [HN.out]; omega)
      have f : ∀ o, wr.cell? ⟨b, o, none⟩ = w.cell? ⟨b, o, none⟩ := fun o => hbw.cell (p := ⟨b, o, none⟩) hbl
      have r1 : ARow wr b (k * 7) y := by have := hcell k y hy; simpa only [ARow, f] using this
      obtain ⟨c0, c1, c2, c3, c4, c5, c6⟩ := r1
      clear hcell f hy hbw
      go_upto_region 5 with fail
      generalize hW : wr.alloc _ = W
      have hx : C7 W wr.heap.size y.k y.m y.a y.b y.c y.d y.n := by subst hW; exact (by refine ⟨?_, ?_, ?_, ?_, ?_, ?_, ?_, ?_⟩ <;> first | (simp [go_sem]; done) | (simp; omega))
      have hbW : Below wr.heap.size wr W := by subst hW; go_grown
      obtain ⟨v1, w1, hr, ho, hg, _⟩ := an_first (atN y) rfl (base := w.heap.size) (v := _) (xs := (L.take k).map atN) (by have := hbW.size; omega) (show k ≤ 1048576 by omega) (own_below HO.out hbW)
      have HRUN := Lib.hid hr
      have HB1 := Lib.hid (grown_below3 (below_on HB.out hbW) (own_below HO.out hbW) (Nat.le_refl _) hg)
      have HO1 := Lib.hid (show w1.ownsRow w.heap.size 120 1 v1 (k + 1) ((L.take (k + 1)).map atN) by rw [HT.out]; exact ho)
      obtain ⟨x0, x1, x2, x3, x4, x5, x6, x7⟩ := hx
      have hk9 : k + 1 ≤ L.length := by rw [HN.out]; omega
      clear hW hbW c0 c1 c2 c3 c4 c5 c6 hr ho hg
      unfold atN at HRUN
      go_wp2_with (at_builtin; refine wpList_append_run rfl _ _ 130 rfl rfl rfl HRUN.out ?_)
      go_wp2
      go_roundw
      case rel => exact ⟨k + 1, by go_num, hk9, HO1.out, HB1.out⟩
      case measure => simp [intOf]; omega
    · have hk' : ¬ (k : Int) < (n : Int) := by omega
      obtain rfl : k = n := by omega
      have HO2 := Lib.hid (show wr.ownsRow w.heap.size 120 1 _ (atFo L).len (atFo L).nds by rw [atFo_len, HN.out, atFo_nds]; have := HO.out; rwa [show L.take k = L by rw [← HN.out]; exact List.take_length] at this)
      clear hbw
      go_wp2_with fail
      refine (joined_own bb (atFo L) _ _ _ HO2.out).mono ?_
      rintro e w2 ⟨rfl, hb2⟩
      obtain ⟨t, y, he⟩ := nd1_iface (jA bb (atFo L)).1 (jA bb (atFo L)).2.nds
      have HE := Lib.hid he
      rw [he]
      have hb9 := below_on HB.out hb2
      clear he hb2
      go_wp2
      go_ret
      exact ⟨by rw [HE.out]; rfl, hb9⟩

set_option maxHeartbeats 1000000 in
theorem l3Atom_a (x : AtD) (w : World) : Calls Try.prog 138 #[.agg #[.int .i64 x.k, .int .i64 x.m, .int .i64 x.a, .int .i64 x.b, .int .i64 x.c, .int .i64 x.d, .int .i64 x.n]] w (fun e w' => e = .returned (.agg #[.int .i64 2, .int .i64 x.k, .int .i64 x.m, .int .i64 x.a, .int .i64 x.b, .int .i64 x.c, .int .i64 x.d, .int .i64 x.n, .int .i64 0, .slice none 0 0]) ∧ Below w.heap.size w w') := by
  obtain ⟨k, m, a, b, c, d, n⟩ := x
  dsimp only
  go_enter Try.func138, Try.ntmps138
  go_wp2
  refine bodyPost_ret (v := .agg #[.int .i64 2, .int .i64 k, .int .i64 m, .int .i64 a, .int .i64 b, .int .i64 c, .int .i64 d, .int .i64 n, .int .i64 0, .slice none 0 0]) (by simp [results, Try.results138, go_sem]) rfl ⟨rfl, ?_⟩
  go_grown

/-- The cells of atoms' formulas. -/
def atC : List AtD → List Value
  | [] => []
  | x :: L => fcel (atH x) (.slice none 0 0) ++ atC L
theorem atC_len (L : List AtD) : (atC L).length = L.length * 10 := by
  induction L with
  | nil => rfl
  | cons x L ih => simp only [atC, List.length_append, ih, List.length_cons, fcel, List.length_nil]; omega
theorem atC_snoc (L : List AtD) (x : AtD) : atC (L ++ [x]) = atC L ++ fcel (atH x) (.slice none 0 0) := by
  induction L with
  | nil => simp [atC]
  | cons y L ih => simp only [List.cons_append, atC, ih, List.append_assoc]
/-- Rows of atoms' formulas are a forest. -/
theorem atC_fel {w : World} {lo b : Nat} : ∀ (L : List AtD) (o : Nat), (∀ j, j < L.length * 10 → w.cell? ⟨b, o + j, none⟩ = (atC L)[j]?) → FEl w lo (atFo L) b o := by
  intro L
  induction L with
  | nil => intro _ _; trivial
  | cons x L ih =>
    intro o h
    have g : ∀ j, j < 10 → w.cell? ⟨b, o + j, none⟩ = (fcel (atH x) (.slice none 0 0))[j]? := by
      intro j hj
      rw [h j (by simp only [List.length_cons]; omega)]
      simp only [atC]
      rw [List.getElem?_append_left (by simpa [fcel] using hj)]
    refine ⟨⟨.slice none 0 0, ⟨g 0 (by omega), g 1 (by omega), g 2 (by omega), g 3 (by omega), g 4 (by omega), g 5 (by omega), g 6 (by omega), g 7 (by omega), g 8 (by omega), g 9 (by omega)⟩, .inl ⟨rfl, none, 0, rfl, Nat.le_refl _, Nat.zero_le _⟩⟩, ih (o + 10) (fun j hj => ?_)⟩
    have h1 := h (10 + j) (by simp only [List.length_cons]; omega)
    rw [← Nat.add_assoc] at h1
    rw [h1]
    simp only [atC]
    rw [List.getElem?_append_right (by simp [fcel])]
    simp [fcel]
theorem atC_fs {w : World} {B lo : Nat} {v : Value} {L : List AtD} (hl : lo ≤ B) (h : w.ownsRow B 56 10 v L.length (atC L)) : FS w lo (atFo L) v := by
  by_cases h0 : L.length = 0
  · obtain rfl : L = [] := List.length_eq_zero_iff.1 h0
    rcases h.2 with ⟨rfl, _⟩ | ⟨g, cap, cur, rfl, _, _, h1, h2, _⟩
    · exact .inl ⟨rfl, none, 0, rfl, Nat.le_refl _, Nat.zero_le _⟩
    · exact .inl ⟨rfl, _, cap, rfl, Nat.zero_le _, h2⟩
  · rcases id h.2 with ⟨_, h1⟩ | ⟨g, cap, cur, rfl, hb, hg, h1, h2, _⟩
    · exact absurd h1 h0
    · have hlt := h.lt g rfl
      refine .inr ⟨by rw [atFo_len]; omega, g, 0, cap, by rw [atFo_len], by rw [atFo_len]; exact h1, h2, by omega, hlt.2, atC_fel L 0 (fun j hj => ?_)⟩
      rw [Nat.zero_add]
      exact h.cellAt j (by omega)

def L4aT (L : List AtD) (w : World) (e : Ending) (w' : World) : Prop := ∃ s, e = .returned s ∧ FS w' w.heap.size (atFo L) s ∧ Below w.heap.size w w'
def L4aR (L : List AtD) (w : World) (v i : Value) (wr : World) : Prop :=
  ∃ k : Nat, i = .int .i64 k ∧ k ≤ L.length ∧ wr.ownsRow w.heap.size 56 10 v k (atC (L.take k)) ∧ Below w.heap.size w wr

set_option maxRecDepth 10000 in
set_option maxHeartbeats 2000000 in
theorem l4Atoms_any (v : Value) (L : List AtD) (w : World) (h : RdA w v L) (hL : L.length ≤ 1000000) :
    Calls Try.prog 133 #[v] w (L4aT L w) := by
  obtain ⟨sp, cap, rfl, hc⟩ := h
  obtain ⟨n, hn⟩ : ∃ n, L.length = n := ⟨_, rfl⟩
  have HN := Lib.hid hn
  have HC := Lib.hid hc
  rw [hn] at hL ⊢
  clear hn hc
  go_enter Try.func133, Try.ntmps133
  go_wp2_with fail
  generalize hW : World.alloc _ _ = W
  have hw : Below w.heap.size w W := by subst hW; go_grown
  have ho : W.ownsRow w.heap.size 56 10 (.slice (some ⟨w.heap.size, 0, none⟩) 0 0) 0 [] := by
    subst hW
    have := World.ownsRow_lit (base := w.heap.size) (e := 56) (size := 10) w #[] 0 (Nat.le_refl _) (Nat.zero_le _) rfl
    simpa using this
  have HST := Lib.hid (show L4aR L w (.slice (some ⟨w.heap.size, 0, none⟩) 0 0) (.int .i64 0) W from ⟨0, rfl, Nat.zero_le _, ho, hw⟩)
  clear hW hw ho
  go_loopw [3, 4] (fun v i wr => L4aR L w v i wr) (fun _ i _ => n - (intOf i).toNat)
  case atStart => exact HST.out
  case round =>
    obtain ⟨k, rfl, hk, hown, hbw⟩ := hrel
    have hkn : k ≤ n := by rw [← HN.out]; exact hk
    have HO := Lib.hid hown
    have HB := Lib.hid hbw
    have hsw := hbw.size
    clear HST hk hown
    by_cases hlt : k < n
    · have hk' : (k : Int) < (n : Int) := by omega
      obtain ⟨y, hy⟩ : ∃ y, L[k]? = some y := ⟨_, List.getElem?_eq_getElem (by rw [HN.out]; exact hlt)⟩
      have HT := Lib.hid (show atC (L.take (k + 1)) = atC (L.take k) ++ fcel (atH y) (.slice none 0 0) by rw [List.take_add_one, hy, Option.toList_some, atC_snoc])
      obtain ⟨b, rfl, hbl, hcell⟩ := HC.out.resolve_left (by rw [HN.out]; omega)
      have f : ∀ o, wr.cell? ⟨b, o, none⟩ = w.cell? ⟨b, o, none⟩ := fun o => hbw.cell (p := ⟨b, o, none⟩) hbl
      have r1 : ARow wr b (k * 7) y := by have := hcell k y hy; simpa only [ARow, f] using this
      obtain ⟨c0, c1, c2, c3, c4, c5, c6⟩ := r1
      have hk9 : k + 1 ≤ L.length := by rw [HN.out]; omega
      clear hcell f hy hbw
      go_wp2_with fail
      refine (l3Atom_a y _).mono ?_
      rintro e w1 ⟨rfl, hb1⟩
      have hs1 := hb1.size
      obtain ⟨v5, w5, hr5, ho5, hg5, _⟩ := fo_app (atH y) none 0 0 (w := w1) (base := w.heap.size) (by omega) (show k ≤ 1048576 by omega) (own_below HO.out hb1)
      have HRUN := Lib.hid hr5
      have HB5 := Lib.hid (grown_below3 (below_on HB.out (below_on hb1 (by go_grown))) ((own_below HO.out hb1).alloc _) (Nat.le_refl _) hg5)
      have HO5 := Lib.hid (show w5.ownsRow w.heap.size 56 10 v5 (k + 1) (atC (L.take (k + 1))) by rw [HT.out]; exact ho5)
      clear hr5 ho5 hg5 hb1 c0 c1 c2 c3 c4 c5 c6
      go_wp2_with (at_builtin; refine wpList_append_run rfl _ _ 54 rfl rfl rfl HRUN.out ?_)
      go_wp2
      go_roundw
      case rel => exact ⟨k + 1, by go_num, hk9, HO5.out, HB5.out⟩
      case measure => simp [intOf]; omega
    · have hk' : ¬ (k : Int) < (n : Int) := by omega
      obtain rfl : k = n := by omega
      have HF := Lib.hid (show FS wr w.heap.size (atFo L) _ from atC_fs (Nat.le_refl _) (by have := HO.out; rw [show L.take k = L by rw [← HN.out]; exact List.take_length] at this; rw [HN.out]; exact this))
      go_wp2
      go_ret
      exact ⟨_, rfl, HF.out, hbw⟩

end Go.Proofs.Ytcgolbkpfncgpaa

/- The contract of the program's withParts: a node with what a change makes of each of its parts. -/
namespace Go.Proofs.Ytcgolbkpfncgpaa
open Go.RowKit

/-- A change's answer: whether there is a node, and then the node y. -/
def ChP (ok : Bool) (y : Value) (w : World) (e : Ending) (w' : World) : Prop := ∃ v, e = .returned (.tuple #[v, .bool ok]) ∧ (ok = true → v = y) ∧ Below w.heap.size w w'
/-- A function of the program is entered when it is called. -/
def EnT (n : Nat) : Prop := ∀ (args : Array Value) (w : World), Sem.run Try.prog (callFunc n args) w = .ok (.enter n args) w
def ChAt (n : Nat) (caps : Array Value) (Inv : World → Prop) (x : Value) (ok : Bool) (y : Value) : Prop := ∀ W, Inv W → Calls Try.prog n (#[x] ++ caps) W (ChP ok y W)
def WpAt (n : Nat) (caps : Array Value) (Inv : World → Prop) (x : Value) (ok : Bool) (y : Value) : Prop := ∀ w, Inv w → Calls Try.prog 113 #[x, .func (.func n) #[] caps] w (ChP ok y w)
/-- What a change may lean on stays while memory is made. -/
def Stays (Inv : World → Prop) : Prop := ∀ W W', Inv W → Below W.heap.size W W' → Inv W'

set_option maxRecDepth 10000 in
set_option maxHeartbeats 1000000 in
theorem wp_t (n : Nat) (caps : Array Value) (Inv : World → Prop) (h : FH) (bb : Bool) (hk : h.k = 0 ∨ h.k = 1 ∨ h.k = 2) (OWN : ∀ w, Calls Try.prog 141 #[.iface 165 (.agg #[.bool bb])] w (OwT h w)) : WpAt n caps Inv (.iface 165 (.agg #[.bool bb])) true (nd1 h []) := by
  intro w hw
  have HOWN := Lib.hid OWN
  have HN := Lib.hid (fun s W v => nodeWith_0 h s W v hk)
  obtain ⟨tt, yy, e⟩ := nd1_iface h []
  rw [e] at HN ⊢
  clear OWN hk e
  go_enter Try.func113, Try.ntmps113
  go_wp2
  refine wp_loop_rounds 1 ?_
  rw [rounds_succ]
  go_wp2_with fail
  generalize hW : World.alloc _ _ = W
  have hbW : Below w.heap.size w W := by subst hW; go_grown
  clear hW
  refine (HOWN.out W).mono ?_
  rintro e w1 ⟨rfl, hb1⟩
  have hbw1 := below_on hbW hb1
  go_wp2_with fail
  refine (HN.out _ w1 _).mono ?_
  rintro e w2 ⟨rfl, hb2⟩
  go_wp2
  go_ret2
  exact ⟨_, rfl, fun _ => rfl, below_on hbw1 hb2⟩

set_option maxRecDepth 10000 in
set_option maxHeartbeats 1000000 in
theorem wp_a (n : Nat) (caps : Array Value) (Inv : World → Prop) (h : FH) (ak am a b c d m : Int) (hk : h.k = 0 ∨ h.k = 1 ∨ h.k = 2) (OWN : ∀ w, Calls Try.prog 141 #[.iface 146 (.agg #[.int .i64 ak, .int .i64 am, .int .i64 a, .int .i64 b, .int .i64 c, .int .i64 d, .int .i64 m])] w (OwT h w)) : WpAt n caps Inv (.iface 146 (.agg #[.int .i64 ak, .int .i64 am, .int .i64 a, .int .i64 b, .int .i64 c, .int .i64 d, .int .i64 m])) true (nd1 h []) := by
  intro w hw
  have HOWN := Lib.hid OWN
  have HN := Lib.hid (fun s W v => nodeWith_0 h s W v hk)
  obtain ⟨tt, yy, e⟩ := nd1_iface h []
  rw [e] at HN ⊢
  clear OWN hk e
  go_enter Try.func113, Try.ntmps113
  go_wp2
  refine wp_loop_rounds 1 ?_
  rw [rounds_succ]
  go_wp2_with fail
  generalize hW : World.alloc _ _ = W
  have hbW : Below w.heap.size w W := by subst hW; go_grown
  clear hW
  refine (HOWN.out W).mono ?_
  rintro e w1 ⟨rfl, hb1⟩
  have hbw1 := below_on hbW hb1
  go_wp2_with fail
  refine (HN.out _ w1 _).mono ?_
  rintro e w2 ⟨rfl, hb2⟩
  go_wp2
  go_ret2
  exact ⟨_, rfl, fun _ => rfl, below_on hbw1 hb2⟩

set_option maxRecDepth 10000 in
set_option maxHeartbeats 2000000 in
theorem wp_n (n : Nat) (caps : Array Value) (Inv : World → Prop) (EN : EnT n) (hI : Stays Inv) (h : FH)  (t : TypeId) (y : Value) (ok : Bool) (t1 : TypeId) (y1 : Value) (hk : h.k = 3 ∨ h.k = 6 ∨ h.k = 7) (OWN : ∀ w, Calls Try.prog 141 #[.iface 179 (.agg #[.iface t y])] w (OwT h w)) (HC : ChAt n caps Inv (.iface t y) ok (.iface t1 y1)) : WpAt n caps Inv (.iface 179 (.agg #[.iface t y])) ok (nd1 h [.iface t1 y1]) := by
  intro w hw
  have HOWN := Lib.hid OWN
  have HH := Lib.hid HC
  have HN := Lib.hid (fun s W v hown => nodeWith_1 h s W w.heap.size v t1 y1 hk hown)
  obtain ⟨tt, yy, e⟩ := nd1_iface h [.iface t1 y1]
  rw [e] at HN ⊢
  clear OWN hk e HC
  go_enter Try.func113, Try.ntmps113
  go_wp2
  generalize hW : World.alloc _ _ = W
  have hbW : Below w.heap.size w W := by subst hW; go_grown
  have hc0 : W.cell? ⟨w.heap.size + 1, 0, none⟩ = some (.iface t y) := by subst hW; simp [go_sem]
  have hIW := hI w W hw hbW
  have hown0 : W.ownsRow w.heap.size 120 1 (.slice none 0 0) 0 [] := World.ownsRow_nil _ _ _ _
  clear hW
  refine wp_loop_rounds 2 ?_
  rw [rounds_succ]
  go_wp2_with fail
  rw [EN, Oper.upon_enter]
  refine (HH.out W hIW).mono ?_
  rintro e w1 ⟨v1, rfl, hv1, hb1⟩
  have hbw1 := below_on hbW hb1
  cases ok with
  | false =>
    go_wp2
    go_ret2
    exact ⟨_, rfl, by simp, hbw1⟩
  | true =>
    obtain rfl := hv1 rfl
    obtain ⟨v2, w2, hr, ho, hg, _⟩ := an_first (.iface t1 y1) rfl (base := w.heap.size) (by have := hbw1.size; omega) (Nat.zero_le _) (own_below hown0 hb1)
    have HRUN := Lib.hid hr
    have HO := Lib.hid (show w2.ownsRow w.heap.size 120 1 v2 1 [.iface t1 y1] by simpa using ho)
    have hbw2 := grown_below3 hbw1 (own_below hown0 hb1) (Nat.le_refl _) hg
    clear hr ho hg hv1 hb1 hc0 hown0
    go_wp2_with (at_builtin; refine wpList_append_run rfl _ _ 130 rfl rfl rfl HRUN.out ?_)
    go_wp2_with fail
    rw [rounds_succ]
    go_wp2_with fail
    refine (HOWN.out _).mono ?_
    rintro e w3 ⟨rfl, hb3⟩
    have hbw3 := below_on hbw2 hb3
    go_wp2_with fail
    refine (HN.out _ w3 _ (own_below HO.out hb3)).mono ?_
    rintro e w4 ⟨rfl, hb4⟩
    go_wp2
    go_ret2
    exact ⟨_, rfl, fun _ => rfl, below_on hbw3 hb4⟩

set_option maxRecDepth 10000 in
set_option maxHeartbeats 2000000 in
theorem wp_b (n : Nat) (caps : Array Value) (Inv : World → Prop) (EN : EnT n) (hI : Stays Inv) (h : FH) (bb : Bool) (u : Int) (t : TypeId) (y : Value) (ok : Bool) (t1 : TypeId) (y1 : Value) (hk : h.k = 3 ∨ h.k = 6 ∨ h.k = 7) (OWN : ∀ w, Calls Try.prog 141 #[.iface 148 (.agg #[.bool bb, .int .i64 u, .iface t y])] w (OwT h w)) (HC : ChAt n caps Inv (.iface t y) ok (.iface t1 y1)) : WpAt n caps Inv (.iface 148 (.agg #[.bool bb, .int .i64 u, .iface t y])) ok (nd1 h [.iface t1 y1]) := by
  intro w hw
  have HOWN := Lib.hid OWN
  have HH := Lib.hid HC
  have HN := Lib.hid (fun s W v hown => nodeWith_1 h s W w.heap.size v t1 y1 hk hown)
  obtain ⟨tt, yy, e⟩ := nd1_iface h [.iface t1 y1]
  rw [e] at HN ⊢
  clear OWN hk e HC
  go_enter Try.func113, Try.ntmps113
  go_wp2
  generalize hW : World.alloc _ _ = W
  have hbW : Below w.heap.size w W := by subst hW; go_grown
  have hc0 : W.cell? ⟨w.heap.size + 1, 0, none⟩ = some (.iface t y) := by subst hW; simp [go_sem]
  have hIW := hI w W hw hbW
  have hown0 : W.ownsRow w.heap.size 120 1 (.slice none 0 0) 0 [] := World.ownsRow_nil _ _ _ _
  clear hW
  refine wp_loop_rounds 2 ?_
  rw [rounds_succ]
  go_wp2_with fail
  rw [EN, Oper.upon_enter]
  refine (HH.out W hIW).mono ?_
  rintro e w1 ⟨v1, rfl, hv1, hb1⟩
  have hbw1 := below_on hbW hb1
  cases ok with
  | false =>
    go_wp2
    go_ret2
    exact ⟨_, rfl, by simp, hbw1⟩
  | true =>
    obtain rfl := hv1 rfl
    obtain ⟨v2, w2, hr, ho, hg, _⟩ := an_first (.iface t1 y1) rfl (base := w.heap.size) (by have := hbw1.size; omega) (Nat.zero_le _) (own_below hown0 hb1)
    have HRUN := Lib.hid hr
    have HO := Lib.hid (show w2.ownsRow w.heap.size 120 1 v2 1 [.iface t1 y1] by simpa using ho)
    have hbw2 := grown_below3 hbw1 (own_below hown0 hb1) (Nat.le_refl _) hg
    clear hr ho hg hv1 hb1 hc0 hown0
    go_wp2_with (at_builtin; refine wpList_append_run rfl _ _ 130 rfl rfl rfl HRUN.out ?_)
    go_wp2_with fail
    rw [rounds_succ]
    go_wp2_with fail
    refine (HOWN.out _).mono ?_
    rintro e w3 ⟨rfl, hb3⟩
    have hbw3 := below_on hbw2 hb3
    go_wp2_with fail
    refine (HN.out _ w3 _ (own_below HO.out hb3)).mono ?_
    rintro e w4 ⟨rfl, hb4⟩
    go_wp2
    go_ret2
    exact ⟨_, rfl, fun _ => rfl, below_on hbw3 hb4⟩

set_option maxRecDepth 10000 in
set_option maxHeartbeats 2000000 in
theorem wp_p (n : Nat) (caps : Array Value) (Inv : World → Prop) (EN : EnT n) (hI : Stays Inv) (h : FH) (bb : Bool) (t u : TypeId) (y z : Value) (ok ok' : Bool) (t1 u1 : TypeId) (y1 z1 : Value) (hk : h.k = 4 ∨ h.k = 5) (OWN : ∀ w, Calls Try.prog 141 #[.iface 167 (.agg #[.bool bb, .iface t y, .iface u z])] w (OwT h w)) (HC : ChAt n caps Inv (.iface t y) ok (.iface t1 y1)) (HC' : ChAt n caps Inv (.iface u z) ok' (.iface u1 z1)) : WpAt n caps Inv (.iface 167 (.agg #[.bool bb, .iface t y, .iface u z])) (ok && ok') (nd1 h [.iface t1 y1, .iface u1 z1]) := by
  intro w hw
  have HOWN := Lib.hid OWN
  have HH := Lib.hid HC
  have HH' := Lib.hid HC'
  have HN := Lib.hid (fun s W v hown => nodeWith_2 h s W w.heap.size v t1 u1 y1 z1 hk hown)
  obtain ⟨tt, yy, e⟩ := nd1_iface h [.iface t1 y1, .iface u1 z1]
  rw [e] at HN ⊢
  clear OWN hk e HC HC'
  go_enter Try.func113, Try.ntmps113
  go_wp2
  generalize hW : World.alloc _ _ = W
  have hbW : Below w.heap.size w W := by subst hW; go_grown
  have hc0 : W.cell? ⟨w.heap.size + 1, 0, none⟩ = some (.iface t y) := by subst hW; simp [go_sem]
  have hc1 : W.cell? ⟨w.heap.size + 1, 1, none⟩ = some (.iface u z) := by subst hW; simp [go_sem]
  have hsW : w.heap.size + 1 < W.heap.size := by subst hW; simp
  have hIW := hI w W hw hbW
  have hown0 : W.ownsRow w.heap.size 120 1 (.slice none 0 0) 0 [] := World.ownsRow_nil _ _ _ _
  clear hW
  refine wp_loop_rounds 3 ?_
  rw [rounds_succ]
  go_wp2_with fail
  rw [EN, Oper.upon_enter]
  refine (HH.out W hIW).mono ?_
  rintro e w1 ⟨v1, rfl, hv1, hb1⟩
  have hbw1 := below_on hbW hb1
  cases ok with
  | false =>
    go_wp2
    go_ret2
    exact ⟨_, rfl, by simp, hbw1⟩
  | true =>
    obtain rfl := hv1 rfl
    have hI1 := hI W w1 hIW hb1
    have hd1 : w1.cell? ⟨w.heap.size + 1, 1, none⟩ = some (.iface u z) := ((bcell hb1).1 _ 1 hsW).trans hc1
    have hs1 := hb1.size
    obtain ⟨v2, w2, hr, ho, hg, hwh⟩ := an_first (.iface t1 y1) rfl (base := w.heap.size) (by have := hbw1.size; omega) (Nat.zero_le _) (own_below hown0 hb1)
    have hb12 : Below w1.heap.size w1 w2 := grown_below3 (v := .slice none 0 0) (B := w1.heap.size) (e := 120) (size := 1) (n := 0) (xs := []) (Below.refl _ _) (World.ownsRow_nil _ _ _ _) (Nat.le_refl _) hg
    have HRUN := Lib.hid hr
    have HO := Lib.hid (show w2.ownsRow w.heap.size 120 1 v2 1 [.iface t1 y1] by simpa using ho)
    have hbw2 := below_on hbw1 hb12
    have hI2 := hI w1 w2 hI1 hb12
    have hd2 : w2.cell? ⟨w.heap.size + 1, 1, none⟩ = some (.iface u z) := ((bcell hb12).1 _ 1 (by omega)).trans hd1
    clear hr ho hg hv1 hb1 hc0 hc1 hown0 hd1 hb12
    go_wp2_with (at_builtin; refine wpList_append_run rfl _ _ 130 rfl rfl rfl HRUN.out ?_)
    go_wp2_with fail
    rw [rounds_succ]
    go_wp2_with fail
    rw [EN, Oper.upon_enter]
    refine (HH'.out w2 hI2).mono ?_
    rintro e w3 ⟨v3, rfl, hv3, hb3⟩
    have hbw3 := below_on hbw2 hb3
    cases ok' with
    | false =>
      go_wp2
      go_ret2
      exact ⟨_, rfl, by simp, hbw3⟩
    | true =>
      obtain rfl := hv3 rfl
      obtain ⟨v4, w4, hr4, ho4, hg4, _⟩ := an_first (.iface u1 z1) rfl (base := w.heap.size) (by have := hbw3.size; omega) (show 1 ≤ 1048576 by omega) (own_below HO.out hb3)
      have HRUN4 := Lib.hid hr4
      have HO4 := Lib.hid (show w4.ownsRow w.heap.size 120 1 v4 2 [.iface t1 y1, .iface u1 z1] by simpa using ho4)
      have hbw4 := grown_below3 hbw3 (own_below HO.out hb3) (Nat.le_refl _) hg4
      clear hr4 ho4 hg4 hv3 hb3 hd2
      go_wp2_with (at_builtin; refine wpList_append_run rfl _ _ 130 rfl rfl rfl HRUN4.out ?_)
      go_wp2_with fail
      rw [rounds_succ]
      go_wp2_with fail
      refine (HOWN.out _).mono ?_
      rintro e w5 ⟨rfl, hb5⟩
      have hbw5 := below_on hbw4 hb5
      go_wp2_with fail
      refine (HN.out _ w5 _ (own_below HO4.out hb5)).mono ?_
      rintro e w6 ⟨rfl, hb6⟩
      go_wp2
      go_ret2
      exact ⟨_, rfl, fun _ => rfl, below_on hbw5 hb6⟩

/-- What a change makes of each of some parts. -/
def ChS (n : Nat) (caps : Array Value) (Inv : World → Prop) : Fo → Fo → Prop
  | .nil, .nil => True
  | .cons h s r, .cons h' s' r' => ChAt n caps Inv (nd1 h s.nds) (ownB h' s'.len && s'.okB) (nd1 h' s'.nds) ∧ ChS n caps Inv r r'
  | _, _ => False

theorem wp_any (n : Nat) (caps : Array Value) (Inv : World → Prop) (EN : EnT n) (hI : Stays Inv) (h : FH) (f g : Fo) (ho : ownB h f.len = true) (HC : ChS n caps Inv f g) : WpAt n caps Inv (nd1 h f.nds) g.okB (nd1 h g.nds) := by
  match f, g, ho, HC with
  | .nil, .nil, ho, _ =>
    simp only [Fo.nds, Fo.len, Fo.okB] at ho ⊢
    rcases own_kind ho with ⟨_, hk | hk | hk⟩ | ⟨hl, _⟩ | ⟨hl, _⟩
    · obtain ⟨z1, z2, z3, z4, z5, z6, z7⟩ := own_zero ho (by omega)
      have v0 := own_v0 ho (by rw [hk]; rfl)
      obtain ⟨k, ak, am, a, b, c, d, m, v⟩ := h
      dsimp only at *
      subst hk z1 z2 z3 z4 z5 z6 z7 v0
      exact wp_t n caps Inv _ true (.inl rfl) own_t0
    · obtain ⟨z1, z2, z3, z4, z5, z6, z7⟩ := own_zero ho (by omega)
      have v0 := own_v0 ho (by rw [hk]; rfl)
      obtain ⟨k, ak, am, a, b, c, d, m, v⟩ := h
      dsimp only at *
      subst hk z1 z2 z3 z4 z5 z6 z7 v0
      exact wp_t n caps Inv _ false (.inr (.inl rfl)) own_t1
    · have v0 := own_v0 ho (by rw [hk]; rfl)
      obtain ⟨k, ak, am, a, b, c, d, m, v⟩ := h
      dsimp only at *
      subst hk v0
      exact wp_a n caps Inv _ ak am a b c d m (.inr (.inr rfl)) (own_a ak am a b c d m)
    · omega
    · omega
  | .cons h1 s1 .nil, .cons g1 t1 .nil, ho, HC =>
    obtain ⟨t, y, e⟩ := nd1_iface h1 s1.nds
    obtain ⟨t', y', e'⟩ := nd1_iface g1 t1.nds
    have H1 : ChAt n caps Inv (.iface t y) (ownB g1 t1.len && t1.okB) (.iface t' y') := by rw [← e, ← e']; exact HC.1
    simp only [Fo.nds, Fo.len, Fo.okB, e, e', Bool.and_true] at ho ⊢
    rcases own_kind ho with ⟨hl, _⟩ | ⟨_, hk | hk | hk⟩ | ⟨hl, _⟩
    · omega
    · obtain ⟨z1, z2, z3, z4, z5, z6, z7⟩ := own_zero ho (by omega)
      have v0 := own_v0 ho (by rw [hk]; rfl)
      obtain ⟨k, ak, am, a, b, c, d, m, v⟩ := h
      dsimp only at *
      subst hk z1 z2 z3 z4 z5 z6 z7 v0
      exact wp_n n caps Inv EN hI _ t y _ t' y' (.inl rfl) (own_n t y) H1
    · obtain ⟨z1, z2, z3, z4, z5, z6, z7⟩ := own_zero ho (by omega)
      obtain ⟨k, ak, am, a, b, c, d, m, v⟩ := h
      dsimp only at *
      subst hk z1 z2 z3 z4 z5 z6 z7
      exact wp_b n caps Inv EN hI _ true v t y _ t' y' (.inr (.inl rfl)) (own_b6 v t y) H1
    · obtain ⟨z1, z2, z3, z4, z5, z6, z7⟩ := own_zero ho (by omega)
      obtain ⟨k, ak, am, a, b, c, d, m, v⟩ := h
      dsimp only at *
      subst hk z1 z2 z3 z4 z5 z6 z7
      exact wp_b n caps Inv EN hI _ false v t y _ t' y' (.inr (.inr rfl)) (own_b7 v t y) H1
    · omega
  | .cons h1 s1 (.cons h2 s2 .nil), .cons g1 t1 (.cons g2 t2 .nil), ho, HC =>
    obtain ⟨t, y, e⟩ := nd1_iface h1 s1.nds
    obtain ⟨t', y', e'⟩ := nd1_iface g1 t1.nds
    obtain ⟨u, z, q⟩ := nd1_iface h2 s2.nds
    obtain ⟨u', z', q'⟩ := nd1_iface g2 t2.nds
    have H1 : ChAt n caps Inv (.iface t y) (ownB g1 t1.len && t1.okB) (.iface t' y') := by rw [← e, ← e']; exact HC.1
    have H2 : ChAt n caps Inv (.iface u z) (ownB g2 t2.len && t2.okB) (.iface u' z') := by rw [← q, ← q']; exact HC.2.1
    simp only [Fo.nds, Fo.len, Fo.okB, e, e', q, q', Bool.and_true] at ho ⊢
    rcases own_kind ho with ⟨hl, _⟩ | ⟨hl, _⟩ | ⟨_, hk | hk⟩
    · omega
    · omega
    · obtain ⟨z1, z2, z3, z4, z5, z6, z7⟩ := own_zero ho (by omega)
      have v0 := own_v0 ho (by rw [hk]; rfl)
      obtain ⟨k, ak, am, a, b, c, d, m, v⟩ := h
      dsimp only at *
      subst hk z1 z2 z3 z4 z5 z6 z7 v0
      exact wp_p n caps Inv EN hI _ true t u y z _ _ t' u' y' z' (.inl rfl) (own_p4 t u y z) H1 H2
    · obtain ⟨z1, z2, z3, z4, z5, z6, z7⟩ := own_zero ho (by omega)
      have v0 := own_v0 ho (by rw [hk]; rfl)
      obtain ⟨k, ak, am, a, b, c, d, m, v⟩ := h
      dsimp only at *
      subst hk z1 z2 z3 z4 z5 z6 z7 v0
      exact wp_p n caps Inv EN hI _ false t u y z _ _ t' u' y' z' (.inr rfl) (own_p5 t u y z) H1 H2
  | .cons _ _ (.cons _ _ (.cons _ _ r)), _, ho, _ =>
    rcases own_kind ho with ⟨hl, _⟩ | ⟨hl, _⟩ | ⟨hl, _⟩ <;> simp [Fo.len] at hl
  | .nil, .cons _ _ _, _, HC => exact absurd HC (by simp [ChS])
  | .cons _ _ .nil, .nil, _, HC => exact absurd HC (by simp [ChS])
  | .cons _ _ .nil, .cons _ _ (.cons _ _ _), _, HC => exact absurd HC.2 (by simp [ChS])
  | .cons _ _ (.cons _ _ .nil), .nil, _, HC => exact absurd HC (by simp [ChS])
  | .cons _ _ (.cons _ _ .nil), .cons _ _ .nil, _, HC => exact absurd HC.2 (by simp [ChS])
  | .cons _ _ (.cons _ _ .nil), .cons _ _ (.cons _ _ (.cons _ _ _)), _, HC => exact absurd HC.2.2 (by simp [ChS])

end Go.Proofs.Ytcgolbkpfncgpaa

/- Contracts of the program's validFormula and changedFormula, with one form of result. -/
namespace Go.Proofs.Ytcgolbkpfncgpaa
open Go.RowKit

/-- The zero formula's head. -/
def h00 : FH := ⟨0, 0, 0, 0, 0, 0, 0, 0, 0⟩
/-- A formula and a bool are returned; the formula's memory is new and its lists lie apart. -/
def FrT (q : FH × Fo) (ok : Bool) (w : World) (e : Ending) (w' : World) : Prop := ∃ s, e = .returned (.tuple #[.agg #[.int .i64 q.1.k, .int .i64 q.1.ak, .int .i64 q.1.am, .int .i64 q.1.a, .int .i64 q.1.b, .int .i64 q.1.c, .int .i64 q.1.d, .int .i64 q.1.n, .int .i64 q.1.v, s], .bool ok]) ∧ SF w' w.heap.size w'.heap.size q.2 s ∧ Below w.heap.size w w'
/-- The formula, if ok, else the zero value. -/
def okQ (ok : Bool) (h : FH) (f : Fo) : FH × Fo := if ok = true then (h, f) else (h00, .nil)
theorem sf_none (w : World) (lo hi : Nat) : SF w lo hi .nil (.slice none 0 0) := .inl ⟨rfl, none, 0, rfl, Nat.le_refl _, Nat.zero_le _⟩
theorem fr_yes {h : FH} {f : Fo} {w : World} {e : Ending} {w' : World} (hp : VyT h f w e w') : FrT (okQ true h f) true w e w' := hp
theorem fr_no {h : FH} {f : Fo} {w : World} {e : Ending} {w' : World} (hp : VnT w e w') : FrT (okQ false h f) false w e w' := ⟨.slice none 0 0, hp.1, sf_none _ _ _, hp.2⟩

theorem vf_any (h : FH) (f : Fo) (w : World) (ho : ownB h f.len = true) (hok : f.okB = true) (hz2 : f.size ≤ 100000) : Calls Try.prog 95 #[nd1 h f.nds] w (FrT (okQ (vfB h f) h f) (vfB h f) w) := by
  by_cases hz : f.size + 1 ≤ 600
  · have e : vfB h f = true := by unfold vfB; rw [ho, hok]; simpa using hz
    rw [e]
    exact (vf_yes h f w ho hok hz).mono fun _ _ hp => fr_yes hp
  · have e : vfB h f = false := by unfold vfB; rw [ho, hok]; simpa using hz
    rw [e]
    exact (vf_no h f w ho hok (by omega) hz2).mono fun _ _ hp => fr_no hp

set_option maxRecDepth 10000 in
set_option maxHeartbeats 2000000 in
theorem changed_any (n : Nat) (caps : Array Value) (Inv : World → Prop) (EN : EnT n) (hI : Stays Inv) (h h' : FH) (f f' : Fo) (w : World) (lo : Nat) (s : Value) (hi : Inv w) (hs : FS w lo f s) (hz : f'.size ≤ 100000)
    (HC : vfB h f = true → ChAt n caps Inv (nd1 h f.nds) (ownB h' f'.len && f'.okB) (nd1 h' f'.nds)) :
    Calls Try.prog 74 #[.agg #[.int .i64 h.k, .int .i64 h.ak, .int .i64 h.am, .int .i64 h.a, .int .i64 h.b, .int .i64 h.c, .int .i64 h.d, .int .i64 h.n, .int .i64 h.v, s], .func (.func n) #[] caps] w (FrT (okQ (vfB h f && vfB h' f') h' f') (vfB h f && vfB h' f') w) := by
  have HN := Lib.hid (fun W hW => nodeOf_any h f W lo s (FS.below (w := w) hW (Nat.le_refl _) hs))
  obtain ⟨sa0, sn0, sc0, rfl⟩ := hs.slice
  clear hs
  cases hv : vfB h f with
  | false =>
    have HV := Lib.hid (show ndV h f = .tuple #[.nilIface, .bool false] by unfold ndV; rw [if_neg (by rw [hv]; simp)])
    simp only [Bool.false_and]
    clear hv HC
    go_enter Try.func74, Try.ntmps74
    go_wp2_with fail
    generalize hW : World.alloc _ _ = W
    have hw : Below w.heap.size w W := by subst hW; go_grown
    have hx : C10 W (w.heap.size + 1) ⟨0, 0, 0, 0, 0, 0, 0, 0, 0⟩ (.slice none 0 0) := by subst hW; exact (by refine ⟨?_, ?_, ?_, ?_, ?_, ?_, ?_, ?_, ?_, ?_, ?_⟩ <;> first | (simp [go_sem]; done) | (simp; omega))
    have hf : ∀ o, W.frozen? ⟨w.heap.size + 1, o, none⟩ = false := fun o => by subst hW; simp [go_sem]
    clear hW
    refine (HN.out W hw).mono ?_
    rintro e w3 ⟨rfl, hb3⟩
    rw [HV.out]
    have hx3 := c10_on hx hb3
    have hf3 : ∀ o, w3.frozen? ⟨w.heap.size + 1, o, none⟩ = false := fun o => ((bcell hb3).2 _ o hx.1).trans (hf o)
    have hw3 := below_on hw hb3
    have hws : w.heap.size + 1 < W.heap.size := hx.1
    obtain ⟨x0, c0, c1, c2, c3, c4, c5, c6, c7, c8, c9⟩ := id hx3
    clear hb3 hx hf hw
    go_upto_region 20 with fail
    generalize hW7 : World.setCell _ _ _ = W7
    obtain ⟨hx7, hb7⟩ := put10b (g := ⟨0, 0, 0, 0, 0, 0, 0, 0, 0⟩) hx3 hW7
    have hww7 := hw3.trans (hb7 w.heap.size (by omega))
    obtain ⟨z0, k1, k2, k3, k4, k5, k6, k7, k8, k9, k10⟩ := hx7
    clear hW7 x0 c0 c1 c2 c3 c4 c5 c6 c7 c8 c9
    go_wp2
    refine bodyPost_ret (v := .tuple #[.agg #[.int .i64 0, .int .i64 0, .int .i64 0, .int .i64 0, .int .i64 0, .int .i64 0, .int .i64 0, .int .i64 0, .int .i64 0, .slice none 0 0], .bool false]) (by simp [results, Try.results74, go_sem, k1, k2, k3, k4, k5, k6, k7, k8, k9, k10]) rfl (fr_no ⟨rfl, hww7⟩)
  | true =>
    have HV := Lib.hid (show ndV h f = .tuple #[nd1 h f.nds, .bool true] by unfold ndV; rw [if_pos hv])
    simp only [Bool.true_and]
    obtain ⟨t, y, e⟩ := nd1_iface h f.nds
    obtain ⟨t', y', e'⟩ := nd1_iface h' f'.nds
    have HCC := HC hv
    rw [e] at HV HCC
    clear HC
    cases hk : ownB h' f'.len && f'.okB with
    | false =>
      have hz' : vfB h' f' = false := by unfold vfB; rw [hk]; rfl
      rw [hk] at HCC
      have HH := Lib.hid HCC
      rw [hz']
      clear HCC hk hz' hv e e'
      go_enter Try.func74, Try.ntmps74
      go_wp2_with fail
      generalize hW : World.alloc _ _ = W
      have hw : Below w.heap.size w W := by subst hW; go_grown
      have hx : C10 W (w.heap.size + 1) ⟨0, 0, 0, 0, 0, 0, 0, 0, 0⟩ (.slice none 0 0) := by subst hW; exact (by refine ⟨?_, ?_, ?_, ?_, ?_, ?_, ?_, ?_, ?_, ?_, ?_⟩ <;> first | (simp [go_sem]; done) | (simp; omega))
      have hf : ∀ o, W.frozen? ⟨w.heap.size + 1, o, none⟩ = false := fun o => by subst hW; simp [go_sem]
      clear hW
      refine (HN.out W hw).mono ?_
      rintro e w1 ⟨rfl, hb1⟩
      rw [HV.out]
      have hi1 := hI w w1 hi (below_on hw hb1)
      go_wp2_with fail
      rw [EN, Oper.upon_enter]
      refine (HH.out w1 hi1).mono ?_
      rintro e w3 ⟨v3, rfl, _, hb13⟩
      have hb3 := below_on hb1 hb13
      clear hb1 hb13
      have hx3 := c10_on hx hb3
      have hf3 : ∀ o, w3.frozen? ⟨w.heap.size + 1, o, none⟩ = false := fun o => ((bcell hb3).2 _ o hx.1).trans (hf o)
      have hw3 := below_on hw hb3
      have hws : w.heap.size + 1 < W.heap.size := hx.1
      obtain ⟨x0, c0, c1, c2, c3, c4, c5, c6, c7, c8, c9⟩ := id hx3
      clear hb3 hx hf hw
      go_upto_region 20 with fail
      generalize hW7 : World.setCell _ _ _ = W7
      obtain ⟨hx7, hb7⟩ := put10b (g := ⟨0, 0, 0, 0, 0, 0, 0, 0, 0⟩) hx3 hW7
      have hww7 := hw3.trans (hb7 w.heap.size (by omega))
      obtain ⟨z0, k1, k2, k3, k4, k5, k6, k7, k8, k9, k10⟩ := hx7
      clear hW7 x0 c0 c1 c2 c3 c4 c5 c6 c7 c8 c9
      go_wp2
      refine bodyPost_ret (v := .tuple #[.agg #[.int .i64 0, .int .i64 0, .int .i64 0, .int .i64 0, .int .i64 0, .int .i64 0, .int .i64 0, .int .i64 0, .int .i64 0, .slice none 0 0], .bool false]) (by simp [results, Try.results74, go_sem, k1, k2, k3, k4, k5, k6, k7, k8, k9, k10]) rfl (fr_no ⟨rfl, hww7⟩)
    | true =>
      have ho : ownB h' f'.len = true ∧ f'.okB = true := by simpa using hk
      have HF := Lib.hid (fun W => vf_any h' f' W ho.1 ho.2 hz)
      rw [hk, e'] at HCC
      rw [e'] at HF
      have HH := Lib.hid HCC
      obtain ⟨q, hq⟩ : ∃ q, okQ (vfB h' f') h' f' = q := ⟨_, rfl⟩
      obtain ⟨ok, hok⟩ : ∃ ok, vfB h' f' = ok := ⟨_, rfl⟩
      rw [hq, hok] at HF
      rw [hq, hok]
      clear HCC hk hv e e' hz hq hok ho
      go_enter Try.func74, Try.ntmps74
      go_wp2_with fail
      generalize hW : World.alloc _ _ = W
      have hw : Below w.heap.size w W := by subst hW; go_grown
      have hx : C10 W (w.heap.size + 1) ⟨0, 0, 0, 0, 0, 0, 0, 0, 0⟩ (.slice none 0 0) := by subst hW; exact (by refine ⟨?_, ?_, ?_, ?_, ?_, ?_, ?_, ?_, ?_, ?_, ?_⟩ <;> first | (simp [go_sem]; done) | (simp; omega))
      have hf : ∀ o, W.frozen? ⟨w.heap.size + 1, o, none⟩ = false := fun o => by subst hW; simp [go_sem]
      clear hW
      refine (HN.out W hw).mono ?_
      rintro e w1 ⟨rfl, hb1⟩
      rw [HV.out]
      have hi1 := hI w w1 hi (below_on hw hb1)
      go_wp2_with fail
      rw [EN, Oper.upon_enter]
      refine (HH.out w1 hi1).mono ?_
      rintro e w2 ⟨v2, rfl, hv2, hb12⟩
      obtain rfl := hv2 rfl
      go_wp2_with fail
      refine (HF.out w2).mono ?_
      rintro e w3 ⟨s3, rfl, hs3, hb23⟩
      obtain ⟨sa, sn, sc, rfl⟩ := hs3.slice
      have HS3 := Lib.hid hs3
      have hs12 := (below_on hb1 hb12).size
      have hb3 := below_on (below_on hb1 hb12) hb23
      clear hb1 hb12 hb23 hs3 hv2
      have hx3 := c10_on hx hb3
      have hf3 : ∀ o, w3.frozen? ⟨w.heap.size + 1, o, none⟩ = false := fun o => ((bcell hb3).2 _ o hx.1).trans (hf o)
      have hw3 := below_on hw hb3
      have hws : w.heap.size + 1 < W.heap.size := hx.1
      obtain ⟨x0, c0, c1, c2, c3, c4, c5, c6, c7, c8, c9⟩ := id hx3
      clear hb3 hx hf hw
      go_upto_region 20 with fail
      generalize hW7 : World.setCell _ _ _ = W7
      have hblk7 : ∀ x, x ≠ w.heap.size + 1 → W7.heap[x]? = w3.heap[x]? := fun x hx => by subst hW7; repeat rw [Below.heap_setCell _ _ _ _ (by dsimp only; omega)]
      have hsz7 : W7.heap.size = w3.heap.size := by subst hW7; simp [World.setCell]
      obtain ⟨hx7, hb7⟩ := put10b (g := q.1) hx3 hW7
      have hww7 := hw3.trans (hb7 w.heap.size (by omega))
      have HS7 : Hid (SF W7 w.heap.size W7.heap.size q.2 (.slice sa sn sc)) := by
        have h0 := SF.same (w' := W7) (fun x h1 _ => hblk7 x (by have h2 : w2.heap.size ≤ x := h1; omega)) HS3.out
        exact SF.mono (by omega) (by omega) h0
      obtain ⟨z0, k1, k2, k3, k4, k5, k6, k7, k8, k9, k10⟩ := hx7
      clear hW7 x0 c0 c1 c2 c3 c4 c5 c6 c7 c8 c9 hblk7 hsz7
      go_wp2
      refine bodyPost_ret (v := .tuple #[.agg #[.int .i64 q.1.k, .int .i64 q.1.ak, .int .i64 q.1.am, .int .i64 q.1.a, .int .i64 q.1.b, .int .i64 q.1.c, .int .i64 q.1.d, .int .i64 q.1.n, .int .i64 q.1.v, .slice sa sn sc], .bool ok]) (by simp [results, Try.results74, go_sem, k1, k2, k3, k4, k5, k6, k7, k8, k9, k10]) rfl ⟨_, rfl, HS7.out, hww7⟩

end Go.Proofs.Ytcgolbkpfncgpaa

/- Formulas without negations: as data, and the contract of the program's NegNormal. -/
namespace Go.Proofs.Ytcgolbkpfncgpaa
open Go.RowKit

def opK (k : Int) : Int := if k = 0 then 1 else if k = 1 then 0 else if k = 4 then 5 else if k = 5 then 4 else if k = 6 then 7 else if k = 7 then 6 else k
/-- The head of a formula, or of its negation. -/
def opH (b : Bool) (h : FH) : FH := ⟨if b then opK h.k else h.k, h.ak, h.am, h.a, h.b, h.c, h.d, h.n, h.v⟩
def ngAt (h : FH) : List AtD := ngL h.ak h.am h.a h.b h.c h.d h.n
/-- A formula without negations, or (b) that of its negation; t: its parts. -/
def ngE (b : Bool) (h : FH) (t : Bool → Fo) : FH × Fo :=
  if h.k = 3 then (match t (!b) with | .cons h' s' _ => (h', s') | .nil => (h, .nil))
  else if b = true ∧ h.k = 2 then jA false (atFo (ngAt h))
  else (opH b h, t b)
def Fo.ng : Fo → Bool → Fo
  | .nil, _ => .nil
  | .cons h s r, b => .cons (ngE b h s.ng).1 (ngE b h s.ng).2 (r.ng b)
def ngF (b : Bool) (h : FH) (f : Fo) : FH × Fo := ngE b h f.ng
def ngK (b : Bool) (h : FH) (f : Fo) : Bool := ownB (ngF b h f).1 (ngF b h f).2.len && (ngF b h f).2.okB

theorem ng_len (b : Bool) : ∀ f : Fo, (f.ng b).len = f.len := by
  intro f
  induction f with
  | nil => rfl
  | cons h s r _ ih => simp only [Fo.ng, Fo.len, ih]
theorem ngF_not {b : Bool} {h h1 : FH} {s1 : Fo} (hk : h.k = 3) : ngF b h (.cons h1 s1 .nil) = ngF (!b) h1 s1 := by
  unfold ngF
  conv => lhs; unfold ngE
  rw [if_pos hk]
  simp only [Fo.ng]
theorem ngF_atom {h : FH} {f : Fo} (hk : h.k = 2) : ngF true h f = jA false (atFo (ngAt h)) := by
  unfold ngF ngE
  rw [if_neg (by omega), if_pos ⟨rfl, hk⟩]
theorem ngF_else {b : Bool} {h : FH} {f : Fo} (h3 : h.k ≠ 3) (h2 : b = false ∨ h.k ≠ 2) : ngF b h f = (opH b h, f.ng b) := by
  unfold ngF ngE
  rw [if_neg h3, if_neg (by rcases h2 with h2 | h2 <;> simp [h2])]
theorem opH_own {b : Bool} {h : FH} {n : Nat} (ho : ownB h n = true) (h2 : b = false ∨ h.k ≠ 2) : ownB (opH b h) n = true := by
  cases b with
  | false => exact ho
  | true =>
    have h2' : h.k ≠ 2 := by simpa using h2
    have hc : h.k = 0 ∨ h.k = 1 ∨ h.k = 3 ∨ h.k = 4 ∨ h.k = 5 ∨ h.k = 6 ∨ h.k = 7 := by
      rcases own_kind ho with ⟨_, h | h | h⟩ | ⟨_, h | h | h⟩ | ⟨_, h | h⟩ <;> omega
    obtain ⟨k, ak, am, a, b, c, d, m, v⟩ := h
    dsimp only at hc
    rcases hc with rfl | rfl | rfl | rfl | rfl | rfl | rfl <;> exact ho
theorem ngK_else {b : Bool} {h : FH} {f : Fo} (ho : ownB h f.len = true) (h3 : h.k ≠ 3) (h2 : b = false ∨ h.k ≠ 2) : ngK b h f = (f.ng b).okB := by
  unfold ngK
  rw [ngF_else h3 h2]
  dsimp only
  rw [ng_len, opH_own ho h2, Bool.true_and]
theorem ngAt_pos (h : FH) : ∃ x L, ngAt h = x :: L ∧ L.length ≤ 1 := by
  unfold ngAt ngL
  repeat' split
  all_goals exact ⟨_, _, rfl, by simp⟩
theorem ngK_atom {h : FH} {f : Fo} (hk : h.k = 2) : ngK true h f = (ngAt h).all avQ := by
  unfold ngK
  rw [ngF_atom hk, ← atFo_ok]
  obtain ⟨x, L, e, _⟩ := ngAt_pos h
  rw [e]
  simp only [jA, atFo, jF_okB, Fo.okB, Fo.len]
theorem jA_small (L : List AtD) (hL : L.length ≤ 2) : (jA false (atFo L)).2.size ≤ 2 := by
  match L, hL with
  | [], _ => simp [jA, atFo, Fo.size]
  | [_], _ => simp [jA, jF, atFo, Fo.size]
  | [_, _], _ => simp [jA, jF, atFo, Fo.size]
  | _ :: _ :: _ :: _, h => simp at h
theorem ng_size : ∀ (f : Fo) (b : Bool), (f.ng b).size ≤ 3 * f.size := by
  intro f
  induction f with
  | nil => intro _; exact Nat.le_refl _
  | cons h s r ihs ihr =>
    intro b
    simp only [Fo.ng, Fo.size]
    have h1 : (ngE b h s.ng).2.size ≤ 3 * s.size + 2 := by
      unfold ngE
      split
      · have := ihs (!b)
        split
        · rename_i h' s' rest e
          rw [e] at this
          simp only [Fo.size] at this
          show s'.size ≤ _
          omega
        · exact Nat.zero_le _
      · split
        · have := jA_small (ngAt h) (by obtain ⟨x, L, e, hl⟩ := ngAt_pos h; rw [e]; simpa using hl)
          omega
        · have := ihs b
          show (s.ng b).size ≤ _
          omega
    have h2 := ihr b
    omega
theorem ngF_size (b : Bool) (h : FH) (f : Fo) : (ngF b h f).2.size ≤ 3 * f.size + 2 := by
  have h1 := ng_size (.cons h f .nil) b
  simp only [Fo.ng, Fo.size] at h1
  have e : ngF b h f = ngE b h f.ng := rfl
  rw [e]
  omega

theorem Try.tatt (b : Bool) (w : World) : (Instr.typeAssert (.iface 165 (.agg #[.bool b])) 120 165 true).run Try.prog w = .ok (.tuple #[.agg #[.bool b], .bool true]) w := by kernel_rfl
theorem Try.tatn (t : TypeId) (y : Value) (w : World) : (Instr.typeAssert (.iface 179 (.agg #[.iface t y])) 120 165 true).run Try.prog w = .ok (.tuple #[.agg #[.bool false], .bool false]) w := by kernel_rfl
theorem Try.tatp (b : Bool) (t u : TypeId) (y z : Value) (w : World) : (Instr.typeAssert (.iface 167 (.agg #[.bool b, .iface t y, .iface u z])) 120 165 true).run Try.prog w = .ok (.tuple #[.agg #[.bool false], .bool false]) w := by kernel_rfl
theorem Try.tatb (b : Bool) (v : Int) (t : TypeId) (y : Value) (w : World) : (Instr.typeAssert (.iface 148 (.agg #[.bool b, .int .i64 v, .iface t y])) 120 165 true).run Try.prog w = .ok (.tuple #[.agg #[.bool false], .bool false]) w := by kernel_rfl
theorem Try.tata (k m a b c d n : Int) (w : World) : (Instr.typeAssert (.iface 146 (.agg #[.int .i64 k, .int .i64 m, .int .i64 a, .int .i64 b, .int .i64 c, .int .i64 d, .int .i64 n])) 120 165 true).run Try.prog w = .ok (.tuple #[.agg #[.bool false], .bool false]) w := by kernel_rfl
theorem Try.tant (b : Bool) (w : World) : (Instr.typeAssert (.iface 165 (.agg #[.bool b])) 120 179 true).run Try.prog w = .ok (.tuple #[.agg #[.nilIface], .bool false]) w := by kernel_rfl
theorem Try.tann (t : TypeId) (y : Value) (w : World) : (Instr.typeAssert (.iface 179 (.agg #[.iface t y])) 120 179 true).run Try.prog w = .ok (.tuple #[.agg #[.iface t y], .bool true]) w := by kernel_rfl
theorem Try.tanp (b : Bool) (t u : TypeId) (y z : Value) (w : World) : (Instr.typeAssert (.iface 167 (.agg #[.bool b, .iface t y, .iface u z])) 120 179 true).run Try.prog w = .ok (.tuple #[.agg #[.nilIface], .bool false]) w := by kernel_rfl
theorem Try.tanb (b : Bool) (v : Int) (t : TypeId) (y : Value) (w : World) : (Instr.typeAssert (.iface 148 (.agg #[.bool b, .int .i64 v, .iface t y])) 120 179 true).run Try.prog w = .ok (.tuple #[.agg #[.nilIface], .bool false]) w := by kernel_rfl
theorem Try.tana (k m a b c d n : Int) (w : World) : (Instr.typeAssert (.iface 146 (.agg #[.int .i64 k, .int .i64 m, .int .i64 a, .int .i64 b, .int .i64 c, .int .i64 d, .int .i64 n])) 120 179 true).run Try.prog w = .ok (.tuple #[.agg #[.nilIface], .bool false]) w := by kernel_rfl
theorem Try.tapt (b : Bool) (w : World) : (Instr.typeAssert (.iface 165 (.agg #[.bool b])) 120 167 true).run Try.prog w = .ok (.tuple #[.agg #[.bool false, .nilIface, .nilIface], .bool false]) w := by kernel_rfl
theorem Try.tapn (t : TypeId) (y : Value) (w : World) : (Instr.typeAssert (.iface 179 (.agg #[.iface t y])) 120 167 true).run Try.prog w = .ok (.tuple #[.agg #[.bool false, .nilIface, .nilIface], .bool false]) w := by kernel_rfl
theorem Try.tapp (b : Bool) (t u : TypeId) (y z : Value) (w : World) : (Instr.typeAssert (.iface 167 (.agg #[.bool b, .iface t y, .iface u z])) 120 167 true).run Try.prog w = .ok (.tuple #[.agg #[.bool b, .iface t y, .iface u z], .bool true]) w := by kernel_rfl
theorem Try.tapb (b : Bool) (v : Int) (t : TypeId) (y : Value) (w : World) : (Instr.typeAssert (.iface 148 (.agg #[.bool b, .int .i64 v, .iface t y])) 120 167 true).run Try.prog w = .ok (.tuple #[.agg #[.bool false, .nilIface, .nilIface], .bool false]) w := by kernel_rfl
theorem Try.tapa (k m a b c d n : Int) (w : World) : (Instr.typeAssert (.iface 146 (.agg #[.int .i64 k, .int .i64 m, .int .i64 a, .int .i64 b, .int .i64 c, .int .i64 d, .int .i64 n])) 120 167 true).run Try.prog w = .ok (.tuple #[.agg #[.bool false, .nilIface, .nilIface], .bool false]) w := by kernel_rfl
theorem Try.tabt (b : Bool) (w : World) : (Instr.typeAssert (.iface 165 (.agg #[.bool b])) 120 148 true).run Try.prog w = .ok (.tuple #[.agg #[.bool false, .int .i64 0, .nilIface], .bool false]) w := by kernel_rfl
theorem Try.tabn (t : TypeId) (y : Value) (w : World) : (Instr.typeAssert (.iface 179 (.agg #[.iface t y])) 120 148 true).run Try.prog w = .ok (.tuple #[.agg #[.bool false, .int .i64 0, .nilIface], .bool false]) w := by kernel_rfl
theorem Try.tabp (b : Bool) (t u : TypeId) (y z : Value) (w : World) : (Instr.typeAssert (.iface 167 (.agg #[.bool b, .iface t y, .iface u z])) 120 148 true).run Try.prog w = .ok (.tuple #[.agg #[.bool false, .int .i64 0, .nilIface], .bool false]) w := by kernel_rfl
theorem Try.tabb (b : Bool) (v : Int) (t : TypeId) (y : Value) (w : World) : (Instr.typeAssert (.iface 148 (.agg #[.bool b, .int .i64 v, .iface t y])) 120 148 true).run Try.prog w = .ok (.tuple #[.agg #[.bool b, .int .i64 v, .iface t y], .bool true]) w := by kernel_rfl
theorem Try.taba (k m a b c d n : Int) (w : World) : (Instr.typeAssert (.iface 146 (.agg #[.int .i64 k, .int .i64 m, .int .i64 a, .int .i64 b, .int .i64 c, .int .i64 d, .int .i64 n])) 120 148 true).run Try.prog w = .ok (.tuple #[.agg #[.bool false, .int .i64 0, .nilIface], .bool false]) w := by kernel_rfl
theorem Try.taat (b : Bool) (w : World) : (Instr.typeAssert (.iface 165 (.agg #[.bool b])) 120 146 true).run Try.prog w = .ok (.tuple #[.agg #[.int .i64 0, .int .i64 0, .int .i64 0, .int .i64 0, .int .i64 0, .int .i64 0, .int .i64 0], .bool false]) w := by kernel_rfl
theorem Try.taan (t : TypeId) (y : Value) (w : World) : (Instr.typeAssert (.iface 179 (.agg #[.iface t y])) 120 146 true).run Try.prog w = .ok (.tuple #[.agg #[.int .i64 0, .int .i64 0, .int .i64 0, .int .i64 0, .int .i64 0, .int .i64 0, .int .i64 0], .bool false]) w := by kernel_rfl
theorem Try.taap (b : Bool) (t u : TypeId) (y z : Value) (w : World) : (Instr.typeAssert (.iface 167 (.agg #[.bool b, .iface t y, .iface u z])) 120 146 true).run Try.prog w = .ok (.tuple #[.agg #[.int .i64 0, .int .i64 0, .int .i64 0, .int .i64 0, .int .i64 0, .int .i64 0, .int .i64 0], .bool false]) w := by kernel_rfl
theorem Try.taab (b : Bool) (v : Int) (t : TypeId) (y : Value) (w : World) : (Instr.typeAssert (.iface 148 (.agg #[.bool b, .int .i64 v, .iface t y])) 120 146 true).run Try.prog w = .ok (.tuple #[.agg #[.int .i64 0, .int .i64 0, .int .i64 0, .int .i64 0, .int .i64 0, .int .i64 0, .int .i64 0], .bool false]) w := by kernel_rfl
theorem Try.taaa (k m a b c d n : Int) (w : World) : (Instr.typeAssert (.iface 146 (.agg #[.int .i64 k, .int .i64 m, .int .i64 a, .int .i64 b, .int .i64 c, .int .i64 d, .int .i64 n])) 120 146 true).run Try.prog w = .ok (.tuple #[.agg #[.int .i64 k, .int .i64 m, .int .i64 a, .int .i64 b, .int .i64 c, .int .i64 d, .int .i64 n], .bool true]) w := by kernel_rfl

end Go.Proofs.Ytcgolbkpfncgpaa

/- The contracts of the program's opposite, withoutNegations' closures and NegNormal. -/
namespace Go.Proofs.Ytcgolbkpfncgpaa
open Go.RowKit

def ValT (v : Value) (w : World) (e : Ending) (w' : World) : Prop := e = .returned v ∧ Below w.heap.size w w'
theorem ch_iface {ok : Bool} {y : Value} {w : World} {e : Ending} {w' : World} (h : ChP ok y w e w') : ∃ v, e = .returned (.tuple #[v, .bool ok]) ∧ (ok = true → v = y) ∧ Below w.heap.size w w' := h

theorem ta_not_no (h : FH) (f : Fo) (ho : ownB h f.len = true) (h3 : h.k ≠ 3) : ∃ t y, nd1 h f.nds = .iface t y ∧ ∀ w, (Instr.typeAssert (.iface t y) 120 179 true).run Try.prog w = .ok (.tuple #[.agg #[.nilIface], .bool false]) w := by
  obtain ⟨k, ak, am, a, b, c, d, m, v⟩ := h
  dsimp only at h3
  rcases own_kind ho with ⟨hl, hk⟩ | ⟨hl, hk⟩ | ⟨hl, hk⟩
  · dsimp only at hk
    rcases hk with rfl | rfl | rfl
    · exact ⟨_, _, rfl, fun w => Try.tant true w⟩
    · exact ⟨_, _, rfl, fun w => Try.tant false w⟩
    · exact ⟨_, _, rfl, fun w => Try.tana ak am a b c d m w⟩
  · dsimp only at hk
    match f, hl with
    | .cons h1 s1 .nil, _ =>
      obtain ⟨t, y, e⟩ := nd1_iface h1 s1.nds
      simp only [Fo.nds, e]
      rcases hk with rfl | rfl | rfl
      · exact absurd rfl h3
      · exact ⟨_, _, rfl, fun w => Try.tanb true v t y w⟩
      · exact ⟨_, _, rfl, fun w => Try.tanb false v t y w⟩
    | .cons _ _ (.cons _ _ r), hl => simp [Fo.len] at hl
  · dsimp only at hk
    match f, hl with
    | .cons h1 s1 (.cons h2 s2 .nil), _ =>
      obtain ⟨t, y, e⟩ := nd1_iface h1 s1.nds
      obtain ⟨u, z, q⟩ := nd1_iface h2 s2.nds
      simp only [Fo.nds, e, q]
      rcases hk with rfl | rfl
      · exact ⟨_, _, rfl, fun w => Try.tanp true t u y z w⟩
      · exact ⟨_, _, rfl, fun w => Try.tanp false t u y z w⟩
    | .cons _ _ .nil, hl => simp [Fo.len] at hl
    | .cons _ _ (.cons _ _ (.cons _ _ r)), hl => simp [Fo.len] at hl
theorem ta_atom_no (h : FH) (f : Fo) (ho : ownB h f.len = true) (h2 : h.k ≠ 2) : ∃ t y, nd1 h f.nds = .iface t y ∧ ∀ w, (Instr.typeAssert (.iface t y) 120 146 true).run Try.prog w = .ok (.tuple #[.agg #[.int .i64 0, .int .i64 0, .int .i64 0, .int .i64 0, .int .i64 0, .int .i64 0, .int .i64 0], .bool false]) w := by
  obtain ⟨k, ak, am, a, b, c, d, m, v⟩ := h
  dsimp only at h2
  rcases own_kind ho with ⟨hl, hk⟩ | ⟨hl, hk⟩ | ⟨hl, hk⟩
  · dsimp only at hk
    rcases hk with rfl | rfl | rfl
    · exact ⟨_, _, rfl, fun w => Try.taat true w⟩
    · exact ⟨_, _, rfl, fun w => Try.taat false w⟩
    · exact absurd rfl h2
  · dsimp only at hk
    match f, hl with
    | .cons h1 s1 .nil, _ =>
      obtain ⟨t, y, e⟩ := nd1_iface h1 s1.nds
      simp only [Fo.nds, e]
      rcases hk with rfl | rfl | rfl
      · exact ⟨_, _, rfl, fun w => Try.taan t y w⟩
      · exact ⟨_, _, rfl, fun w => Try.taab true v t y w⟩
      · exact ⟨_, _, rfl, fun w => Try.taab false v t y w⟩
    | .cons _ _ (.cons _ _ r), hl => simp [Fo.len] at hl
  · dsimp only at hk
    match f, hl with
    | .cons h1 s1 (.cons h2 s2 .nil), _ =>
      obtain ⟨t, y, e⟩ := nd1_iface h1 s1.nds
      obtain ⟨u, z, q⟩ := nd1_iface h2 s2.nds
      simp only [Fo.nds, e, q]
      rcases hk with rfl | rfl
      · exact ⟨_, _, rfl, fun w => Try.taap true t u y z w⟩
      · exact ⟨_, _, rfl, fun w => Try.taap false t u y z w⟩
    | .cons _ _ .nil, hl => simp [Fo.len] at hl
    | .cons _ _ (.cons _ _ (.cons _ _ r)), hl => simp [Fo.len] at hl

/-- The formula without negations is valid. -/
def nnB (h : FH) (f : Fo) : Bool := vfB h f && vfB (ngF false h f).1 (ngF false h f).2

theorem keep10u {W w' : World} {x : Nat} {h : FH} {s : Value} (hx : C10 W x h s) (hB : Below (x + 1) W w') : Below (x + 1) W w' ∧ w'.cell? ⟨x, 0, none⟩ = some (.int .i64 h.k) ∧ w'.cell? ⟨x, 1, none⟩ = some (.int .i64 h.ak) ∧ w'.cell? ⟨x, 2, none⟩ = some (.int .i64 h.am) ∧ w'.cell? ⟨x, 3, none⟩ = some (.int .i64 h.a) ∧ w'.cell? ⟨x, 4, none⟩ = some (.int .i64 h.b) ∧ w'.cell? ⟨x, 5, none⟩ = some (.int .i64 h.c) ∧ w'.cell? ⟨x, 6, none⟩ = some (.int .i64 h.d) ∧ w'.cell? ⟨x, 7, none⟩ = some (.int .i64 h.n) ∧ w'.cell? ⟨x, 8, none⟩ = some (.int .i64 h.v) ∧ w'.cell? ⟨x, 9, none⟩ = some (s) := by
  have f : ∀ o, w'.cell? ⟨x, o, none⟩ = W.cell? ⟨x, o, none⟩ := fun o => World.cell?_of_block (hB.block x (Nat.lt_succ_self x))
  refine ⟨hB, ?_⟩
  simpa only [f] using hx.2

end Go.Proofs.Ytcgolbkpfncgpaa

/- What the model's loops over a formula's parts lean on: a list of formulas that grows, the boxes of the formula, of the new formula and of the result. -/
namespace Go.Proofs.Ytcgolbkpfncgpaa
open Go.RowKit

/-- Blocks that a growing list's formulas may lie in. -/
def QB (lo g N k : Nat) : Prop := lo ≤ k ∧ k ≠ g ∧ k < N

theorem FElP.moved {w w' : World} {P P' : Nat → Prop} (hs : w.heap.size ≤ w'.heap.size) (hk : ∀ k, P k → w'.heap[k]? = w.heap[k]?) (hq : ∀ k, P k → P' k) :
    ∀ (f : Fo) (b b' o : Nat), (∀ j, o ≤ j → j < o + f.len * 10 → w'.cell? ⟨b', j, none⟩ = w.cell? ⟨b, j, none⟩) → FElP w P f b o → FElP w' P' f b' o := by
  intro f
  induction f with
  | nil => intro _ _ _ _ _; trivial
  | cons h s r _ ihr =>
    rintro b b' o hc ⟨⟨sl, hr, hsl⟩, hrest⟩
    simp only [Fo.len] at hc
    obtain ⟨r0, r1, r2, r3, r4, r5, r6, r7, r8, r9⟩ := hr
    refine ⟨⟨sl, ⟨(hc _ (by omega) (by omega)).trans r0, (hc _ (by omega) (by omega)).trans r1, (hc _ (by omega) (by omega)).trans r2, (hc _ (by omega) (by omega)).trans r3, (hc _ (by omega) (by omega)).trans r4, (hc _ (by omega) (by omega)).trans r5, (hc _ (by omega) (by omega)).trans r6, (hc _ (by omega) (by omega)).trans r7, (hc _ (by omega) (by omega)).trans r8, (hc _ (by omega) (by omega)).trans r9⟩, ?_⟩, ihr b b' (o + 10) (fun j a1 a2 => hc j (by omega) (by omega)) hrest⟩
    exact FSP.kept (f := s) hs (fun k hp _ => hk k hp) hq hsl
theorem FElP.snoc {w : World} {P : Nat → Prop} {b : Nat} {h : FH} {f : Fo} {s : Value} : ∀ (pre : Fo) (o : Nat), FElP w P pre b o → FRow w b (o + pre.len * 10) h s → FSP w P f s → FElP w P (pre.app (.cons h f .nil)) b o := by
  intro pre
  induction pre with
  | nil => intro o _ hr hs; exact ⟨⟨s, by simpa [Fo.len] using hr, hs⟩, trivial⟩
  | cons h' s' r _ ihr =>
    rintro o ⟨h1, h2⟩ hr hs
    refine ⟨h1, ihr (o + 10) h2 ?_ hs⟩
    simp only [Fo.len] at hr
    rw [show o + 10 + r.len * 10 = o + (r.len + 1) * 10 by omega]
    exact hr

/-- The list v, made since block B, holds the formulas pre; their lists lie in blocks from lo on. -/
def FOwn (w : World) (B lo : Nat) (v : Value) (pre : Fo) : Prop :=
  ∃ xs, w.ownsRow B 56 10 v pre.len xs ∧ ((v = .slice none 0 0 ∧ pre = .nil) ∨ ∃ g cap, v = .slice (some ⟨g, 0, none⟩) pre.len cap ∧ FElP w (QB lo g w.heap.size) pre g 0)

theorem fown_nil (w : World) (B lo : Nat) : FOwn w B lo (.slice none 0 0) .nil := ⟨[], World.ownsRow_nil _ _ _ _, .inl ⟨rfl, rfl⟩⟩
theorem fown_below {w w' : World} {B lo : Nat} {v : Value} {pre : Fo} (h : FOwn w B lo v pre) (hb : Below w.heap.size w w') : FOwn w' B lo v pre := by
  obtain ⟨xs, ho, hc⟩ := h
  refine ⟨xs, own_below ho hb, ?_⟩
  rcases hc with hc | ⟨g, cap, rfl, hel⟩
  · exact .inl hc
  · have hlt := ho.lt g rfl
    have hs := hb.size
    exact .inr ⟨g, cap, rfl, FElP.moved hs (fun k hk => hb.block k hk.2.2) (fun k hk => ⟨hk.1, hk.2.1, Nat.lt_of_lt_of_le hk.2.2 hs⟩) pre g g 0 (fun j _ _ => (bcell hb).1 g j hlt.2) hel⟩
/-- A block below the list's first possible one is stored into. -/
theorem fown_put {w w' : World} {B lo x : Nat} {v : Value} {pre : Fo} (h : FOwn w B lo v pre) (hx : x < B) (hl : x < lo) (hk : ∀ k, k ≠ x → w'.heap[k]? = w.heap[k]?) (hs : w'.heap.size = w.heap.size) : FOwn w' B lo v pre := by
  obtain ⟨xs, ho, hc⟩ := h
  rcases hc with ⟨rfl, rfl⟩ | ⟨g, cap, rfl, hel⟩
  · exact fown_nil _ _ _
  · have hlt := ho.lt g rfl
    refine ⟨xs, own_block ho (hk g (by omega)), .inr ⟨g, cap, rfl, FElP.moved (Nat.le_of_eq hs.symm) (fun k hq => hk k (by have := hq.1; omega)) (fun k hq => ⟨hq.1, hq.2.1, by have := hq.2.2; omega⟩) pre g g 0 (fun j _ _ => World.cell?_of_block (hk g (by omega))) hel⟩⟩
theorem fown_slice {w : World} {B lo : Nat} {v : Value} {pre : Fo} (h : FOwn w B lo v pre) : ∃ a c, v = .slice a pre.len c := by
  obtain ⟨xs, _, ⟨rfl, rfl⟩ | ⟨g, cap, rfl, _⟩⟩ := h
  · exact ⟨_, _, rfl⟩
  · exact ⟨_, _, rfl⟩
theorem fown_fs {w : World} {B lo : Nat} {v : Value} {pre : Fo} (h : FOwn w B lo v pre) (hl : lo ≤ B) : FS w lo pre v := by
  obtain ⟨xs, ho, ⟨rfl, rfl⟩ | ⟨g, cap, rfl, hel⟩⟩ := h
  · exact .inl ⟨rfl, none, 0, rfl, Nat.le_refl _, Nat.zero_le _⟩
  · have hlt := ho.lt g rfl
    have hcap : pre.len ≤ cap ∧ cap ≤ maxLen := by
      rcases ho.2 with ⟨e, _⟩ | ⟨g', cap', cur, e, _, _, h1, h2, _⟩
      · simp at e
      · injection e with _ _ e3
        subst e3
        exact ⟨h1, h2⟩
    by_cases h0 : pre.len = 0
    · exact .inl ⟨h0, _, cap, by rw [h0], Nat.zero_le _, hcap.2⟩
    · exact .inr ⟨by omega, g, 0, cap, rfl, hcap.1, hcap.2, by omega, hlt.2, FElP.to (fun k hk => hk.1) pre g 0 hel⟩

/-- One formula more. -/
theorem fown_app {wa w4 : World} {B lo : Nat} {v : Value} {pre : Fo} (h2 : FH) (f2 : Fo) (sa : Option Addr) (sn sc : Nat) (h : FOwn wa B lo v pre) (hn : pre.len ≤ 1048576) (hB : B ≤ w4.heap.size) (hb4 : Below wa.heap.size wa w4)
    (hs2 : FSP w4 (fun k => lo ≤ k ∧ (k < B ∨ wa.heap.size ≤ k) ∧ k < w4.heap.size) f2 (.slice sa sn sc)) :
    ∃ v1 w5, (Builtin.append_ #[54, 54] 54 #[v, .slice (some ⟨w4.heap.size, 0, none⟩) 1 1]).run Try.prog (w4.alloc (.cells #[.int .i64 h2.k, .int .i64 h2.ak, .int .i64 h2.am, .int .i64 h2.a, .int .i64 h2.b, .int .i64 h2.c, .int .i64 h2.d, .int .i64 h2.n, .int .i64 h2.v, .slice sa sn sc] 56)) = .ok v1 w5 ∧ FOwn w5 B lo v1 (pre.app (.cons h2 f2 .nil)) ∧ Below B w4 w5 := by
  have hw4 := fown_below h hb4
  obtain ⟨xs, ho, hc⟩ := h
  obtain ⟨xs4, ho4, hc4⟩ := hw4
  obtain ⟨v1, w5, hr, ho5, hg, hwh⟩ := fo_app h2 sa sn sc hB hn ho4
  have hb45 : Below B w4 w5 := by
    refine ⟨hg.os, hg.tape, hg.output, Nat.le_trans (by simp) hg.size, fun k hk => ?_⟩
    have hkw : k < w4.heap.size := by omega
    refine (hg.block k (by simp; omega) ?_).trans (Below.heap_alloc _ _ _ hkw)
    intro e
    have := ho4.lt k e.symm
    omega
  have hs45 : w4.heap.size + 1 ≤ w5.heap.size := by have := hg.size; simpa using this
  have hsa4 := hb4.size
  have hl5 : (pre.app (.cons h2 f2 .nil)).len = pre.len + 1 := by rw [Fo.app_len]; rfl
  obtain ⟨g', cap', rfl⟩ := own_some ho5 (fun e => by
    rcases ho5.2 with ⟨_, h0⟩ | ⟨g, cap, cur, e0, _⟩
    · omega
    · rw [e] at e0; simp at e0)
  have hlt5 := ho5.lt g' rfl
  refine ⟨_, w5, hr, ⟨_, by rw [hl5]; exact ho5, .inr ⟨g', cap', by rw [hl5], ?_⟩⟩, hb45⟩
  have hcell : ∀ j u, (xs4 ++ fcel h2 (.slice sa sn sc))[j]? = some u → w5.cell? ⟨g', j, none⟩ = some u := by
    intro j u hj
    have hj' : j < (pre.len + 1) * 10 := by
      have h := (List.getElem?_eq_some_iff.1 hj).1
      have h1 := ho5.1
      omega
    exact (ho5.cellAt j hj').trans hj
  have hl : xs4.length = pre.len * 10 := ho4.1
  have hnew : ∀ j u, (fcel h2 (.slice sa sn sc))[j]? = some u → w5.cell? ⟨g', 0 + pre.len * 10 + j, none⟩ = some u := by
    intro j u hj
    have h := hcell (xs4.length + j) u (by rw [List.getElem?_append_right (Nat.le_add_right _ _), Nat.add_sub_cancel_left]; exact hj)
    rwa [hl, ← Nat.zero_add (pre.len * 10)] at h
  have hblk : ∀ k, some k ≠ v.ownBlock → k < w4.heap.size → w5.heap[k]? = w4.heap[k]? := fun k hne hk => (hg.block k (by simp; omega) hne).trans (Below.heap_alloc _ _ _ hk)
  have hrow : FRow w5 g' (0 + pre.len * 10) h2 (.slice sa sn sc) := ⟨hnew 0 _ rfl, hnew 1 _ rfl, hnew 2 _ rfl, hnew 3 _ rfl, hnew 4 _ rfl, hnew 5 _ rfl, hnew 6 _ rfl, hnew 7 _ rfl, hnew 8 _ rfl, hnew 9 _ rfl⟩
  have hgv : ∀ g, v.ownBlock = some g → g < wa.heap.size ∧ B ≤ g := fun g e => ⟨(ho.lt g e).2, (ho.lt g e).1⟩
  have hg' : v.ownBlock = some g' ∨ g' = w4.heap.size + 1 := by
    rcases hwh with e | e
    · exact .inl e.symm
    · exact .inr (by simpa [Value.ownBlock] using e)
  have hsub : FSP w5 (QB lo g' w5.heap.size) f2 (.slice sa sn sc) := FSP.kept (Nat.le_trans (by omega) hs45) (fun k hk _ => hblk k (by
      intro e
      have h1 := hgv k e.symm
      have h2 := hk.2.1
      omega) hk.2.2) (fun k hk => ⟨hk.1, by
      have h2 := hk.2
      rcases hg' with e | e
      · have h1 := hgv g' e; omega
      · omega, by have := hk.2.2; omega⟩) hs2
  refine FElP.snoc pre 0 ?_ hrow hsub
  rcases hc4 with ⟨_, rfl⟩ | ⟨g, cap, e, hel⟩
  · trivial
  · have eg : v.ownBlock = some g := by rw [e]; rfl
    have hgl := hgv g eg
    refine FElP.moved (P := QB lo g w4.heap.size) (by omega) (fun k hk => hblk k (by rw [eg]; intro h9; injection h9 with h9; exact hk.2.1 h9) hk.2.2) (fun k hk => ⟨hk.1, by
      have h2 := hk.2
      rcases hg' with e9 | e9
      · rw [eg] at e9; injection e9 with e9; omega
      · omega, by have := hk.2.2; omega⟩) pre g g' 0 (fun j _ hj => ?_) hel
    have hj' : j < pre.len * 10 := by omega
    subst e
    have h1 := ho4.cellAt j hj'
    obtain ⟨u, hu⟩ : ∃ u, xs4[j]? = some u := ⟨_, List.getElem?_eq_getElem (by omega)⟩
    rw [h1, hu]
    exact hcell j u (by rw [List.getElem?_append_left (by omega)]; exact hu)

/-- The boxes of such a loop: the formula's, the new formula's, the result's. -/
def MlSt (w W0 : World) (xf xo xr : Nat) (hf ho : FH) (sf v : Value) (wr : World) : Prop :=
  C10 wr xf hf sf ∧ C10 wr xo ho v ∧ (∀ o, wr.frozen? ⟨xo, o, none⟩ = false) ∧ C10 wr xr ⟨0, 0, 0, 0, 0, 0, 0, 0, 0⟩ (.slice none 0 0) ∧ (∀ o, wr.frozen? ⟨xr, o, none⟩ = false) ∧ Below w.heap.size w wr ∧ W0.heap.size ≤ wr.heap.size ∧
    w.heap.size ≤ xf ∧ w.heap.size ≤ xo ∧ w.heap.size ≤ xr ∧ xf < W0.heap.size ∧ xo < W0.heap.size ∧ xr < W0.heap.size ∧ xo ≠ xf ∧ xo ≠ xr ∧ xr ≠ xf
theorem mlst_low {w W0 wr w' : World} {xf xo xr : Nat} {hf ho : FH} {sf v : Value} (hst : MlSt w W0 xf xo xr hf ho sf v wr) (hb : Below W0.heap.size wr w') : MlSt w W0 xf xo xr hf ho sf v w' := by
  obtain ⟨h1, h2, h3, h4, h5, h6, h7, h8, h9, h10, h11, h12, h13, h14, h15, h16⟩ := hst
  exact ⟨c10_block hb.size (hb.block xf h11) h1, c10_block hb.size (hb.block xo h12) h2, fun o => (World.frozen?_of_block (a := ⟨xo, o, none⟩) (hb.block xo h12)).trans (h3 o), c10_block hb.size (hb.block xr h13) h4, fun o => (World.frozen?_of_block (a := ⟨xr, o, none⟩) (hb.block xr h13)).trans (h5 o), h6.trans (hb.mono (by omega)), Nat.le_trans h7 hb.size, h8, h9, h10, h11, h12, h13, h14, h15, h16⟩
theorem mlst_below {w W0 wr w' : World} {xf xo xr : Nat} {hf ho : FH} {sf v : Value} (hst : MlSt w W0 xf xo xr hf ho sf v wr) (hb : Below wr.heap.size wr w') : MlSt w W0 xf xo xr hf ho sf v w' :=
  mlst_low hst (hb.mono hst.2.2.2.2.2.2.1)
theorem mlst_put {w W0 wr w' : World} {xf xo xr : Nat} {hf ho : FH} {sf v t : Value} (hst : MlSt w W0 xf xo xr hf ho sf v wr) (hW : wr.setCell ⟨xo, 9, none⟩ t = w') : MlSt w W0 xf xo xr hf ho sf t w' ∧ (∀ k, k ≠ xo → w'.heap[k]? = wr.heap[k]?) ∧ w'.heap.size = wr.heap.size := by
  obtain ⟨h1, h2, h3, h4, h5, h6, h7, h8, h9, h10, h11, h12, h13, h14, h15, h16⟩ := hst
  obtain ⟨y0, e0, e1, e2, e3, e4, e5, e6, e7, e8, e9⟩ := h2
  have hk : ∀ k, k ≠ xo → w'.heap[k]? = wr.heap[k]? := fun k hk => by subst hW; exact Below.heap_setCell _ _ _ _ (by dsimp only; omega)
  have hsz : w'.heap.size = wr.heap.size := by subst hW; simp [World.setCell]
  refine ⟨⟨c10_block (by omega) (hk xf (by omega)) h1, ?_, fun o => by subst hW; simp [go_sem, h3 o], c10_block (by omega) (hk xr (by omega)) h4, fun o => (World.frozen?_of_block (a := ⟨xr, o, none⟩) (hk xr (by omega))).trans (h5 o), by subst hW; exact h6.setCell h9 _, by omega, h8, h9, h10, h11, h12, h13, h14, h15, h16⟩, hk, hsz⟩
  subst hW
  refine ⟨by simpa [World.setCell] using y0, ?_, ?_, ?_, ?_, ?_, ?_, ?_, ?_, ?_, ?_⟩ <;> simp [go_sem, *]

/-- The condition of the loops' regions: the formula's list and its element are there. -/
theorem keepE {V w' : World} {B xf b off : Nat} {sv s : Value} {h : FH} (h1 : V.cell? ⟨xf, 9, none⟩ = some sv ∧ FRow V b off h s) (hx : xf < B) (hb : b < B) (hB : Below B V w') : w'.cell? ⟨xf, 9, none⟩ = some sv ∧ FRow w' b off h s := by
  have f : ∀ o, w'.cell? ⟨b, o, none⟩ = V.cell? ⟨b, o, none⟩ := fun o => World.cell?_of_block (hB.block b hb)
  refine ⟨(World.cell?_of_block (a := ⟨xf, 9, none⟩) (hB.block xf hx)).trans h1.1, ?_⟩
  have := h1.2
  simpa only [FRow, f] using this
theorem keepP {V w' : World} {x xf b off : Nat} {sv s : Value} {h : FH} (h1 : V.cell? ⟨xf, 9, none⟩ = some sv ∧ FRow V b off h s) (hx : xf ≠ x) (hb : b ≠ x) (hk : ∀ k, k ≠ x → w'.heap[k]? = V.heap[k]?) : w'.cell? ⟨xf, 9, none⟩ = some sv ∧ FRow w' b off h s := by
  have f : ∀ o, w'.cell? ⟨b, o, none⟩ = V.cell? ⟨b, o, none⟩ := fun o => World.cell?_of_block (hk b hb)
  refine ⟨(World.cell?_of_block (a := ⟨xf, 9, none⟩) (hk xf hx)).trans h1.1, ?_⟩
  have := h1.2
  simpa only [FRow, f] using this

end Go.Proofs.Ytcgolbkpfncgpaa
