/- Several texts in one: NfA NfB NfC NfD NfE NfG. -/
import Derived.Test.YtmkflokcficmoaaDoorAtS
import Derived.Test.YtmkflokcficmoaaDoorJm
import Derived.Test.YtmkflokcficmoaaDoorAm
import Derived.Laws.EntriesVeiled

/- Atoms as formulas: contracts of the program's joinedAtoms and of the model's l3Atom, l4Atoms. -/
namespace Go.Proofs.YtmkflokcficmoaaDoor
open Go.RowKit

/-- The head of an atom's formula. -/
def atH (x : AtD) : FH := ⟨2, x.k, x.m, x.a, x.b, x.c, x.d, x.n, 0⟩
/-- Atoms as a list of formulas. -/
def atFo : List AtD → Fo
  | [] => .nil
  | x :: L => .cons (atH x) .nil (atFo L)
/-- The node of an atom. -/
def atN (x : AtD) : Value := .iface 109 (.agg #[.int .i64 x.k, .int .i64 x.m, .int .i64 x.a, .int .i64 x.b, .int .i64 x.c, .int .i64 x.d, .int .i64 x.n])
theorem atFo_len (L : List AtD) : (atFo L).len = L.length := by
  induction L with
  | nil => rfl
  | cons x L ih => simp only [atFo, Fo.len, ih, List.length_cons]
theorem atFo_size (L : List AtD) : (atFo L).size = L.length := by
  induction L with
  | nil => rfl
  | cons x L ih => simp only [atFo, Fo.size, ih, List.length_cons]; omega
theorem atH_nd (x : AtD) : nd1 (atH x) [] = atN x := by simp [nd1, atH, atN]
theorem atFo_nds (L : List AtD) : (atFo L).nds = L.map atN := by
  induction L with
  | nil => rfl
  | cons x L ih => simp only [atFo, Fo.nds, ih, List.map_cons, atH_nd]
theorem atFo_snoc (L : List AtD) (x : AtD) : atFo (L ++ [x]) = (atFo L).app (.cons (atH x) .nil .nil) := by
  induction L with
  | nil => rfl
  | cons y L ih => simp only [List.cons_append, atFo, Fo.app, ih]
/-- The atom is valid. -/
def avQ (x : AtD) : Bool := avB x.k x.m x.a x.b x.c x.d x.n
theorem atH_own (x : AtD) : ownB (atH x) 0 = avQ x := by
  simp [ownB, atH, atB, qB, subsI, avQ]
theorem atFo_ok (L : List AtD) : (atFo L).okB = L.all avQ := by
  induction L with
  | nil => rfl
  | cons x L ih => simp only [atFo, Fo.okB, Fo.len, ih, atH_own, List.all_cons, Bool.and_true]

def JaR (L : List AtD) (w : World) (v i : Value) (wr : World) : Prop :=
  ∃ k : Nat, i = .int .i64 k ∧ k ≤ L.length ∧ wr.ownsRow w.heap.size 79 1 v k ((L.take k).map atN) ∧ Below w.heap.size w wr

set_option maxHeartbeats 1000000 in
theorem l3Atom_a (x : AtD) (w : World) : Calls Tryd.prog 40 #[.agg #[.int .i64 x.k, .int .i64 x.m, .int .i64 x.a, .int .i64 x.b, .int .i64 x.c, .int .i64 x.d, .int .i64 x.n]] w (fun e w' => e = .returned (.agg #[.int .i64 2, .int .i64 x.k, .int .i64 x.m, .int .i64 x.a, .int .i64 x.b, .int .i64 x.c, .int .i64 x.d, .int .i64 x.n, .int .i64 0, .slice none 0 0]) ∧ Below w.heap.size w w') := by
  obtain ⟨k, m, a, b, c, d, n⟩ := x
  dsimp only
  go_enter Tryd.func40, Tryd.ntmps40
  go_wp2
  refine bodyPost_ret (v := .agg #[.int .i64 2, .int .i64 k, .int .i64 m, .int .i64 a, .int .i64 b, .int .i64 c, .int .i64 d, .int .i64 n, .int .i64 0, .slice none 0 0]) (by simp [results, Tryd.results40, go_sem]) rfl ⟨rfl, ?_⟩
  go_grown

/-- The cells of atoms' formulas. -/
def atC : List AtD → List Value
  | [] => []
  | x :: L => fcel (atH x) (.slice none 0 0) ++ atC L
theorem atC_len (L : List AtD) : (atC L).length = L.length * 10 := by
  induction L with
  | nil => rfl
  | cons x L ih => simp only [atC, List.length_append, ih, List.length_cons, fcel, List.length_nil]; omega
theorem atC_snoc (L : List AtD) (x : AtD) : atC (L ++ [x]) = atC L ++ fcel (atH x) (.slice none 0 0) := by
  induction L with
  | nil => simp [atC]
  | cons y L ih => simp only [List.cons_append, atC, ih, List.append_assoc]
/-- Rows of atoms' formulas are a forest. -/
theorem atC_fel {w : World} {lo b : Nat} : ∀ (L : List AtD) (o : Nat), (∀ j, j < L.length * 10 → w.cell? ⟨b, o + j, none⟩ = (atC L)[j]?) → FEl w lo (atFo L) b o := by
  intro L
  induction L with
  | nil => intro _ _; trivial
  | cons x L ih =>
    intro o h
    have g : ∀ j, j < 10 → w.cell? ⟨b, o + j, none⟩ = (fcel (atH x) (.slice none 0 0))[j]? := by
      intro j hj
      rw [h j (by simp only [List.length_cons]; omega)]
      simp only [atC]
      rw [List.getElem?_append_left (by simpa [fcel] using hj)]
    refine ⟨⟨.slice none 0 0, ⟨g 0 (by omega), g 1 (by omega), g 2 (by omega), g 3 (by omega), g 4 (by omega), g 5 (by omega), g 6 (by omega), g 7 (by omega), g 8 (by omega), g 9 (by omega)⟩, .inl ⟨rfl, none, 0, rfl, Nat.le_refl _, Nat.zero_le _⟩⟩, ih (o + 10) (fun j hj => ?_)⟩
    have h1 := h (10 + j) (by simp only [List.length_cons]; omega)
    rw [← Nat.add_assoc] at h1
    rw [h1]
    simp only [atC]
    rw [List.getElem?_append_right (by simp [fcel])]
    simp [fcel]
theorem atC_fs {w : World} {B lo : Nat} {v : Value} {L : List AtD} (hl : lo ≤ B) (h : w.ownsRow B 31 10 v L.length (atC L)) : FS w lo (atFo L) v := by
  by_cases h0 : L.length = 0
  · obtain rfl : L = [] := List.length_eq_zero_iff.1 h0
    rcases h.2 with ⟨rfl, _⟩ | ⟨g, cap, cur, rfl, _, _, h1, h2, _⟩
    · exact .inl ⟨rfl, none, 0, rfl, Nat.le_refl _, Nat.zero_le _⟩
    · exact .inl ⟨rfl, _, cap, rfl, Nat.zero_le _, h2⟩
  · rcases id h.2 with ⟨_, h1⟩ | ⟨g, cap, cur, rfl, hb, hg, h1, h2, _⟩
    · exact absurd h1 h0
    · have hlt := h.lt g rfl
      refine .inr ⟨by rw [atFo_len]; omega, g, 0, cap, by rw [atFo_len], by rw [atFo_len]; exact h1, h2, by omega, hlt.2, atC_fel L 0 (fun j hj => ?_)⟩
      rw [Nat.zero_add]
      exact h.cellAt j (by omega)

def L4aT (L : List AtD) (w : World) (e : Ending) (w' : World) : Prop := ∃ s, e = .returned s ∧ FS w' w.heap.size (atFo L) s ∧ Below w.heap.size w w'
def L4aR (L : List AtD) (w : World) (v i : Value) (wr : World) : Prop :=
  ∃ k : Nat, i = .int .i64 k ∧ k ≤ L.length ∧ wr.ownsRow w.heap.size 31 10 v k (atC (L.take k)) ∧ Below w.heap.size w wr

end Go.Proofs.YtmkflokcficmoaaDoor

/- The contract of the program's withParts: a node with what a change makes of each of its parts. -/
namespace Go.Proofs.YtmkflokcficmoaaDoor
open Go.RowKit

/-- A change's answer: whether there is a node, and then the node y. -/
def ChP (ok : Bool) (y : Value) (w : World) (e : Ending) (w' : World) : Prop := ∃ v, e = .returned (.tuple #[v, .bool ok]) ∧ (ok = true → v = y) ∧ Below w.heap.size w w'
/-- A function of the program is entered when it is called. -/
def EnT (n : Nat) : Prop := ∀ (args : Array Value) (w : World), Sem.run Tryd.prog (callFunc n args) w = .ok (.enter n args) w
def ChAt (n : Nat) (caps : Array Value) (Inv : World → Prop) (x : Value) (ok : Bool) (y : Value) : Prop := ∀ W, Inv W → Calls Tryd.prog n (#[x] ++ caps) W (ChP ok y W)
/-- What a change may lean on stays while memory is made. -/
def Stays (Inv : World → Prop) : Prop := ∀ W W', Inv W → Below W.heap.size W W' → Inv W'

/-- What a change makes of each of some parts. -/
def ChS (n : Nat) (caps : Array Value) (Inv : World → Prop) : Fo → Fo → Prop
  | .nil, .nil => True
  | .cons h s r, .cons h' s' r' => ChAt n caps Inv (nd1 h s.nds) (ownB h' s'.len && s'.okB) (nd1 h' s'.nds) ∧ ChS n caps Inv r r'
  | _, _ => False

end Go.Proofs.YtmkflokcficmoaaDoor

/- Contracts of the program's validFormula and changedFormula, with one form of result. -/
namespace Go.Proofs.YtmkflokcficmoaaDoor
open Go.RowKit

/-- The zero formula's head. -/
def h00 : FH := ⟨0, 0, 0, 0, 0, 0, 0, 0, 0⟩
/-- A formula and a bool are returned; the formula's memory is new and its lists lie apart. -/
def FrT (q : FH × Fo) (ok : Bool) (w : World) (e : Ending) (w' : World) : Prop := ∃ s, e = .returned (.tuple #[.agg #[.int .i64 q.1.k, .int .i64 q.1.ak, .int .i64 q.1.am, .int .i64 q.1.a, .int .i64 q.1.b, .int .i64 q.1.c, .int .i64 q.1.d, .int .i64 q.1.n, .int .i64 q.1.v, s], .bool ok]) ∧ SF w' w.heap.size w'.heap.size q.2 s ∧ Below w.heap.size w w'
/-- The formula, if ok, else the zero value. -/
def okQ (ok : Bool) (h : FH) (f : Fo) : FH × Fo := if ok = true then (h, f) else (h00, .nil)
theorem sf_none (w : World) (lo hi : Nat) : SF w lo hi .nil (.slice none 0 0) := .inl ⟨rfl, none, 0, rfl, Nat.le_refl _, Nat.zero_le _⟩
theorem fr_yes {h : FH} {f : Fo} {w : World} {e : Ending} {w' : World} (hp : VyT h f w e w') : FrT (okQ true h f) true w e w' := hp
theorem fr_no {h : FH} {f : Fo} {w : World} {e : Ending} {w' : World} (hp : VnT w e w') : FrT (okQ false h f) false w e w' := ⟨.slice none 0 0, hp.1, sf_none _ _ _, hp.2⟩

theorem vf_any (h : FH) (f : Fo) (w : World) (ho : ownB h f.len = true) (hok : f.okB = true) (hz2 : f.size ≤ 100000) : Calls Tryd.prog 53 #[nd1 h f.nds] w (FrT (okQ (vfB h f) h f) (vfB h f) w) := by
  by_cases hz : f.size + 1 ≤ 600
  · have e : vfB h f = true := by unfold vfB; rw [ho, hok]; simpa using hz
    rw [e]
    exact (vf_yes h f w ho hok hz).mono fun _ _ hp => fr_yes hp
  · have e : vfB h f = false := by unfold vfB; rw [ho, hok]; simpa using hz
    rw [e]
    exact (vf_no h f w ho hok (by omega) hz2).mono fun _ _ hp => fr_no hp

end Go.Proofs.YtmkflokcficmoaaDoor

/- Formulas without negations: as data, and the contract of the program's NegNormal. -/
namespace Go.Proofs.YtmkflokcficmoaaDoor
open Go.RowKit

def opK (k : Int) : Int := if k = 0 then 1 else if k = 1 then 0 else if k = 4 then 5 else if k = 5 then 4 else if k = 6 then 7 else if k = 7 then 6 else k
/-- The head of a formula, or of its negation. -/
def opH (b : Bool) (h : FH) : FH := ⟨if b then opK h.k else h.k, h.ak, h.am, h.a, h.b, h.c, h.d, h.n, h.v⟩
def ngAt (h : FH) : List AtD := ngL h.ak h.am h.a h.b h.c h.d h.n
/-- A formula without negations, or (b) that of its negation; t: its parts. -/
def ngE (b : Bool) (h : FH) (t : Bool → Fo) : FH × Fo :=
  if h.k = 3 then (match t (!b) with | .cons h' s' _ => (h', s') | .nil => (h, .nil))
  else if b = true ∧ h.k = 2 then jA false (atFo (ngAt h))
  else (opH b h, t b)
def Fo.ng : Fo → Bool → Fo
  | .nil, _ => .nil
  | .cons h s r, b => .cons (ngE b h s.ng).1 (ngE b h s.ng).2 (r.ng b)
def ngF (b : Bool) (h : FH) (f : Fo) : FH × Fo := ngE b h f.ng
def ngK (b : Bool) (h : FH) (f : Fo) : Bool := ownB (ngF b h f).1 (ngF b h f).2.len && (ngF b h f).2.okB

theorem ng_len (b : Bool) : ∀ f : Fo, (f.ng b).len = f.len := by
  intro f
  induction f with
  | nil => rfl
  | cons h s r _ ih => simp only [Fo.ng, Fo.len, ih]
theorem ngF_not {b : Bool} {h h1 : FH} {s1 : Fo} (hk : h.k = 3) : ngF b h (.cons h1 s1 .nil) = ngF (!b) h1 s1 := by
  unfold ngF
  conv => lhs; unfold ngE
  rw [if_pos hk]
  simp only [Fo.ng]
theorem ngF_atom {h : FH} {f : Fo} (hk : h.k = 2) : ngF true h f = jA false (atFo (ngAt h)) := by
  unfold ngF ngE
  rw [if_neg (by omega), if_pos ⟨rfl, hk⟩]
theorem ngF_else {b : Bool} {h : FH} {f : Fo} (h3 : h.k ≠ 3) (h2 : b = false ∨ h.k ≠ 2) : ngF b h f = (opH b h, f.ng b) := by
  unfold ngF ngE
  rw [if_neg h3, if_neg (by rcases h2 with h2 | h2 <;> simp [h2])]
theorem opH_own {b : Bool} {h : FH} {n : Nat} (ho : ownB h n = true) (h2 : b = false ∨ h.k ≠ 2) : ownB (opH b h) n = true := by
  cases b with
  | false => exact ho
  | true =>
    have h2' : h.k ≠ 2 := by simpa using h2
    have hc : h.k = 0 ∨ h.k = 1 ∨ h.k = 3 ∨ h.k = 4 ∨ h.k = 5 ∨ h.k = 6 ∨ h.k = 7 := by
      rcases own_kind ho with ⟨_, h | h | h⟩ | ⟨_, h | h | h⟩ | ⟨_, h | h⟩ <;> omega
    obtain ⟨k, ak, am, a, b, c, d, m, v⟩ := h
    dsimp only at hc
    rcases hc with rfl | rfl | rfl | rfl | rfl | rfl | rfl <;> exact ho
theorem ngK_else {b : Bool} {h : FH} {f : Fo} (ho : ownB h f.len = true) (h3 : h.k ≠ 3) (h2 : b = false ∨ h.k ≠ 2) : ngK b h f = (f.ng b).okB := by
  unfold ngK
  rw [ngF_else h3 h2]
  dsimp only
  rw [ng_len, opH_own ho h2, Bool.true_and]
theorem ngAt_pos (h : FH) : ∃ x L, ngAt h = x :: L ∧ L.length ≤ 1 := by
  unfold ngAt ngL
  repeat' split
  all_goals exact ⟨_, _, rfl, by simp⟩
theorem ngK_atom {h : FH} {f : Fo} (hk : h.k = 2) : ngK true h f = (ngAt h).all avQ := by
  unfold ngK
  rw [ngF_atom hk, ← atFo_ok]
  obtain ⟨x, L, e, _⟩ := ngAt_pos h
  rw [e]
  simp only [jA, atFo, jF_okB, Fo.okB, Fo.len]
theorem jA_small (L : List AtD) (hL : L.length ≤ 2) : (jA false (atFo L)).2.size ≤ 2 := by
  match L, hL with
  | [], _ => simp [jA, atFo, Fo.size]
  | [_], _ => simp [jA, jF, atFo, Fo.size]
  | [_, _], _ => simp [jA, jF, atFo, Fo.size]
  | _ :: _ :: _ :: _, h => simp at h
theorem ng_size : ∀ (f : Fo) (b : Bool), (f.ng b).size ≤ 3 * f.size := by
  intro f
  induction f with
  | nil => intro _; exact Nat.le_refl _
  | cons h s r ihs ihr =>
    intro b
    simp only [Fo.ng, Fo.size]
    have h1 : (ngE b h s.ng).2.size ≤ 3 * s.size + 2 := by
      unfold ngE
      split
      · have := ihs (!b)
        split
        · rename_i h' s' rest e
          rw [e] at this
          simp only [Fo.size] at this
          show s'.size ≤ _
          omega
        · exact Nat.zero_le _
      · split
        · have := jA_small (ngAt h) (by obtain ⟨x, L, e, hl⟩ := ngAt_pos h; rw [e]; simpa using hl)
          omega
        · have := ihs b
          show (s.ng b).size ≤ _
          omega
    have h2 := ihr b
    omega
theorem ngF_size (b : Bool) (h : FH) (f : Fo) : (ngF b h f).2.size ≤ 3 * f.size + 2 := by
  have h1 := ng_size (.cons h f .nil) b
  simp only [Fo.ng, Fo.size] at h1
  have e : ngF b h f = ngE b h f.ng := rfl
  rw [e]
  omega

theorem Tryd.tatt (b : Bool) (w : World) : (Instr.typeAssert (.iface 98 (.agg #[.bool b])) 79 98 true).run Tryd.prog w = .ok (.tuple #[.agg #[.bool b], .bool true]) w := by kernel_rfl
theorem Tryd.tatn (t : TypeId) (y : Value) (w : World) : (Instr.typeAssert (.iface 105 (.agg #[.iface t y])) 79 98 true).run Tryd.prog w = .ok (.tuple #[.agg #[.bool false], .bool false]) w := by kernel_rfl
theorem Tryd.tatp (b : Bool) (t u : TypeId) (y z : Value) (w : World) : (Instr.typeAssert (.iface 100 (.agg #[.bool b, .iface t y, .iface u z])) 79 98 true).run Tryd.prog w = .ok (.tuple #[.agg #[.bool false], .bool false]) w := by kernel_rfl
theorem Tryd.tatb (b : Bool) (v : Int) (t : TypeId) (y : Value) (w : World) : (Instr.typeAssert (.iface 107 (.agg #[.bool b, .int .i64 v, .iface t y])) 79 98 true).run Tryd.prog w = .ok (.tuple #[.agg #[.bool false], .bool false]) w := by kernel_rfl
theorem Tryd.tata (k m a b c d n : Int) (w : World) : (Instr.typeAssert (.iface 109 (.agg #[.int .i64 k, .int .i64 m, .int .i64 a, .int .i64 b, .int .i64 c, .int .i64 d, .int .i64 n])) 79 98 true).run Tryd.prog w = .ok (.tuple #[.agg #[.bool false], .bool false]) w := by kernel_rfl
theorem Tryd.tant (b : Bool) (w : World) : (Instr.typeAssert (.iface 98 (.agg #[.bool b])) 79 105 true).run Tryd.prog w = .ok (.tuple #[.agg #[.nilIface], .bool false]) w := by kernel_rfl
theorem Tryd.tann (t : TypeId) (y : Value) (w : World) : (Instr.typeAssert (.iface 105 (.agg #[.iface t y])) 79 105 true).run Tryd.prog w = .ok (.tuple #[.agg #[.iface t y], .bool true]) w := by kernel_rfl
theorem Tryd.tanp (b : Bool) (t u : TypeId) (y z : Value) (w : World) : (Instr.typeAssert (.iface 100 (.agg #[.bool b, .iface t y, .iface u z])) 79 105 true).run Tryd.prog w = .ok (.tuple #[.agg #[.nilIface], .bool false]) w := by kernel_rfl
theorem Tryd.tanb (b : Bool) (v : Int) (t : TypeId) (y : Value) (w : World) : (Instr.typeAssert (.iface 107 (.agg #[.bool b, .int .i64 v, .iface t y])) 79 105 true).run Tryd.prog w = .ok (.tuple #[.agg #[.nilIface], .bool false]) w := by kernel_rfl
theorem Tryd.tana (k m a b c d n : Int) (w : World) : (Instr.typeAssert (.iface 109 (.agg #[.int .i64 k, .int .i64 m, .int .i64 a, .int .i64 b, .int .i64 c, .int .i64 d, .int .i64 n])) 79 105 true).run Tryd.prog w = .ok (.tuple #[.agg #[.nilIface], .bool false]) w := by kernel_rfl
theorem Tryd.tapt (b : Bool) (w : World) : (Instr.typeAssert (.iface 98 (.agg #[.bool b])) 79 100 true).run Tryd.prog w = .ok (.tuple #[.agg #[.bool false, .nilIface, .nilIface], .bool false]) w := by kernel_rfl
theorem Tryd.tapn (t : TypeId) (y : Value) (w : World) : (Instr.typeAssert (.iface 105 (.agg #[.iface t y])) 79 100 true).run Tryd.prog w = .ok (.tuple #[.agg #[.bool false, .nilIface, .nilIface], .bool false]) w := by kernel_rfl
theorem Tryd.tapp (b : Bool) (t u : TypeId) (y z : Value) (w : World) : (Instr.typeAssert (.iface 100 (.agg #[.bool b, .iface t y, .iface u z])) 79 100 true).run Tryd.prog w = .ok (.tuple #[.agg #[.bool b, .iface t y, .iface u z], .bool true]) w := by kernel_rfl
theorem Tryd.tapb (b : Bool) (v : Int) (t : TypeId) (y : Value) (w : World) : (Instr.typeAssert (.iface 107 (.agg #[.bool b, .int .i64 v, .iface t y])) 79 100 true).run Tryd.prog w = .ok (.tuple #[.agg #[.bool false, .nilIface, .nilIface], .bool false]) w := by kernel_rfl
theorem Tryd.tapa (k m a b c d n : Int) (w : World) : (Instr.typeAssert (.iface 109 (.agg #[.int .i64 k, .int .i64 m, .int .i64 a, .int .i64 b, .int .i64 c, .int .i64 d, .int .i64 n])) 79 100 true).run Tryd.prog w = .ok (.tuple #[.agg #[.bool false, .nilIface, .nilIface], .bool false]) w := by kernel_rfl
theorem Tryd.tabt (b : Bool) (w : World) : (Instr.typeAssert (.iface 98 (.agg #[.bool b])) 79 107 true).run Tryd.prog w = .ok (.tuple #[.agg #[.bool false, .int .i64 0, .nilIface], .bool false]) w := by kernel_rfl
theorem Tryd.tabn (t : TypeId) (y : Value) (w : World) : (Instr.typeAssert (.iface 105 (.agg #[.iface t y])) 79 107 true).run Tryd.prog w = .ok (.tuple #[.agg #[.bool false, .int .i64 0, .nilIface], .bool false]) w := by kernel_rfl
theorem Tryd.tabp (b : Bool) (t u : TypeId) (y z : Value) (w : World) : (Instr.typeAssert (.iface 100 (.agg #[.bool b, .iface t y, .iface u z])) 79 107 true).run Tryd.prog w = .ok (.tuple #[.agg #[.bool false, .int .i64 0, .nilIface], .bool false]) w := by kernel_rfl
theorem Tryd.tabb (b : Bool) (v : Int) (t : TypeId) (y : Value) (w : World) : (Instr.typeAssert (.iface 107 (.agg #[.bool b, .int .i64 v, .iface t y])) 79 107 true).run Tryd.prog w = .ok (.tuple #[.agg #[.bool b, .int .i64 v, .iface t y], .bool true]) w := by kernel_rfl
theorem Tryd.taba (k m a b c d n : Int) (w : World) : (Instr.typeAssert (.iface 109 (.agg #[.int .i64 k, .int .i64 m, .int .i64 a, .int .i64 b, .int .i64 c, .int .i64 d, .int .i64 n])) 79 107 true).run Tryd.prog w = .ok (.tuple #[.agg #[.bool false, .int .i64 0, .nilIface], .bool false]) w := by kernel_rfl
theorem Tryd.taat (b : Bool) (w : World) : (Instr.typeAssert (.iface 98 (.agg #[.bool b])) 79 109 true).run Tryd.prog w = .ok (.tuple #[.agg #[.int .i64 0, .int .i64 0, .int .i64 0, .int .i64 0, .int .i64 0, .int .i64 0, .int .i64 0], .bool false]) w := by kernel_rfl
theorem Tryd.taan (t : TypeId) (y : Value) (w : World) : (Instr.typeAssert (.iface 105 (.agg #[.iface t y])) 79 109 true).run Tryd.prog w = .ok (.tuple #[.agg #[.int .i64 0, .int .i64 0, .int .i64 0, .int .i64 0, .int .i64 0, .int .i64 0, .int .i64 0], .bool false]) w := by kernel_rfl
theorem Tryd.taap (b : Bool) (t u : TypeId) (y z : Value) (w : World) : (Instr.typeAssert (.iface 100 (.agg #[.bool b, .iface t y, .iface u z])) 79 109 true).run Tryd.prog w = .ok (.tuple #[.agg #[.int .i64 0, .int .i64 0, .int .i64 0, .int .i64 0, .int .i64 0, .int .i64 0, .int .i64 0], .bool false]) w := by kernel_rfl
theorem Tryd.taab (b : Bool) (v : Int) (t : TypeId) (y : Value) (w : World) : (Instr.typeAssert (.iface 107 (.agg #[.bool b, .int .i64 v, .iface t y])) 79 109 true).run Tryd.prog w = .ok (.tuple #[.agg #[.int .i64 0, .int .i64 0, .int .i64 0, .int .i64 0, .int .i64 0, .int .i64 0, .int .i64 0], .bool false]) w := by kernel_rfl
theorem Tryd.taaa (k m a b c d n : Int) (w : World) : (Instr.typeAssert (.iface 109 (.agg #[.int .i64 k, .int .i64 m, .int .i64 a, .int .i64 b, .int .i64 c, .int .i64 d, .int .i64 n])) 79 109 true).run Tryd.prog w = .ok (.tuple #[.agg #[.int .i64 k, .int .i64 m, .int .i64 a, .int .i64 b, .int .i64 c, .int .i64 d, .int .i64 n], .bool true]) w := by kernel_rfl

end Go.Proofs.YtmkflokcficmoaaDoor

/- The contracts of the program's opposite, withoutNegations' closures and NegNormal. -/
namespace Go.Proofs.YtmkflokcficmoaaDoor
open Go.RowKit

def ValT (v : Value) (w : World) (e : Ending) (w' : World) : Prop := e = .returned v ∧ Below w.heap.size w w'
theorem ch_iface {ok : Bool} {y : Value} {w : World} {e : Ending} {w' : World} (h : ChP ok y w e w') : ∃ v, e = .returned (.tuple #[v, .bool ok]) ∧ (ok = true → v = y) ∧ Below w.heap.size w w' := h

theorem ta_not_no (h : FH) (f : Fo) (ho : ownB h f.len = true) (h3 : h.k ≠ 3) : ∃ t y, nd1 h f.nds = .iface t y ∧ ∀ w, (Instr.typeAssert (.iface t y) 79 105 true).run Tryd.prog w = .ok (.tuple #[.agg #[.nilIface], .bool false]) w := by
  obtain ⟨k, ak, am, a, b, c, d, m, v⟩ := h
  dsimp only at h3
  rcases own_kind ho with ⟨hl, hk⟩ | ⟨hl, hk⟩ | ⟨hl, hk⟩
  · dsimp only at hk
    rcases hk with rfl | rfl | rfl
    · exact ⟨_, _, rfl, fun w => Tryd.tant true w⟩
    · exact ⟨_, _, rfl, fun w => Tryd.tant false w⟩
    · exact ⟨_, _, rfl, fun w => Tryd.tana ak am a b c d m w⟩
  · dsimp only at hk
    match f, hl with
    | .cons h1 s1 .nil, _ =>
      obtain ⟨t, y, e⟩ := nd1_iface h1 s1.nds
      simp only [Fo.nds, e]
      rcases hk with rfl | rfl | rfl
      · exact absurd rfl h3
      · exact ⟨_, _, rfl, fun w => Tryd.tanb true v t y w⟩
      · exact ⟨_, _, rfl, fun w => Tryd.tanb false v t y w⟩
    | .cons _ _ (.cons _ _ r), hl => simp [Fo.len] at hl
  · dsimp only at hk
    match f, hl with
    | .cons h1 s1 (.cons h2 s2 .nil), _ =>
      obtain ⟨t, y, e⟩ := nd1_iface h1 s1.nds
      obtain ⟨u, z, q⟩ := nd1_iface h2 s2.nds
      simp only [Fo.nds, e, q]
      rcases hk with rfl | rfl
      · exact ⟨_, _, rfl, fun w => Tryd.tanp true t u y z w⟩
      · exact ⟨_, _, rfl, fun w => Tryd.tanp false t u y z w⟩
    | .cons _ _ .nil, hl => simp [Fo.len] at hl
    | .cons _ _ (.cons _ _ (.cons _ _ r)), hl => simp [Fo.len] at hl
theorem ta_atom_no (h : FH) (f : Fo) (ho : ownB h f.len = true) (h2 : h.k ≠ 2) : ∃ t y, nd1 h f.nds = .iface t y ∧ ∀ w, (Instr.typeAssert (.iface t y) 79 109 true).run Tryd.prog w = .ok (.tuple #[.agg #[.int .i64 0, .int .i64 0, .int .i64 0, .int .i64 0, .int .i64 0, .int .i64 0, .int .i64 0], .bool false]) w := by
  obtain ⟨k, ak, am, a, b, c, d, m, v⟩ := h
  dsimp only at h2
  rcases own_kind ho with ⟨hl, hk⟩ | ⟨hl, hk⟩ | ⟨hl, hk⟩
  · dsimp only at hk
    rcases hk with rfl | rfl | rfl
    · exact ⟨_, _, rfl, fun w => Tryd.taat true w⟩
    · exact ⟨_, _, rfl, fun w => Tryd.taat false w⟩
    · exact absurd rfl h2
  · dsimp only at hk
    match f, hl with
    | .cons h1 s1 .nil, _ =>
      obtain ⟨t, y, e⟩ := nd1_iface h1 s1.nds
      simp only [Fo.nds, e]
      rcases hk with rfl | rfl | rfl
      · exact ⟨_, _, rfl, fun w => Tryd.taan t y w⟩
      · exact ⟨_, _, rfl, fun w => Tryd.taab true v t y w⟩
      · exact ⟨_, _, rfl, fun w => Tryd.taab false v t y w⟩
    | .cons _ _ (.cons _ _ r), hl => simp [Fo.len] at hl
  · dsimp only at hk
    match f, hl with
    | .cons h1 s1 (.cons h2 s2 .nil), _ =>
      obtain ⟨t, y, e⟩ := nd1_iface h1 s1.nds
      obtain ⟨u, z, q⟩ := nd1_iface h2 s2.nds
      simp only [Fo.nds, e, q]
      rcases hk with rfl | rfl
      · exact ⟨_, _, rfl, fun w => Tryd.taap true t u y z w⟩
      · exact ⟨_, _, rfl, fun w => Tryd.taap false t u y z w⟩
    | .cons _ _ .nil, hl => simp [Fo.len] at hl
    | .cons _ _ (.cons _ _ (.cons _ _ r)), hl => simp [Fo.len] at hl

/-- The formula without negations is valid. -/
def nnB (h : FH) (f : Fo) : Bool := vfB h f && vfB (ngF false h f).1 (ngF false h f).2

theorem keep10u {W w' : World} {x : Nat} {h : FH} {s : Value} (hx : C10 W x h s) (hB : Below (x + 1) W w') : Below (x + 1) W w' ∧ w'.cell? ⟨x, 0, none⟩ = some (.int .i64 h.k) ∧ w'.cell? ⟨x, 1, none⟩ = some (.int .i64 h.ak) ∧ w'.cell? ⟨x, 2, none⟩ = some (.int .i64 h.am) ∧ w'.cell? ⟨x, 3, none⟩ = some (.int .i64 h.a) ∧ w'.cell? ⟨x, 4, none⟩ = some (.int .i64 h.b) ∧ w'.cell? ⟨x, 5, none⟩ = some (.int .i64 h.c) ∧ w'.cell? ⟨x, 6, none⟩ = some (.int .i64 h.d) ∧ w'.cell? ⟨x, 7, none⟩ = some (.int .i64 h.n) ∧ w'.cell? ⟨x, 8, none⟩ = some (.int .i64 h.v) ∧ w'.cell? ⟨x, 9, none⟩ = some (s) := by
  have f : ∀ o, w'.cell? ⟨x, o, none⟩ = W.cell? ⟨x, o, none⟩ := fun o => World.cell?_of_block (hB.block x (Nat.lt_succ_self x))
  refine ⟨hB, ?_⟩
  simpa only [f] using hx.2

end Go.Proofs.YtmkflokcficmoaaDoor

/- What the model's loops over a formula's parts lean on: a list of formulas that grows, the boxes of the formula, of the new formula and of the result. -/
namespace Go.Proofs.YtmkflokcficmoaaDoor
open Go.RowKit

/-- Blocks that a growing list's formulas may lie in. -/
def QB (lo g N k : Nat) : Prop := lo ≤ k ∧ k ≠ g ∧ k < N

theorem FElP.moved {w w' : World} {P P' : Nat → Prop} (hs : w.heap.size ≤ w'.heap.size) (hk : ∀ k, P k → w'.heap[k]? = w.heap[k]?) (hq : ∀ k, P k → P' k) :
    ∀ (f : Fo) (b b' o : Nat), (∀ j, o ≤ j → j < o + f.len * 10 → w'.cell? ⟨b', j, none⟩ = w.cell? ⟨b, j, none⟩) → FElP w P f b o → FElP w' P' f b' o := by
  intro f
  induction f with
  | nil => intro _ _ _ _ _; trivial
  | cons h s r _ ihr =>
    rintro b b' o hc ⟨⟨sl, hr, hsl⟩, hrest⟩
    simp only [Fo.len] at hc
    obtain ⟨r0, r1, r2, r3, r4, r5, r6, r7, r8, r9⟩ := hr
    refine ⟨⟨sl, ⟨(hc _ (by omega) (by omega)).trans r0, (hc _ (by omega) (by omega)).trans r1, (hc _ (by omega) (by omega)).trans r2, (hc _ (by omega) (by omega)).trans r3, (hc _ (by omega) (by omega)).trans r4, (hc _ (by omega) (by omega)).trans r5, (hc _ (by omega) (by omega)).trans r6, (hc _ (by omega) (by omega)).trans r7, (hc _ (by omega) (by omega)).trans r8, (hc _ (by omega) (by omega)).trans r9⟩, ?_⟩, ihr b b' (o + 10) (fun j a1 a2 => hc j (by omega) (by omega)) hrest⟩
    exact FSP.kept (f := s) hs (fun k hp _ => hk k hp) hq hsl
theorem FElP.snoc {w : World} {P : Nat → Prop} {b : Nat} {h : FH} {f : Fo} {s : Value} : ∀ (pre : Fo) (o : Nat), FElP w P pre b o → FRow w b (o + pre.len * 10) h s → FSP w P f s → FElP w P (pre.app (.cons h f .nil)) b o := by
  intro pre
  induction pre with
  | nil => intro o _ hr hs; exact ⟨⟨s, by simpa [Fo.len] using hr, hs⟩, trivial⟩
  | cons h' s' r _ ihr =>
    rintro o ⟨h1, h2⟩ hr hs
    refine ⟨h1, ihr (o + 10) h2 ?_ hs⟩
    simp only [Fo.len] at hr
    rw [show o + 10 + r.len * 10 = o + (r.len + 1) * 10 by omega]
    exact hr

/-- The list v, made since block B, holds the formulas pre; their lists lie in blocks from lo on. -/
def FOwn (w : World) (B lo : Nat) (v : Value) (pre : Fo) : Prop :=
  ∃ xs, w.ownsRow B 31 10 v pre.len xs ∧ ((v = .slice none 0 0 ∧ pre = .nil) ∨ ∃ g cap, v = .slice (some ⟨g, 0, none⟩) pre.len cap ∧ FElP w (QB lo g w.heap.size) pre g 0)

theorem fown_nil (w : World) (B lo : Nat) : FOwn w B lo (.slice none 0 0) .nil := ⟨[], World.ownsRow_nil _ _ _ _, .inl ⟨rfl, rfl⟩⟩
theorem fown_below {w w' : World} {B lo : Nat} {v : Value} {pre : Fo} (h : FOwn w B lo v pre) (hb : Below w.heap.size w w') : FOwn w' B lo v pre := by
  obtain ⟨xs, ho, hc⟩ := h
  refine ⟨xs, own_below ho hb, ?_⟩
  rcases hc with hc | ⟨g, cap, rfl, hel⟩
  · exact .inl hc
  · have hlt := ho.lt g rfl
    have hs := hb.size
    exact .inr ⟨g, cap, rfl, FElP.moved hs (fun k hk => hb.block k hk.2.2) (fun k hk => ⟨hk.1, hk.2.1, Nat.lt_of_lt_of_le hk.2.2 hs⟩) pre g g 0 (fun j _ _ => (bcell hb).1 g j hlt.2) hel⟩
/-- A block below the list's first possible one is stored into. -/
theorem fown_put {w w' : World} {B lo x : Nat} {v : Value} {pre : Fo} (h : FOwn w B lo v pre) (hx : x < B) (hl : x < lo) (hk : ∀ k, k ≠ x → w'.heap[k]? = w.heap[k]?) (hs : w'.heap.size = w.heap.size) : FOwn w' B lo v pre := by
  obtain ⟨xs, ho, hc⟩ := h
  rcases hc with ⟨rfl, rfl⟩ | ⟨g, cap, rfl, hel⟩
  · exact fown_nil _ _ _
  · have hlt := ho.lt g rfl
    refine ⟨xs, own_block ho (hk g (by omega)), .inr ⟨g, cap, rfl, FElP.moved (Nat.le_of_eq hs.symm) (fun k hq => hk k (by have := hq.1; omega)) (fun k hq => ⟨hq.1, hq.2.1, by have := hq.2.2; omega⟩) pre g g 0 (fun j _ _ => World.cell?_of_block (hk g (by omega))) hel⟩⟩
theorem fown_slice {w : World} {B lo : Nat} {v : Value} {pre : Fo} (h : FOwn w B lo v pre) : ∃ a c, v = .slice a pre.len c := by
  obtain ⟨xs, _, ⟨rfl, rfl⟩ | ⟨g, cap, rfl, _⟩⟩ := h
  · exact ⟨_, _, rfl⟩
  · exact ⟨_, _, rfl⟩
theorem fown_fs {w : World} {B lo : Nat} {v : Value} {pre : Fo} (h : FOwn w B lo v pre) (hl : lo ≤ B) : FS w lo pre v := by
  obtain ⟨xs, ho, ⟨rfl, rfl⟩ | ⟨g, cap, rfl, hel⟩⟩ := h
  · exact .inl ⟨rfl, none, 0, rfl, Nat.le_refl _, Nat.zero_le _⟩
  · have hlt := ho.lt g rfl
    have hcap : pre.len ≤ cap ∧ cap ≤ maxLen := by
      rcases ho.2 with ⟨e, _⟩ | ⟨g', cap', cur, e, _, _, h1, h2, _⟩
      · simp at e
      · injection e with _ _ e3
        subst e3
        exact ⟨h1, h2⟩
    by_cases h0 : pre.len = 0
    · exact .inl ⟨h0, _, cap, by rw [h0], Nat.zero_le _, hcap.2⟩
    · exact .inr ⟨by omega, g, 0, cap, rfl, hcap.1, hcap.2, by omega, hlt.2, FElP.to (fun k hk => hk.1) pre g 0 hel⟩

/-- One formula more. -/
theorem fown_app {wa w4 : World} {B lo : Nat} {v : Value} {pre : Fo} (h2 : FH) (f2 : Fo) (sa : Option Addr) (sn sc : Nat) (h : FOwn wa B lo v pre) (hn : pre.len ≤ 1048576) (hB : B ≤ w4.heap.size) (hb4 : Below wa.heap.size wa w4)
    (hs2 : FSP w4 (fun k => lo ≤ k ∧ (k < B ∨ wa.heap.size ≤ k) ∧ k < w4.heap.size) f2 (.slice sa sn sc)) :
    ∃ v1 w5, (Builtin.append_ #[29, 29] 29 #[v, .slice (some ⟨w4.heap.size, 0, none⟩) 1 1]).run Tryd.prog (w4.alloc (.cells #[.int .i64 h2.k, .int .i64 h2.ak, .int .i64 h2.am, .int .i64 h2.a, .int .i64 h2.b, .int .i64 h2.c, .int .i64 h2.d, .int .i64 h2.n, .int .i64 h2.v, .slice sa sn sc] 31)) = .ok v1 w5 ∧ FOwn w5 B lo v1 (pre.app (.cons h2 f2 .nil)) ∧ Below B w4 w5 := by
  have hw4 := fown_below h hb4
  obtain ⟨xs, ho, hc⟩ := h
  obtain ⟨xs4, ho4, hc4⟩ := hw4
  obtain ⟨v1, w5, hr, ho5, hg, hwh⟩ := fo_app h2 sa sn sc hB hn ho4
  have hb45 : Below B w4 w5 := by
    refine ⟨hg.os, hg.tape, hg.output, Nat.le_trans (by simp) hg.size, fun k hk => ?_⟩
    have hkw : k < w4.heap.size := by omega
    refine (hg.block k (by simp; omega) ?_).trans (Below.heap_alloc _ _ _ hkw)
    intro e
    have := ho4.lt k e.symm
    omega
  have hs45 : w4.heap.size + 1 ≤ w5.heap.size := by have := hg.size; simpa using this
  have hsa4 := hb4.size
  have hl5 : (pre.app (.cons h2 f2 .nil)).len = pre.len + 1 := by rw [Fo.app_len]; rfl
  obtain ⟨g', cap', rfl⟩ := own_some ho5 (fun e => by
    rcases ho5.2 with ⟨_, h0⟩ | ⟨g, cap, cur, e0, _⟩
    · omega
    · rw [e] at e0; simp at e0)
  have hlt5 := ho5.lt g' rfl
  refine ⟨_, w5, hr, ⟨_, by rw [hl5]; exact ho5, .inr ⟨g', cap', by rw [hl5], ?_⟩⟩, hb45⟩
  have hcell : ∀ j u, (xs4 ++ fcel h2 (.slice sa sn sc))[j]? = some u → w5.cell? ⟨g', j, none⟩ = some u := by
    intro j u hj
    have hj' : j < (pre.len + 1) * 10 := by
      have h := (List.getElem?_eq_some_iff.1 hj).1
      have h1 := ho5.1
      omega
    exact (ho5.cellAt j hj').trans hj
  have hl : xs4.length = pre.len * 10 := ho4.1
  have hnew : ∀ j u, (fcel h2 (.slice sa sn sc))[j]? = some u → w5.cell? ⟨g', 0 + pre.len * 10 + j, none⟩ = some u := by
    intro j u hj
    have h := hcell (xs4.length + j) u (by rw [List.getElem?_append_right (Nat.le_add_right _ _), Nat.add_sub_cancel_left]; exact hj)
    rwa [hl, ← Nat.zero_add (pre.len * 10)] at h
  have hblk : ∀ k, some k ≠ v.ownBlock → k < w4.heap.size → w5.heap[k]? = w4.heap[k]? := fun k hne hk => (hg.block k (by simp; omega) hne).trans (Below.heap_alloc _ _ _ hk)
  have hrow : FRow w5 g' (0 + pre.len * 10) h2 (.slice sa sn sc) := ⟨hnew 0 _ rfl, hnew 1 _ rfl, hnew 2 _ rfl, hnew 3 _ rfl, hnew 4 _ rfl, hnew 5 _ rfl, hnew 6 _ rfl, hnew 7 _ rfl, hnew 8 _ rfl, hnew 9 _ rfl⟩
  have hgv : ∀ g, v.ownBlock = some g → g < wa.heap.size ∧ B ≤ g := fun g e => ⟨(ho.lt g e).2, (ho.lt g e).1⟩
  have hg' : v.ownBlock = some g' ∨ g' = w4.heap.size + 1 := by
    rcases hwh with e | e
    · exact .inl e.symm
    · exact .inr (by simpa [Value.ownBlock] using e)
  have hsub : FSP w5 (QB lo g' w5.heap.size) f2 (.slice sa sn sc) := FSP.kept (Nat.le_trans (by omega) hs45) (fun k hk _ => hblk k (by
      intro e
      have h1 := hgv k e.symm
      have h2 := hk.2.1
      omega) hk.2.2) (fun k hk => ⟨hk.1, by
      have h2 := hk.2
      rcases hg' with e | e
      · have h1 := hgv g' e; omega
      · omega, by have := hk.2.2; omega⟩) hs2
  refine FElP.snoc pre 0 ?_ hrow hsub
  rcases hc4 with ⟨_, rfl⟩ | ⟨g, cap, e, hel⟩
  · trivial
  · have eg : v.ownBlock = some g := by rw [e]; rfl
    have hgl := hgv g eg
    refine FElP.moved (P := QB lo g w4.heap.size) (by omega) (fun k hk => hblk k (by rw [eg]; intro h9; injection h9 with h9; exact hk.2.1 h9) hk.2.2) (fun k hk => ⟨hk.1, by
      have h2 := hk.2
      rcases hg' with e9 | e9
      · rw [eg] at e9; injection e9 with e9; omega
      · omega, by have := hk.2.2; omega⟩) pre g g' 0 (fun j _ hj => ?_) hel
    have hj' : j < pre.len * 10 := by omega
    subst e
    have h1 := ho4.cellAt j hj'
    obtain ⟨u, hu⟩ : ∃ u, xs4[j]? = some u := ⟨_, List.getElem?_eq_getElem (by omega)⟩
    rw [h1, hu]
    exact hcell j u (by rw [List.getElem?_append_left (by omega)]; exact hu)

/-- The boxes of such a loop: the formula's, the new formula's, the result's. -/
def MlSt (w W0 : World) (xf xo xr : Nat) (hf ho : FH) (sf v : Value) (wr : World) : Prop :=
  C10 wr xf hf sf ∧ C10 wr xo ho v ∧ (∀ o, wr.frozen? ⟨xo, o, none⟩ = false) ∧ C10 wr xr ⟨0, 0, 0, 0, 0, 0, 0, 0, 0⟩ (.slice none 0 0) ∧ (∀ o, wr.frozen? ⟨xr, o, none⟩ = false) ∧ Below w.heap.size w wr ∧ W0.heap.size ≤ wr.heap.size ∧
    w.heap.size ≤ xf ∧ w.heap.size ≤ xo ∧ w.heap.size ≤ xr ∧ xf < W0.heap.size ∧ xo < W0.heap.size ∧ xr < W0.heap.size ∧ xo ≠ xf ∧ xo ≠ xr ∧ xr ≠ xf
theorem mlst_low {w W0 wr w' : World} {xf xo xr : Nat} {hf ho : FH} {sf v : Value} (hst : MlSt w W0 xf xo xr hf ho sf v wr) (hb : Below W0.heap.size wr w') : MlSt w W0 xf xo xr hf ho sf v w' := by
  obtain ⟨h1, h2, h3, h4, h5, h6, h7, h8, h9, h10, h11, h12, h13, h14, h15, h16⟩ := hst
  exact ⟨c10_block hb.size (hb.block xf h11) h1, c10_block hb.size (hb.block xo h12) h2, fun o => (World.frozen?_of_block (a := ⟨xo, o, none⟩) (hb.block xo h12)).trans (h3 o), c10_block hb.size (hb.block xr h13) h4, fun o => (World.frozen?_of_block (a := ⟨xr, o, none⟩) (hb.block xr h13)).trans (h5 o), h6.trans (hb.mono (by omega)), Nat.le_trans h7 hb.size, h8, h9, h10, h11, h12, h13, h14, h15, h16⟩
theorem mlst_below {w W0 wr w' : World} {xf xo xr : Nat} {hf ho : FH} {sf v : Value} (hst : MlSt w W0 xf xo xr hf ho sf v wr) (hb : Below wr.heap.size wr w') : MlSt w W0 xf xo xr hf ho sf v w' :=
  mlst_low hst (hb.mono hst.2.2.2.2.2.2.1)
theorem mlst_put {w W0 wr w' : World} {xf xo xr : Nat} {hf ho : FH} {sf v t : Value} (hst : MlSt w W0 xf xo xr hf ho sf v wr) (hW : wr.setCell ⟨xo, 9, none⟩ t = w') : MlSt w W0 xf xo xr hf ho sf t w' ∧ (∀ k, k ≠ xo → w'.heap[k]? = wr.heap[k]?) ∧ w'.heap.size = wr.heap.size := by
  obtain ⟨h1, h2, h3, h4, h5, h6, h7, h8, h9, h10, h11, h12, h13, h14, h15, h16⟩ := hst
  obtain ⟨y0, e0, e1, e2, e3, e4, e5, e6, e7, e8, e9⟩ := h2
  have hk : ∀ k, k ≠ xo → w'.heap[k]? = wr.heap[k]? := fun k hk => by subst hW; exact Below.heap_setCell _ _ _ _ (by dsimp only; omega)
  have hsz : w'.heap.size = wr.heap.size := by subst hW; simp [World.setCell]
  refine ⟨⟨c10_block (by omega) (hk xf (by omega)) h1, ?_, fun o => by subst hW; simp [go_sem, h3 o], c10_block (by omega) (hk xr (by omega)) h4, fun o => (World.frozen?_of_block (a := ⟨xr, o, none⟩) (hk xr (by omega))).trans (h5 o), by subst hW; exact h6.setCell h9 _, by omega, h8, h9, h10, h11, h12, h13, h14, h15, h16⟩, hk, hsz⟩
  subst hW
  refine ⟨by simpa [World.setCell] using y0, ?_, ?_, ?_, ?_, ?_, ?_, ?_, ?_, ?_, ?_⟩ <;> simp [go_sem, *]

/-- The condition of the loops' regions: the formula's list and its element are there. -/
theorem keepE {V w' : World} {B xf b off : Nat} {sv s : Value} {h : FH} (h1 : V.cell? ⟨xf, 9, none⟩ = some sv ∧ FRow V b off h s) (hx : xf < B) (hb : b < B) (hB : Below B V w') : w'.cell? ⟨xf, 9, none⟩ = some sv ∧ FRow w' b off h s := by
  have f : ∀ o, w'.cell? ⟨b, o, none⟩ = V.cell? ⟨b, o, none⟩ := fun o => World.cell?_of_block (hB.block b hb)
  refine ⟨(World.cell?_of_block (a := ⟨xf, 9, none⟩) (hB.block xf hx)).trans h1.1, ?_⟩
  have := h1.2
  simpa only [FRow, f] using this
theorem keepP {V w' : World} {x xf b off : Nat} {sv s : Value} {h : FH} (h1 : V.cell? ⟨xf, 9, none⟩ = some sv ∧ FRow V b off h s) (hx : xf ≠ x) (hb : b ≠ x) (hk : ∀ k, k ≠ x → w'.heap[k]? = V.heap[k]?) : w'.cell? ⟨xf, 9, none⟩ = some sv ∧ FRow w' b off h s := by
  have f : ∀ o, w'.cell? ⟨b, o, none⟩ = V.cell? ⟨b, o, none⟩ := fun o => World.cell?_of_block (hk b hb)
  refine ⟨(World.cell?_of_block (a := ⟨xf, 9, none⟩) (hk xf hx)).trans h1.1, ?_⟩
  have := h1.2
  simpa only [FRow, f] using this

end Go.Proofs.YtmkflokcficmoaaDoor
