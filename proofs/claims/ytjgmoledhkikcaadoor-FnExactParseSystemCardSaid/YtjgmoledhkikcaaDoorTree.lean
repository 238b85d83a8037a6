/- Formulas as data: a list of formulas is a forest; how a forest lies in memory. -/
import Derived.Test.YtjgmoledhkikcaaDoorBas
namespace Go.Proofs.YtjgmoledhkikcaaDoor
open Go.RowKit

/-- The head of a formula: its kind, the seven ints of its atom, its variable. -/
structure FH where
  (k ak am a b c d n v : Int)

/-- A list of formulas: of the first one its head and its parts; the others. -/
inductive Fo where
  | nil
  | cons (h : FH) (subs rest : Fo)

def Fo.len : Fo → Nat
  | .nil => 0
  | .cons _ _ r => r.len + 1
/-- How many nodes there are. -/
def Fo.size : Fo → Nat
  | .nil => 0
  | .cons _ s r => s.size + r.size + 1

theorem Fo.len_le (f : Fo) : f.len ≤ f.size := by
  induction f with
  | nil => exact Nat.le_refl _
  | cons h s r _ ih => simp only [Fo.len, Fo.size]; omega

theorem Fo.len_zero {f : Fo} (h : f.len = 0) : f = .nil := by
  cases f with
  | nil => rfl
  | cons _ _ _ => simp [Fo.len] at h

/-- The ten cells of a formula. -/
def FRow (w : World) (b o : Nat) (h : FH) (s : Value) : Prop :=
  w.cell? ⟨b, o, none⟩ = some (.int .i64 h.k) ∧ w.cell? ⟨b, o + 1, none⟩ = some (.int .i64 h.ak) ∧ w.cell? ⟨b, o + 2, none⟩ = some (.int .i64 h.am) ∧
  w.cell? ⟨b, o + 3, none⟩ = some (.int .i64 h.a) ∧ w.cell? ⟨b, o + 4, none⟩ = some (.int .i64 h.b) ∧ w.cell? ⟨b, o + 5, none⟩ = some (.int .i64 h.c) ∧
  w.cell? ⟨b, o + 6, none⟩ = some (.int .i64 h.d) ∧ w.cell? ⟨b, o + 7, none⟩ = some (.int .i64 h.n) ∧ w.cell? ⟨b, o + 8, none⟩ = some (.int .i64 h.v) ∧
  w.cell? ⟨b, o + 9, none⟩ = some s

/-- A slice whose elements lie as P says. -/
def FSl (w : World) (lo len : Nat) (P : Nat → Nat → Prop) (s : Value) : Prop :=
  (len = 0 ∧ ∃ x cap, s = .slice x 0 cap ∧ 0 ≤ cap ∧ cap ≤ maxLen) ∨ (0 < len ∧ ∃ b o cap, s = .slice (some ⟨b, o, none⟩) len cap ∧ len ≤ cap ∧ cap ≤ maxLen ∧ lo ≤ b ∧ b < w.heap.size ∧ P b o)

/-- The elements of a forest lie one behind the other; the lists of their parts lie in blocks from lo on. -/
def FEl (w : World) (lo : Nat) : Fo → Nat → Nat → Prop
  | .nil, _, _ => True
  | .cons h subs rest, b, o => (∃ s, FRow w b o h s ∧ FSl w lo subs.len (FEl w lo subs) s) ∧ FEl w lo rest b (o + 10)

/-- A slice of formulas. -/
def FS (w : World) (lo : Nat) (f : Fo) (s : Value) : Prop := FSl w lo f.len (FEl w lo f) s

theorem FEl.kept {w w' : World} {lo : Nat} (hs : w.heap.size ≤ w'.heap.size) (hk : ∀ k, lo ≤ k → k < w.heap.size → w'.heap[k]? = w.heap[k]?) :
    ∀ (f : Fo) (b o : Nat), lo ≤ b → b < w.heap.size → FEl w lo f b o → FEl w' lo f b o := by
  intro f
  induction f with
  | nil => intro _ _ _ _ _; trivial
  | cons h s r ihs ihr =>
    intro b o hl hb hf
    obtain ⟨⟨sl, hr, hsl⟩, hrest⟩ := hf
    have hc : ∀ o, w'.cell? ⟨b, o, none⟩ = w.cell? ⟨b, o, none⟩ := fun o => World.cell?_of_block (hk b hl hb)
    refine ⟨⟨sl, ?_, ?_⟩, ihr b (o + 10) hl hb hrest⟩
    · simpa only [FRow, hc] using hr
    · rcases hsl with h0 | ⟨h0, b', o', cap, e, h1, h2, h3, h4, h5⟩
      · exact .inl h0
      · exact .inr ⟨h0, b', o', cap, e, h1, h2, h3, Nat.lt_of_lt_of_le h4 hs, ihs b' o' h3 h4 h5⟩

theorem FEl.below {w w' : World} {lo B : Nat} {f : Fo} {b o : Nat} (hb : Below B w w') (hB : w.heap.size ≤ B) (hlo : lo ≤ b) (hbs : b < w.heap.size) (h : FEl w lo f b o) : FEl w' lo f b o :=
  FEl.kept hb.size (fun k _ hk => hb.block k (Nat.lt_of_lt_of_le hk hB)) f b o hlo hbs h

theorem FEl.mono {w : World} {lo lo' : Nat} (hl : lo' ≤ lo) : ∀ (f : Fo) (b o : Nat), FEl w lo f b o → FEl w lo' f b o := by
  intro f
  induction f with
  | nil => intro _ _ _; trivial
  | cons h s r ihs ihr =>
    intro b o hf
    obtain ⟨⟨sl, hr, hsl⟩, hrest⟩ := hf
    refine ⟨⟨sl, hr, ?_⟩, ihr b (o + 10) hrest⟩
    rcases hsl with h0 | ⟨h0, b', o', cap, e, h1, h2, h3, h4, h5⟩
    · exact .inl h0
    · exact .inr ⟨h0, b', o', cap, e, h1, h2, Nat.le_trans hl h3, h4, ihs b' o' h5⟩

theorem FS.below {w w' : World} {lo B : Nat} {f : Fo} {s : Value} (hb : Below B w w') (hB : w.heap.size ≤ B) (h : FS w lo f s) : FS w' lo f s := by
  rcases h with h0 | ⟨h0, b', o', cap, e, h1, h2, h3, h4, h5⟩
  · exact .inl h0
  · exact .inr ⟨h0, b', o', cap, e, h1, h2, h3, Nat.lt_of_lt_of_le h4 hb.size, h5.below hb hB h3 h4⟩

theorem FS.mono {w : World} {lo lo' : Nat} {f : Fo} {s : Value} (hl : lo' ≤ lo) (h : FS w lo f s) : FS w lo' f s := by
  rcases h with h0 | ⟨h0, b', o', cap, e, h1, h2, h3, h4, h5⟩
  · exact .inl h0
  · exact .inr ⟨h0, b', o', cap, e, h1, h2, Nat.le_trans hl h3, h4, FEl.mono hl f b' o' h5⟩

/-- The forest behind k elements. -/
def Fo.drop : Fo → Nat → Fo
  | f, 0 => f
  | .nil, _ + 1 => .nil
  | .cons _ _ r, k + 1 => r.drop k

end Go.Proofs.YtjgmoledhkikcaaDoor
