/- Contracts of toFormulaS, toFormula: a copy in new memory. -/
import Derived.Test.YtjgmoledhkikcaaDoorFormB
import Derived.Test.YtjgmoledhkikcaaDoorDr1
import Derived.Laws.OwnMore
namespace Go.Proofs.YtjgmoledhkikcaaDoor
open Go.RowKit

def Fo.app : Fo → Fo → Fo
  | .nil, g => g
  | .cons h s r, g => .cons h s (r.app g)
theorem Fo.app_nil (f : Fo) : f.app .nil = f := by
  induction f with
  | nil => rfl
  | cons h s r _ ih => simp only [Fo.app, ih]
theorem Fo.app_assoc (f g k : Fo) : (f.app g).app k = f.app (g.app k) := by
  induction f with
  | nil => rfl
  | cons h s r _ ih => simp only [Fo.app, ih]
theorem Fo.app_len (f g : Fo) : (f.app g).len = f.len + g.len := by
  induction f with
  | nil => simp [Fo.app, Fo.len]
  | cons h s r _ ih => simp only [Fo.app, Fo.len, ih]; omega
theorem FEl.app {w : World} {lo b : Nat} : ∀ (f g : Fo) (o : Nat), FEl w lo f b o → FEl w lo g b (o + f.len * 10) → FEl w lo (f.app g) b o := by
  intro f
  induction f with
  | nil => intro g o _ h; simpa [Fo.app, Fo.len] using h
  | cons h s r _ ih =>
    intro g o hf hg
    refine ⟨hf.1, ih g (o + 10) hf.2 ?_⟩
    have e : o + (Fo.cons h s r).len * 10 = o + 10 + r.len * 10 := by simp only [Fo.len]; omega
    rwa [e] at hg

/-- A store into block B0 behind the rows of f leaves these and what lies in later blocks. -/
theorem FEl.stored {w w' : World} {B0 : Nat} (hs : w.heap.size ≤ w'.heap.size) (hk : ∀ k, k ≠ B0 → k < w.heap.size → w'.heap[k]? = w.heap[k]?) :
    ∀ (f : Fo) (o n : Nat), (∀ j, j < n → w'.cell? ⟨B0, j, none⟩ = w.cell? ⟨B0, j, none⟩) → o + f.len * 10 ≤ n → FEl w (B0 + 1) f B0 o → FEl w' (B0 + 1) f B0 o := by
  intro f
  induction f with
  | nil => intro _ _ _ _ _; trivial
  | cons h s r _ ih =>
    intro o n hc hn hf
    obtain ⟨⟨sl, hr, hsl⟩, hrest⟩ := hf
    simp only [Fo.len] at hn
    refine ⟨⟨sl, ?_, ?_⟩, ih (o + 10) n hc (by omega) hrest⟩
    · obtain ⟨r0, r1, r2, r3, r4, r5, r6, r7, r8, r9⟩ := hr
      exact ⟨(hc _ (by omega)).trans r0, (hc _ (by omega)).trans r1, (hc _ (by omega)).trans r2, (hc _ (by omega)).trans r3, (hc _ (by omega)).trans r4, (hc _ (by omega)).trans r5, (hc _ (by omega)).trans r6, (hc _ (by omega)).trans r7, (hc _ (by omega)).trans r8, (hc _ (by omega)).trans r9⟩
    · rcases hsl with h0 | ⟨h0, b', o', cap, e, h1, h2, h3, h4, h5⟩
      · exact .inl h0
      · exact .inr ⟨h0, b', o', cap, e, h1, h2, h3, Nat.lt_of_lt_of_le h4 hs, FEl.kept hs (fun k hk1 hk2 => hk k (by omega) hk2) s b' o' h3 h4 h5⟩

theorem cell_set (w : World) (b o : Nat) (u : Value) (o' : Nat) (h : o' ≠ o) : (w.setCell ⟨b, o, none⟩ u).cell? ⟨b, o', none⟩ = w.cell? ⟨b, o', none⟩ :=
  World.cell?_setCell_other w ⟨b, o, none⟩ ⟨b, o', none⟩ u (fun e => h (by simpa using (congrArg Addr.off e).symm))

theorem put10 {w : World} {base E B0 n cap k : Nat} {xs : List Value} (v0 v1 v2 v3 v4 v5 v6 v7 v8 v9 : Value) (own : w.ownsRow base E 10 (.slice (some ⟨B0, 0, none⟩) n cap) n xs) (hk : k < n) {W : World}
    (hW : ((((((((((w.setCell ⟨B0, k * 10, none⟩ v0).setCell ⟨B0, k * 10 + 1, none⟩ v1).setCell ⟨B0, k * 10 + 2, none⟩ v2).setCell ⟨B0, k * 10 + 3, none⟩ v3).setCell ⟨B0, k * 10 + 4, none⟩ v4).setCell ⟨B0, k * 10 + 5, none⟩ v5).setCell ⟨B0, k * 10 + 6, none⟩ v6).setCell ⟨B0, k * 10 + 7, none⟩ v7).setCell ⟨B0, k * 10 + 8, none⟩ v8).setCell ⟨B0, k * 10 + 9, none⟩ v9) = W) :
    (∃ xs', W.ownsRow base E 10 (.slice (some ⟨B0, 0, none⟩) n cap) n xs') ∧ (∀ B, B ≤ B0 → Below B w W) ∧ w.heap.size ≤ W.heap.size ∧ (∀ b, b ≠ B0 → b < w.heap.size → W.heap[b]? = w.heap[b]?) ∧ (∀ j, j < k * 10 → W.cell? ⟨B0, j, none⟩ = w.cell? ⟨B0, j, none⟩) ∧
      W.cell? ⟨B0, k * 10, none⟩ = some v0 ∧ W.cell? ⟨B0, k * 10 + 1, none⟩ = some v1 ∧ W.cell? ⟨B0, k * 10 + 2, none⟩ = some v2 ∧ W.cell? ⟨B0, k * 10 + 3, none⟩ = some v3 ∧ W.cell? ⟨B0, k * 10 + 4, none⟩ = some v4 ∧
      W.cell? ⟨B0, k * 10 + 5, none⟩ = some v5 ∧ W.cell? ⟨B0, k * 10 + 6, none⟩ = some v6 ∧ W.cell? ⟨B0, k * 10 + 7, none⟩ = some v7 ∧ W.cell? ⟨B0, k * 10 + 8, none⟩ = some v8 ∧ W.cell? ⟨B0, k * 10 + 9, none⟩ = some v9 := by
  have o1 := own.stored (k * 10) v0
  have o2 := o1.1.stored (k * 10 + 1) v1
  have o3 := o2.1.stored (k * 10 + 2) v2
  have o4 := o3.1.stored (k * 10 + 3) v3
  have o5 := o4.1.stored (k * 10 + 4) v4
  have o6 := o5.1.stored (k * 10 + 5) v5
  have o7 := o6.1.stored (k * 10 + 6) v6
  have o8 := o7.1.stored (k * 10 + 7) v7
  have o9 := o8.1.stored (k * 10 + 8) v8
  have o10 := o9.1.stored (k * 10 + 9) v9
  rw [hW] at o10
  have hl := own.1
  have g : ∀ j, j < n * 10 → W.cell? ⟨B0, j, none⟩ = _ := fun j hj => o10.1.cellAt j hj
  refine ⟨⟨_, o10.1⟩, ?_, ?_, ?_, ?_, ?_⟩
  · intro B hB
    subst hW
    exact (((((((((((Below.refl B w).setCell hB v0).setCell hB v1).setCell hB v2).setCell hB v3).setCell hB v4).setCell hB v5).setCell hB v6).setCell hB v7).setCell hB v8).setCell hB v9)
  · subst hW; simp [World.setCell]
  · intro b hb _
    subst hW
    iterate 9 rw [Below.heap_setCell _ _ _ _ hb]
    rw [Below.heap_setCell _ _ _ _ hb]
  · intro j hj
    subst hW
    repeat rw [cell_set _ _ _ _ _ (by omega)]
  · refine ⟨?_, ?_, ?_, ?_, ?_, ?_, ?_, ?_, ?_, ?_⟩ <;> rw [g _ (by omega)] <;> simp [hl, List.getElem?_set] <;> omega

theorem FS.kept {w w' : World} {lo : Nat} {f : Fo} {s : Value} (hs : w.heap.size ≤ w'.heap.size) (hk : ∀ k, lo ≤ k → k < w.heap.size → w'.heap[k]? = w.heap[k]?) (h : FS w lo f s) : FS w' lo f s := by
  rcases h with h0 | ⟨h0, b', o', cap, e, h1, h2, h3, h4, h5⟩
  · exact .inl h0
  · exact .inr ⟨h0, b', o', cap, e, h1, h2, h3, Nat.lt_of_lt_of_le h4 hs, FEl.kept hs hk f b' o' h3 h4 h5⟩

theorem FS.slice {w : World} {lo : Nat} {f : Fo} {s : Value} (h : FS w lo f s) : ∃ a l c, s = .slice a l c := by
  rcases h with ⟨_, x, cap, e, _⟩ | ⟨_, b, o, cap, e, _⟩
  · exact ⟨_, _, _, e⟩
  · exact ⟨_, _, _, e⟩

def TsPost (f : Fo) (w : World) (e : Ending) (w' : World) : Prop := ∃ s', e = .returned s' ∧ FS w' w.heap.size f s' ∧ Below w.heap.size w w'
def TfPost (h : FH) (f : Fo) (w : World) (e : Ending) (w' : World) : Prop := ∃ s', e = .returned (.agg #[.int .i64 h.k, .int .i64 h.ak, .int .i64 h.am, .int .i64 h.a, .int .i64 h.b, .int .i64 h.c, .int .i64 h.d, .int .i64 h.n, .int .i64 h.v, s']) ∧ FS w' w.heap.size f s' ∧ Below w.heap.size w w'

end Go.Proofs.YtjgmoledhkikcaaDoor
