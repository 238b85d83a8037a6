/- A forest whose lists lie apart: each element's parts in blocks of their own; marks on it are exact. -/
import Derived.Test.YtahilpccnabbgaaHeldF
namespace Go.Proofs.Ytahilpccnabbgaa
open Go.RowKit

/-- A slice that can be marked, in the blocks from lo to hi. -/
def TSl (w : World) (lo hi len : Nat) (P : Nat → Prop) (s : Value) : Prop :=
  (len = 0 ∧ ∃ x cap, s = .slice x 0 cap ∧ 0 ≤ cap ∧ cap ≤ maxLen) ∨ (0 < len ∧ ∃ b cap, s = .slice (some ⟨b, 0, none⟩) len cap ∧ len ≤ cap ∧ cap ≤ maxLen ∧ lo ≤ b ∧ b < hi ∧ (∀ o, w.frozen? ⟨b, o, none⟩ = false) ∧ P b)
/-- The elements' parts lie in intervals of blocks, one behind the other; none holds the elements' own block. -/
def TEl (w : World) : Fo → Nat → Nat → Nat → Nat → Prop
  | .nil, _, _, _, _ => True
  | .cons h s r, b, i, lo, hi => ∃ l m, lo ≤ l ∧ l ≤ m ∧ m ≤ hi ∧ (b < l ∨ m ≤ b) ∧ (∃ sl, FRow w b (i * 10) h sl ∧ TSl w l m s.len (fun b' => TEl w s b' 0 l m) sl) ∧ TEl w r b (i + 1) m hi
/-- A slice of formulas that lie apart, in the blocks from lo to hi. -/
def SF (w : World) (lo hi : Nat) (f : Fo) (s : Value) : Prop := TSl w lo hi f.len (fun b => TEl w f b 0 lo hi) s

theorem TEl.mono {w : World} : ∀ (f : Fo) (b i lo hi lo' hi' : Nat), lo' ≤ lo → hi ≤ hi' → TEl w f b i lo hi → TEl w f b i lo' hi' := by
  intro f
  induction f with
  | nil => intro _ _ _ _ _ _ _ _ _; trivial
  | cons h s r _ ihr =>
    rintro b i lo hi lo' hi' hl hh ⟨l, m, h1, h2, h3, h4, h5, h6⟩
    exact ⟨l, m, by omega, h2, by omega, h4, h5, ihr b (i + 1) m hi m hi' (Nat.le_refl _) hh h6⟩
theorem SF.mono {w : World} {lo hi lo' hi' : Nat} {f : Fo} {s : Value} (hl : lo' ≤ lo) (hh : hi ≤ hi') (h : SF w lo hi f s) : SF w lo' hi' f s := by
  rcases h with h0 | ⟨h0, b', cap, e, g1, g2, g3, g4, g5, g6⟩
  · exact .inl h0
  · exact .inr ⟨h0, b', cap, e, g1, g2, by omega, by omega, g5, TEl.mono f b' 0 lo hi lo' hi' hl hh g6⟩
theorem TEl.same {w w' : World} : ∀ (f : Fo) (b i lo hi : Nat), (∀ x, lo ≤ x → x < hi → x ≠ b → w'.heap[x]? = w.heap[x]?) → (∀ j, i * 10 ≤ j → j < (i + f.len) * 10 → w'.cell? ⟨b, j, none⟩ = w.cell? ⟨b, j, none⟩) → TEl w f b i lo hi → TEl w' f b i lo hi := by
  intro f
  induction f with
  | nil => intro _ _ _ _ _ _ _; trivial
  | cons h s r ihs ihr =>
    rintro b i lo hi hx hc ⟨l, m, h1, h2, h3, h4, ⟨sl, hr, hsl⟩, h6⟩
    simp only [Fo.len] at hc
    obtain ⟨r0, r1, r2, r3, r4, r5, r6, r7, r8, r9⟩ := hr
    refine ⟨l, m, h1, h2, h3, h4, ⟨sl, ⟨(hc _ (by omega) (by omega)).trans r0, (hc _ (by omega) (by omega)).trans r1, (hc _ (by omega) (by omega)).trans r2, (hc _ (by omega) (by omega)).trans r3, (hc _ (by omega) (by omega)).trans r4, (hc _ (by omega) (by omega)).trans r5, (hc _ (by omega) (by omega)).trans r6, (hc _ (by omega) (by omega)).trans r7, (hc _ (by omega) (by omega)).trans r8, (hc _ (by omega) (by omega)).trans r9⟩, ?_⟩, ihr b (i + 1) m hi (fun x a1 a2 a3 => hx x (by omega) a2 a3) (fun j a1 a2 => hc j (by omega) (by omega)) h6⟩
    rcases hsl with h0 | ⟨h0, b', cap, e, g1, g2, g3, g4, g5, g6⟩
    · exact .inl h0
    · have hb' := hx b' (by omega) (by omega) (by omega)
      exact .inr ⟨h0, b', cap, e, g1, g2, g3, g4, fun o => (World.frozen?_of_block (a := ⟨b', o, none⟩) hb').trans (g5 o), ihs b' 0 l m (fun x a1 a2 _ => hx x (by omega) (by omega) (by omega)) (fun j _ _ => World.cell?_of_block (a := ⟨b', j, none⟩) hb') g6⟩
theorem SF.same {w w' : World} {lo hi : Nat} {f : Fo} {s : Value} (hx : ∀ x, lo ≤ x → x < hi → w'.heap[x]? = w.heap[x]?) (h : SF w lo hi f s) : SF w' lo hi f s := by
  rcases h with h0 | ⟨h0, b', cap, e, g1, g2, g3, g4, g5, g6⟩
  · exact .inl h0
  · exact .inr ⟨h0, b', cap, e, g1, g2, g3, g4, fun o => (World.frozen?_of_block (a := ⟨b', o, none⟩) (hx b' g3 g4)).trans (g5 o), TEl.same f b' 0 lo hi (fun x a1 a2 _ => hx x a1 a2) (fun j _ _ => World.cell?_of_block (a := ⟨b', j, none⟩) (hx b' g3 g4)) g6⟩
theorem SF.below {w w' : World} {lo hi B : Nat} {f : Fo} {s : Value} (hb : Below B w w') (hB : hi ≤ B) (h : SF w lo hi f s) : SF w' lo hi f s :=
  h.same fun x _ hx => hb.block x (by omega)
theorem TEl.app {w : World} {b : Nat} : ∀ (f g : Fo) (i lo m hi : Nat), lo ≤ m → m ≤ hi → TEl w f b i lo m → TEl w g b (i + f.len) m hi → TEl w (f.app g) b i lo hi := by
  intro f
  induction f with
  | nil =>
    intro g i lo m hi hl hm _ hg
    exact TEl.mono g b i m hi lo hi hl (Nat.le_refl _) (by simpa [Fo.len] using hg)
  | cons h s r _ ihr =>
    rintro g i lo m hi hl hm ⟨a, c, h1, h2, h3, h4, h5, h6⟩ hg
    have e : i + (Fo.cons h s r).len = i + 1 + r.len := by simp only [Fo.len]; omega
    rw [e] at hg
    exact ⟨a, c, h1, h2, by omega, h4, h5, ihr g (i + 1) c m hi h3 hm h6 hg⟩
theorem TEl.fel {w : World} : ∀ (f : Fo) (b i lo hi : Nat), hi ≤ w.heap.size → TEl w f b i lo hi → FEl w lo f b (i * 10) := by
  intro f
  induction f with
  | nil => intro _ _ _ _ _ _; trivial
  | cons h s r ihs ihr =>
    rintro b i lo hi hh ⟨l, m, h1, h2, h3, h4, ⟨sl, hr, hsl⟩, h6⟩
    refine ⟨⟨sl, hr, ?_⟩, ?_⟩
    · rcases hsl with h0 | ⟨h0, b', cap, e, g1, g2, g3, g4, g5, g6⟩
      · exact .inl h0
      · exact .inr ⟨h0, b', 0, cap, e, g1, g2, by omega, by omega, FEl.mono h1 s b' 0 (by simpa using ihs b' 0 l m (by omega) g6)⟩
    · have := ihr b (i + 1) m hi hh h6
      rw [show (i + 1) * 10 = i * 10 + 10 by omega] at this
      exact FEl.mono (by omega) r b _ this
theorem SF.fs {w : World} {lo hi : Nat} {f : Fo} {s : Value} (hh : hi ≤ w.heap.size) (h : SF w lo hi f s) : FS w lo f s := by
  rcases h with h0 | ⟨h0, b', cap, e, g1, g2, g3, g4, g5, g6⟩
  · exact .inl h0
  · exact .inr ⟨h0, b', 0, cap, e, g1, g2, g3, by omega, by simpa using TEl.fel f b' 0 lo hi hh g6⟩

/-- A marked row. -/
theorem set9 {w W : World} {b i : Nat} {hd : FH} {sl : Value} {v0 v1 v2 v3 v4 v5 v6 v7 v8 : Int} (hr : FRow w b (i * 10) hd sl) (hW : (((((((((w.setCell ⟨b, i * 10, none⟩ (.int .i64 v0)).setCell ⟨b, i * 10 + 1, none⟩ (.int .i64 v1)).setCell ⟨b, i * 10 + 2, none⟩ (.int .i64 v2)).setCell ⟨b, i * 10 + 3, none⟩ (.int .i64 v3)).setCell ⟨b, i * 10 + 4, none⟩ (.int .i64 v4)).setCell ⟨b, i * 10 + 5, none⟩ (.int .i64 v5)).setCell ⟨b, i * 10 + 6, none⟩ (.int .i64 v6)).setCell ⟨b, i * 10 + 7, none⟩ (.int .i64 v7)).setCell ⟨b, i * 10 + 8, none⟩ (.int .i64 v8)) = W) :
    FRow W b (i * 10) ⟨v0, v1, v2, v3, v4, v5, v6, v7, v8⟩ sl ∧ (∀ j, j < i * 10 ∨ i * 10 + 10 ≤ j → W.cell? ⟨b, j, none⟩ = w.cell? ⟨b, j, none⟩) ∧ (∀ x, x ≠ b → W.heap[x]? = w.heap[x]?) := by
  subst hW
  obtain ⟨r0, r1, r2, r3, r4, r5, r6, r7, r8, r9⟩ := hr
  refine ⟨⟨?_, ?_, ?_, ?_, ?_, ?_, ?_, ?_, ?_, ?_⟩, fun j hj => ?_, fun x hx => ?_⟩
  all_goals try (simp [go_sem, *]; done)
  · repeat rw [Below.heap_setCell _ _ _ _ (by dsimp only; omega)]

end Go.Proofs.Ytahilpccnabbgaa
