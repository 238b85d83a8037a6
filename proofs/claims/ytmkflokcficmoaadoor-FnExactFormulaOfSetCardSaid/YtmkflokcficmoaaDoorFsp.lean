/- Forests whose lists lie in blocks with a property. -/
import Derived.Test.YtmkflokcficmoaaDoorFormC
namespace Go.Proofs.YtmkflokcficmoaaDoor
open Go.RowKit

def FSlP (w : World) (P : Nat → Prop) (len : Nat) (E : Nat → Nat → Prop) (s : Value) : Prop :=
  (len = 0 ∧ ∃ x cap, s = .slice x 0 cap ∧ 0 ≤ cap ∧ cap ≤ maxLen) ∨ (0 < len ∧ ∃ b o cap, s = .slice (some ⟨b, o, none⟩) len cap ∧ len ≤ cap ∧ cap ≤ maxLen ∧ P b ∧ b < w.heap.size ∧ E b o)
def FElP (w : World) (P : Nat → Prop) : Fo → Nat → Nat → Prop
  | .nil, _, _ => True
  | .cons h subs rest, b, o => (∃ s, FRow w b o h s ∧ FSlP w P subs.len (FElP w P subs) s) ∧ FElP w P rest b (o + 10)
def FSP (w : World) (P : Nat → Prop) (f : Fo) (s : Value) : Prop := FSlP w P f.len (FElP w P f) s

theorem FElP.of {w : World} {lo : Nat} : ∀ (f : Fo) (b o : Nat), FEl w lo f b o → FElP w (fun k => lo ≤ k ∧ k < w.heap.size) f b o := by
  intro f
  induction f with
  | nil => intro _ _ _; trivial
  | cons h s r ihs ihr =>
    intro b o hf
    obtain ⟨⟨sl, hr, hsl⟩, hrest⟩ := hf
    refine ⟨⟨sl, hr, ?_⟩, ihr b (o + 10) hrest⟩
    rcases hsl with h0 | ⟨h0, b', o', cap, e, h1, h2, h3, h4, h5⟩
    · exact .inl h0
    · exact .inr ⟨h0, b', o', cap, e, h1, h2, ⟨h3, h4⟩, h4, ihs b' o' h5⟩
theorem FSP.of {w : World} {lo : Nat} {f : Fo} {s : Value} (h : FS w lo f s) : FSP w (fun k => lo ≤ k ∧ k < w.heap.size) f s := by
  rcases h with h0 | ⟨h0, b', o', cap, e, h1, h2, h3, h4, h5⟩
  · exact .inl h0
  · exact .inr ⟨h0, b', o', cap, e, h1, h2, ⟨h3, h4⟩, h4, FElP.of f b' o' h5⟩
theorem FElP.to {w : World} {P : Nat → Prop} {lo : Nat} (hP : ∀ k, P k → lo ≤ k) : ∀ (f : Fo) (b o : Nat), FElP w P f b o → FEl w lo f b o := by
  intro f
  induction f with
  | nil => intro _ _ _; trivial
  | cons h s r ihs ihr =>
    intro b o hf
    obtain ⟨⟨sl, hr, hsl⟩, hrest⟩ := hf
    refine ⟨⟨sl, hr, ?_⟩, ihr b (o + 10) hrest⟩
    rcases hsl with h0 | ⟨h0, b', o', cap, e, h1, h2, h3, h4, h5⟩
    · exact .inl h0
    · exact .inr ⟨h0, b', o', cap, e, h1, h2, hP _ h3, h4, ihs b' o' h5⟩
theorem FSP.to {w : World} {P : Nat → Prop} {lo : Nat} {f : Fo} {s : Value} (hP : ∀ k, P k → lo ≤ k) (h : FSP w P f s) : FS w lo f s := by
  rcases h with h0 | ⟨h0, b', o', cap, e, h1, h2, h3, h4, h5⟩
  · exact .inl h0
  · exact .inr ⟨h0, b', o', cap, e, h1, h2, hP _ h3, h4, FElP.to hP f b' o' h5⟩
theorem FElP.kept {w w' : World} {P Q : Nat → Prop} (hs : w.heap.size ≤ w'.heap.size) (hk : ∀ k, P k → k < w.heap.size → w'.heap[k]? = w.heap[k]?) (hq : ∀ k, P k → Q k) :
    ∀ (f : Fo) (b o : Nat), P b → b < w.heap.size → FElP w P f b o → FElP w' Q f b o := by
  intro f
  induction f with
  | nil => intro _ _ _ _ _; trivial
  | cons h s r ihs ihr =>
    intro b o hl hb hf
    obtain ⟨⟨sl, hr, hsl⟩, hrest⟩ := hf
    have hc : ∀ o, w'.cell? ⟨b, o, none⟩ = w.cell? ⟨b, o, none⟩ := fun o => World.cell?_of_block (hk b hl hb)
    refine ⟨⟨sl, ?_, ?_⟩, ihr b (o + 10) hl hb hrest⟩
    · simpa only [FRow, hc] using hr
    · rcases hsl with h0 | ⟨h0, b', o', cap, e, h1, h2, h3, h4, h5⟩
      · exact .inl h0
      · exact .inr ⟨h0, b', o', cap, e, h1, h2, hq _ h3, Nat.lt_of_lt_of_le h4 hs, ihs b' o' h3 h4 h5⟩
theorem FSP.kept {w w' : World} {P Q : Nat → Prop} {f : Fo} {s : Value} (hs : w.heap.size ≤ w'.heap.size) (hk : ∀ k, P k → k < w.heap.size → w'.heap[k]? = w.heap[k]?) (hq : ∀ k, P k → Q k) (h : FSP w P f s) : FSP w' Q f s := by
  rcases h with h0 | ⟨h0, b', o', cap, e, h1, h2, h3, h4, h5⟩
  · exact .inl h0
  · exact .inr ⟨h0, b', o', cap, e, h1, h2, hq _ h3, Nat.lt_of_lt_of_le h4 hs, FElP.kept hs hk hq f b' o' h3 h4 h5⟩
theorem FSP.slice {w : World} {P : Nat → Prop} {f : Fo} {s : Value} (h : FSP w P f s) : ∃ a l c, s = .slice a l c := by
  rcases h with ⟨_, x, cap, e, _⟩ | ⟨_, b, o, cap, e, _⟩
  · exact ⟨_, _, _, e⟩
  · exact ⟨_, _, _, e⟩

set_option maxHeartbeats 1000000 in
theorem l3Two_p (P : Nat → Prop) (k : Int) (h g : FH) (f u : Fo) (s t : Value) (w : World) (hs : FSP w P f s) (ht : FSP w P u t) : Calls Tryd.prog 41 #[.int .i64 k, .agg #[.int .i64 h.k, .int .i64 h.ak, .int .i64 h.am, .int .i64 h.a, .int .i64 h.b, .int .i64 h.c, .int .i64 h.d, .int .i64 h.n, .int .i64 h.v, s], .agg #[.int .i64 g.k, .int .i64 g.ak, .int .i64 g.am, .int .i64 g.a, .int .i64 g.b, .int .i64 g.c, .int .i64 g.d, .int .i64 g.n, .int .i64 g.v, t]] w (fun e w' => ∃ s', e = .returned (.agg #[.int .i64 k, .int .i64 0, .int .i64 0, .int .i64 0, .int .i64 0, .int .i64 0, .int .i64 0, .int .i64 0, .int .i64 0, s']) ∧ FSP w' (fun k => P k ∨ w.heap.size ≤ k) (.cons h f (.cons g u .nil)) s' ∧ Below w.heap.size w w') := by
  have HS := Lib.hid hs
  have HT := Lib.hid ht
  obtain ⟨sa, sn, sc, rfl⟩ := hs.slice
  obtain ⟨ta, tn, tc, rfl⟩ := ht.slice
  clear hs ht
  go_enter Tryd.func41, Tryd.ntmps41
  go_wp2
  refine bodyPost_ret (v := .agg #[.int .i64 k, .int .i64 0, .int .i64 0, .int .i64 0, .int .i64 0, .int .i64 0, .int .i64 0, .int .i64 0, .int .i64 0, .slice (some ⟨w.heap.size + 1 + 1 + 1, 0, none⟩) 2 2]) (by simp [results, Tryd.results41, go_sem]) rfl ?_
  generalize hW : World.alloc _ _ = W
  have hb : Below w.heap.size w W := by subst hW; go_grown
  have hsz : w.heap.size + 1 + 1 + 1 < W.heap.size := by subst hW; simp
  refine ⟨_, rfl, .inr ⟨Nat.zero_lt_two, w.heap.size + 1 + 1 + 1, 0, 2, rfl, Nat.le_refl _, by decide, .inr (by omega), hsz, ⟨⟨.slice sa sn sc, ?_, FSP.kept hb.size (fun k _ hk => hb.block k hk) (fun _ h => .inl h) HS.out⟩, ⟨.slice ta tn tc, ?_, FSP.kept hb.size (fun k _ hk => hb.block k hk) (fun _ h => .inl h) HT.out⟩, trivial⟩⟩, hb⟩
  · subst hW
    refine ⟨?_, ?_, ?_, ?_, ?_, ?_, ?_, ?_, ?_, ?_⟩ <;> simp [go_sem]
  · subst hW
    refine ⟨?_, ?_, ?_, ?_, ?_, ?_, ?_, ?_, ?_, ?_⟩ <;> simp [go_sem]

end Go.Proofs.YtmkflokcficmoaaDoor
