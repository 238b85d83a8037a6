/- From a walk that ends true and leaves all that was there as it was, to the row of a law with one named variable. -/
import Derived.Test.YtbppcpaodfjpkaaDoorLift
import Derived.ChangeVars
import Derived.WideKeyArgs
namespace Go.Proofs.YtbppcpaodfjpkaaDoor
open Go.ChangeShapes Go.WideShapes Go.ChangeAt Go.RowKit Go.Joins Go.Deep

section
variable {H : Type} {enc : TypeId × Value → H} {P : Program}

theorem var_stays {W W' : World} {n : String} {cs : Array Value} (hb : Below W.heap.size W W') (h : W.var? P n = some cs) : W'.var? P n = some cs := by
  unfold World.var? at h ⊢
  cases hg : P.globalNamed n with
  | none => rw [hg] at h; cases h
  | some g =>
    rw [hg] at h
    simp only [Option.bind_some] at h ⊢
    have hlt : g < W.heap.size := by
      by_cases hl : g < W.heap.size
      · exact hl
      · rw [Array.getElem?_eq_none (by omega)] at h; cases h
    rw [hb.block g hlt]
    exact h

theorem trodVars_stays1 (hl : laidOutB P = true) {W W' : World} {sp : Nat → Bool} {n : String} {gs : List (DataW H)} {q : List MemPlace} (hb : Below W.heap.size W W')
    (hvr : ∀ g t, P.globalNamed n = some g → (P.globals[g]?).map (·.type) = some t → P.readableRec t = true ∧ t < P.types.size)
    (h : DataW.TrodVars enc P W (fun _ => true) [n] gs q) (hs : ∀ p ∈ q, W.sameAt W' p) (hp : ∀ p ∈ q, sp p.block = true) : DataW.TrodVars enc P W' sp [n] gs q := by
  obtain ⟨g, t, cs, fuel, d, p, rfl, h1, h2, h3, h4, rfl⟩ := trodVars_one h
  obtain ⟨hr, hrow⟩ := hvr g t h1 h2
  exact trodVars_mk1 h1 h2 (var_stays hb h3) (DataW.trod_stays (kids_book hl hr) (book_sized hr) (fun h => by cases h) ⟨hrow, book_self t⟩ h4 (fun x hx => hs x (List.mem_append_right _ hx)) (fun x hx => hp x (List.mem_append_right _ hx)))

theorem law_post1 {f : Func} {s : ChangeSpec} {apart fresh handsOn again : Bool} {W W' : World} {args : Array Value} {ds gs : List (DataW H)} {before : List MemPlace} {tb : TypeId} {n : String}
    (hl : laidOutB P = true) (hr0 : f.params.toList.all (fun t => P.readableRec t && decide (t < P.types.size)) = true) (hv : s.vars = [n]) (ht : f.resultTypes = #[tb]) (htb : P.underlying tb = some .bool)
    (hvr : ∀ g t, P.globalNamed n = some g → (P.globals[g]?).map (·.type) = some t → P.readableRec t = true ∧ t < P.types.size)
    (hW : DataW.Whole enc P f.params.toList s.vars apart W args.toList ds gs before)
    (hf : s.fn H (ds ++ gs) = { results := [.lit (.bool true)], args := ds, vars := gs }) (hb : Below W.heap.size W W') :
    s.post enc P f apart fresh handsOn again W args (.bool true) W' := by
  have hr : ∀ t ∈ f.params.toList, P.readableRec t = true ∧ t < P.types.size := fun t ht => by simpa using List.all_eq_true.1 hr0 t ht
  have hlt : ∀ p ∈ before, p.block < W.heap.size := fun p hp => hW.lt p hp
  have hold : ∀ p ∈ before, (fun b => decide (b < W.heap.size)) p.block = true := fun p hp => by simpa using hlt p hp
  have hW0 := hW
  obtain ⟨p, q, hA, hV, hpq, hz, hn⟩ := hW
  rw [hv] at hV
  have hpb : ∀ x ∈ p, x ∈ before := fun x hx => by rw [hpq]; exact List.mem_append_left _ hx
  have hqb : ∀ x ∈ q, x ∈ before := fun x hx => by rw [hpq]; exact List.mem_append_right _ hx
  have hvars : ∀ sp : Nat → Bool, (∀ x ∈ q, sp x.block = true) → DataW.TrodVars enc P W' sp s.vars (s.fn H (ds ++ gs)).vars q := fun sp hsp => by
    rw [hv, hf]; exact trodVars_stays1 hl hb hvr hV (fun x hx => hb.same (hlt x (hqb x hx))) hsp
  have hres : ∀ (b : Nat) (sp : Nat → Bool) (hd : Bool), DataW.TrodAll enc P W' b sp hd f.resultTypes.toList ((Value.bool true).resultList f.resultTypes.size) (s.fn H (ds ++ gs)).results [] := fun b sp hd => by
    rw [hf, ht]; exact trodAll_mk1 (shut_bool htb true)
  have hargs : ∀ sp : Nat → Bool, (∀ x ∈ p, sp x.block = true) → DataW.TrodAll enc P W' 0 sp true f.params.toList args.toList (s.fn H (ds ++ gs)).args p := fun sp hsp => by
    rw [hf]; exact trodAll_stays hl _ _ _ _ hr hA (fun x hx => hb.same (hlt x (hpb x hx))) hsp
  refine ⟨ds, gs, before, [], p, q, hW0, hres _ _ _, hargs _ (fun x hx => hold x (hpb x hx)), hvars _ (fun x hx => hold x (hqb x hx)), World.keptBut_mono (fun x hx => ⟨hx, by rw [hpq] at hx; rcases List.mem_append.1 hx with h | h; exact Or.inr (Or.inl h); exact Or.inr (Or.inr h)⟩) (hb.frame (· ∈ before)), fun _ => ?_⟩
  refine ⟨ok_one ht rfl (okWide_bool_mk htb true), _, _, ([] ++ p) ++ q, ⟨[] ++ p, q, trodAll_append (hargs _ (fun _ _ => rfl)) (hres _ _ _), hvars _ (fun _ _ => rfl), rfl, ?_, ?_⟩, ?_⟩
  · intro b off hp
    have hin : MemPlace.cell b off ∈ before := by rw [hpq]; simpa using hp
    rw [hb.frozen (hlt _ hin)]
    exact hz b off hin
  · intro ha
    have := hn ha
    rw [hpq] at this
    simpa using this
  · intro x hx _
    rw [hpq]
    simpa using hx
end
end Go.Proofs.YtbppcpaodfjpkaaDoor
