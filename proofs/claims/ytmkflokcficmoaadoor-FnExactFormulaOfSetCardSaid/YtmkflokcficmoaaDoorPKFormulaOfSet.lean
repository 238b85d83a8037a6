/- Several texts in one: Lift Lift7 LdUtf PKFormulaOfSet. -/
import Derived.Test.YtmkflokcficmoaaDoorRows
import Derived.Test.YtmkflokcficmoaaDoorFs2
import Derived.Test.YtmkflokcficmoaaDoorTie
import Derived.Test.YtmkflokcficmoaaDoorCards
import Derived.ProofKit
import Derived.Carry
import Derived.Below
import Derived.ChangeSame
import Derived.Lib.SmallJoins
import Derived.Lay
import Derived.LaidMore
import Derived.LaidHandle
import Derived.OpenShut
import Derived.Stop.Joined
import Derived.Lib.LaidTab
import Derived.SevenTiedAt
import Derived.ChangeMaps5
import Derived.JoinedOf
import Derived.JoinedAt
import Derived.RowKit3

/- From a walk that ends true and leaves all that was there as it was, to the law's row: over any program. -/
namespace Go.Proofs.YtmkflokcficmoaaDoor
open Go.ChangeShapes Go.WideShapes Go.ChangeAt Go.RowKit Go.Joins Go.Deep

theorem Tryd.own : ownKnob Tryd.prog.godebug = none := by kernel_rfl
theorem Tryd.laidOut : laidOutB Tryd.prog = true := by kernel_rfl

section
variable {H : Type} {enc : TypeId × Value → H} {P : Program}

theorem trodAll_stays (hl : laidOutB P = true) {W W' : World} {sp : Nat → Bool} : ∀ (ts : List TypeId) (vs : List Value) (ds : List (DataW H)) (ps : List MemPlace), (∀ t ∈ ts, P.readableRec t = true ∧ t < P.types.size) →
    DataW.TrodAll enc P W 0 (fun _ => true) true ts vs ds ps → (∀ p ∈ ps, W.sameAt W' p) → (∀ p ∈ ps, sp p.block = true) → DataW.TrodAll enc P W' 0 sp true ts vs ds ps
  | [], _, _, _, _, h, _, _ => by
    obtain ⟨rfl, rfl, rfl⟩ := trodAll_nil h
    exact trodAll_mk0
  | t :: ts, _, _, _, hr, h, hs, hp => by
    obtain ⟨v, vs, d, ds, p, q, rfl, rfl, rfl, h1, h2⟩ := trodAll_cons h
    exact ⟨p, q, WideElems.Trod_stays hl (hr t (by simp)).1 (hr t (by simp)).2 h1 (fun x hx => hs x (by simp [hx])) (fun x hx => hp x (by simp [hx])),
      trodAll_stays hl ts vs ds q (fun x hx => hr x (by simp [hx])) h2 (fun x hx => hs x (by simp [hx])) (fun x hx => hp x (by simp [hx])), rfl⟩

theorem law_post {f : Func} {s : ChangeSpec} {apart fresh handsOn again : Bool} {W W' : World} {args : Array Value} {ds : List (DataW H)} {before : List MemPlace} {tb : TypeId}
    (hl : laidOutB P = true) (hr0 : f.params.toList.all (fun t => P.readableRec t && decide (t < P.types.size)) = true) (hv : s.vars = []) (ht : f.resultTypes = #[tb]) (htb : P.underlying tb = some .bool)
    (hW : DataW.Whole enc P f.params.toList s.vars apart W args.toList ds [] before)
    (hf : s.fn H (ds ++ []) = { results := [.lit (.bool true)], args := ds }) (hb : Below W.heap.size W W') :
    s.post enc P f apart fresh handsOn again W args (.bool true) W' := by
  have hr : ∀ t ∈ f.params.toList, P.readableRec t = true ∧ t < P.types.size := fun t ht => by simpa using List.all_eq_true.1 hr0 t ht
  have hlt : ∀ p ∈ before, p.block < W.heap.size := fun p hp => hW.lt p hp
  have hold : ∀ p ∈ before, (fun b => decide (b < W.heap.size)) p.block = true := fun p hp => by simpa using hlt p hp
  have hW0 := hW
  obtain ⟨p, q, hA, hV, hpq, hz, hn⟩ := hW
  rw [hv] at hV
  have hq : q = [] := by simpa [DataW.TrodVars] using hV
  subst hq
  have hpp : before = p := by simpa using hpq
  subst hpp
  have hvars : ∀ sp : Nat → Bool, DataW.TrodVars enc P W' sp s.vars (s.fn H (ds ++ [])).vars [] := fun sp => by rw [hv, hf]; rfl
  have hres : ∀ (b : Nat) (sp : Nat → Bool) (hd : Bool), DataW.TrodAll enc P W' b sp hd f.resultTypes.toList ((Value.bool true).resultList f.resultTypes.size) (s.fn H (ds ++ [])).results [] := fun b sp hd => by
    rw [hf, ht]; exact trodAll_mk1 (shut_bool htb true)
  have hargs : ∀ sp : Nat → Bool, (∀ p ∈ before, sp p.block = true) → DataW.TrodAll enc P W' 0 sp true f.params.toList args.toList (s.fn H (ds ++ [])).args before := fun sp hsp => by
    rw [hf]; exact trodAll_stays hl _ _ _ _ hr hA (fun x hx => hb.same (hlt x hx)) hsp
  refine ⟨ds, [], before, [], before, [], hW0, hres _ _ _, hargs _ hold, hvars _, World.keptBut_mono (fun p hp => ⟨hp, Or.inr (Or.inl hp)⟩) (hb.frame (· ∈ before)), fun _ => ?_⟩
  refine ⟨ok_one ht rfl (okWide_bool_mk htb true), _, _, ([] ++ before) ++ [], ⟨[] ++ before, [], trodAll_append (hargs _ (fun _ _ => rfl)) (hres _ _ _), hvars _, rfl, ?_, ?_⟩, ?_⟩
  · intro b off hp
    have hin : MemPlace.cell b off ∈ before := by simpa using hp
    rw [hb.frozen (hlt _ hin)]
    exact hz b off hin
  · intro ha
    simpa using hn ha
  · intro p hp _
    simpa using hp
end

section
variable {H : Type} {enc : TypeId × Value → H} {P : Program} {w : World} {base : Nat} {spare : Nat → Bool} {held : Bool}
/-- A struct of ints by value, of whatever number of fields: its value is a row of ints. -/
theorem open_ints_agg {r : Reach} {b0 : Nat} {t ti : TypeId} {fs : Array Field} {v : Value} {d : DataW H} {p : List MemPlace} (hs : P.underlying t = some (.struct fs)) (hone : oneCellFields P fs = true) (hC : P.cellsOf t = fs.size)
    (hti : P.underlying ti = some (.int .i64)) (hall0 : fs.toList.all (fun f => f.type == ti) = true)
    (hv : Value.okWide P w r b0 t v) (h : DataW.Trod enc P w base spare held t v d p) :
    ∃ xs : List Int, xs.length = fs.size ∧ v = .agg (xs.map (Value.int .i64)).toArray ∧ (∀ x ∈ xs, -9223372036854775808 ≤ x ∧ x ≤ 9223372036854775807) := by
  have hall : ∀ f ∈ fs.toList, f.type = ti := fun f hf => by simpa using List.all_eq_true.1 hall0 f hf
  obtain ⟨cs, rfl, hsz⟩ := okWide_struct hs hv
  obtain ⟨fuel, hf⟩ := h
  obtain ⟨ys, n, _, hx, _, hlen, hg⟩ := DataW.trod_struct hs hf
  have key : ∀ j (hj : j < fs.size), ∃ x : Int, cs[j]? = some (.int .i64 x) ∧ -9223372036854775808 ≤ x ∧ x ≤ 9223372036854775807 := by
    intro j hj
    have hfj : fs[j]? = some (fs[j]) := Array.getElem?_eq_getElem hj
    obtain ⟨ho, hk⟩ := hone_of hone j fs[j] hfj
    have h1 := hg j fs[j] hfj
    rw [ho, hk] at h1
    have hjc : j < cs.size := by omega
    have hcl : (Value.agg cs).cells.toList = cs.toList := rfl
    have hone' : ((Value.agg cs).cells.toList.drop j).take 1 = [cs[j]] := by
      rw [hcl, List.drop_eq_getElem_cons (by simpa using hjc)]
      rfl
    rw [hone'] at h1
    have hty : fs[j].type = ti := hall _ (by simp)
    rw [hty] at h1
    cases hy : ys[j]? with
    | none => have := List.getElem?_eq_none_iff.1 hy; omega
    | some y =>
      rw [hy] at h1
      obtain ⟨x, e0, _, wx⟩ := DataW.trod_int hti h1
      refine ⟨x, ?_, bounds_i64 wx⟩
      rw [Array.getElem?_eq_getElem hjc]
      simpa using e0
  let g : Nat → Int := fun j => match cs[j]? with | some (.int .i64 x) => x | _ => 0
  refine ⟨(List.range fs.size).map g, by simp, ?_, ?_⟩
  · congr 1
    apply Array.ext
    · simp; omega
    · intro j h1 h2
      obtain ⟨x, hx, _⟩ := key j (by simpa using h2)
      have e1 : cs[j] = .int .i64 x := by rw [Array.getElem?_eq_getElem h1] at hx; simpa using hx
      simp [g, hx, e1]
  · intro x hx
    simp only [List.mem_map, List.mem_range] at hx
    obtain ⟨j, hj, rfl⟩ := hx
    obtain ⟨x, hx, hb⟩ := key j hj
    simpa [g, hx] using hb
end
theorem len5 {l : List Int} (h : l.length = 5) : ∃ a b c d n, l = [a, b, c, d, n] := by
  match l, h with
  | [a, b, c, d, n], _ => exact ⟨a, b, c, d, n, rfl⟩
theorem len4 {l : List Int} (h : l.length = 4) : ∃ a b c d, l = [a, b, c, d] := by
  match l, h with
  | [a, b, c, d], _ => exact ⟨a, b, c, d, rfl⟩
end Go.Proofs.YtmkflokcficmoaaDoor

/- From an argument that is a struct of strings (a set) to its strings. -/
namespace Go.Proofs.YtmkflokcficmoaaDoor
open Go.ChangeShapes Go.WideShapes Go.ChangeAt Go.RowKit Go.Joins Go.Deep

section
variable {H : Type} {enc : TypeId × Value → H} {P : Program} {w : World} {base : Nat} {spare : Nat → Bool} {held : Bool}
/-- A struct of strings by value, of whatever number of fields: its value is a row of strings. -/
theorem open_strs_agg {r : Reach} {b0 : Nat} {t ti : TypeId} {fs : Array Field} {v : Value} {d : DataW H} {p : List MemPlace} (hs : P.underlying t = some (.struct fs)) (hone : oneCellFields P fs = true) (hC : P.cellsOf t = fs.size)
    (hti : P.underlying ti = some .string) (hall0 : fs.toList.all (fun f => f.type == ti) = true)
    (hv : Value.okWide P w r b0 t v) (h : DataW.Trod enc P w base spare held t v d p) :
    ∃ xs : List ByteArray, xs.length = fs.size ∧ v = .agg (xs.map Value.string).toArray ∧ (∀ x ∈ xs, x.size ≤ maxLen) := by
  have hall : ∀ f ∈ fs.toList, f.type = ti := fun f hf => by simpa using List.all_eq_true.1 hall0 f hf
  obtain ⟨cs, rfl, hsz⟩ := okWide_struct hs hv
  obtain ⟨fuel, hf⟩ := h
  obtain ⟨ys, n, _, hx, _, hlen, hg⟩ := DataW.trod_struct hs hf
  have key : ∀ j (hj : j < fs.size), ∃ x : ByteArray, cs[j]? = some (.string x) ∧ x.size ≤ maxLen := by
    intro j hj
    have hfj : fs[j]? = some (fs[j]) := Array.getElem?_eq_getElem hj
    obtain ⟨ho, hk⟩ := hone_of hone j fs[j] hfj
    have h1 := hg j fs[j] hfj
    rw [ho, hk] at h1
    have hjc : j < cs.size := by omega
    have hcl : (Value.agg cs).cells.toList = cs.toList := rfl
    have hone' : ((Value.agg cs).cells.toList.drop j).take 1 = [cs[j]] := by
      rw [hcl, List.drop_eq_getElem_cons (by simpa using hjc)]
      rfl
    rw [hone'] at h1
    have hty : fs[j].type = ti := hall _ (by simp)
    rw [hty] at h1
    cases hy : ys[j]? with
    | none => have := List.getElem?_eq_none_iff.1 hy; omega
    | some y =>
      rw [hy] at h1
      obtain ⟨x, e0, _, wx⟩ := DataW.trod_string hti h1
      refine ⟨x, ?_, wx⟩
      rw [Array.getElem?_eq_getElem hjc]
      simpa using e0
  let g : Nat → ByteArray := fun j => match cs[j]? with | some (.string x) => x | _ => ByteArray.empty
  refine ⟨(List.range fs.size).map g, by simp, ?_, ?_⟩
  · congr 1
    apply Array.ext
    · simp; omega
    · intro j h1 h2
      obtain ⟨x, hx, _⟩ := key j (by simpa using h2)
      have e1 : cs[j] = .string x := by rw [Array.getElem?_eq_getElem h1] at hx; simpa using hx
      simp [g, hx, e1]
  · intro x hx
    simp only [List.mem_map, List.mem_range] at hx
    obtain ⟨j, hj, rfl⟩ := hx
    obtain ⟨x, hx, hb⟩ := key j hj
    simpa [g, hx] using hb
theorem len2s {xs : List ByteArray} (h : xs.length = 2) : ∃ a b, (Value.agg (xs.map Value.string).toArray) = .agg #[.string a, .string b] ∧ xs = [a, b] := by
  match xs, h with
  | [a, b], _ => exact ⟨a, b, rfl, rfl⟩
end

end Go.Proofs.YtmkflokcficmoaaDoor

/- What the rows list of the library's tables: the door's own heap meets it. -/
namespace Go.Proofs.YtmkflokcficmoaaDoor
open Go.ChangeShapes Go.WideShapes Go.ChangeAt Go.RowKit Go.Joins

def laid2 : List (String × DataW Unit) := [("unicode/utf8.acceptRanges", Rows.laid_unicode_utf8_acceptRanges), ("unicode/utf8.first", Rows.laid_unicode_utf8_first)]
end Go.Proofs.YtmkflokcficmoaaDoor

/- FormulaOfSet answers as its model does, for all arguments (the law FnExactFormulaOfSet returns true and leaves its arguments as they were): the row and its tied card. Condition: the tables of unicode/utf8 that the row lists start as the program lays them, which the card ties to its text. -/
namespace Go.Proofs.YtmkflokcficmoaaDoor
open Go.ChangeShapes Go.WideShapes Go.ChangeAt Go.RowKit Go.Joins

set_option maxRecDepth 100000 in
theorem fnExactFormulaOfSet_lifted (os : Os) (started : os.Started) (H : Type) (enc : TypeId × Value → H) :
    ReturnsInHanded {} Tryd.checked os 3 .any (fun w args => (Rows.fnExactFormulaOfSetSpec.pre enc Tryd.prog Tryd.f3 [] false w args ∧ laidMetH Tryd.prog laid2 w) ∧ sizedMet enc Tryd.prog Tryd.f3 (OpenSpec.ofChange Rows.fnExactFormulaOfSetSpec) false w args)
      (Rows.fnExactFormulaOfSetSpec.post enc Tryd.prog Tryd.f3 false true false false) := by
  refine returnsInHanded_of_change_and (C := Tryd.checked) (X := fun w _ => laidMetH Tryd.prog laid2 w) (fun _ _ _ hh h => h.of_heap hh) Tryd.own started (by kernel_rfl) Tryd.func3
    (ChangeSpec.witness_shaped (enc := enc) (C := Tryd.checked) (os := os) (X := fun w _ => laidMetH Tryd.prog laid2 w) false (World.laidAll Tryd.prog os laid2) #[.agg #[.string ⟨#[]⟩, .string ⟨#[]⟩], .int .i64 0] 8 (World.laidAll_os _ _ _) (World.shaped_of_ZipB (by kernel_rfl) (by kernel_rfl)) (by kernel_rfl) (by kernel_rfl) (by kernel_rfl)
      (by rw [MakeChecks.laidMetH_plain _ _ _ (by kernel_rfl)]; exact laidMet_laidAll _ (by kernel_rfl) (by kernel_rfl))) ?_
  intro W base args ds gs before hval0 hW _ _ _ _
  have hval : ∀ (j : Nat) t v, Tryd.f3.params[j]? = some t → args[j]? = some v → Value.okWide Tryd.prog W .any base t v := hval0
  have hW' := hW
  obtain ⟨p, q, hA0, hV, rfl, _, _⟩ := hW
  have hA : DataW.TrodAll enc Tryd.prog W 0 (fun _ => true) true Tryd.f3.params.toList args.toList ds p := hA0
  rw [Tryd.params3] at hA hval
  obtain ⟨v0, v1, d0, d1, p0, p1, rfl, rfl, rfl, h0, h1⟩ := trodAll_two hA
  obtain ⟨rfl, rfl⟩ := trodVars_none hV
  obtain ⟨xs0, hl0, rfl, hb0⟩ := open_strs_agg Tryd.underlying23 (by kernel_rfl) (by kernel_rfl) Tryd.underlying9 (by kernel_rfl) (hval 0 23 v0 rfl rfl) h0
  obtain ⟨a0, b0, e0, rfl⟩ := len2s hl0
  rw [e0]
  obtain ⟨a0, rfl⟩ := bs_of a0
  obtain ⟨b0, rfl⟩ := bs_of b0
  have ha0 : a0.length ≤ 9223372036854775807 := by have := hb0 _ (List.mem_cons_self ..); rw [bs_size] at this; unfold maxLen at this; omega
  have hb0 : b0.length ≤ 9223372036854775807 := by have := hb0 _ (List.mem_cons_of_mem _ (List.mem_cons_self ..)); rw [bs_size] at this; unfold maxLen at this; omega
  obtain ⟨i1, rfl, rfl, rfl, r1⟩ := open_int Tryd.underlying3 (hval 1 3 v1 rfl rfl) h1
  clear hA0 hval0
  refine (exactFormulaOfSet_walk a0 b0 i1 W ha0 hb0 (bounds_i64 r1).1 (bounds_i64 r1).2).mono fun e W' ⟨he, hb⟩ => ⟨_, he, ?_⟩
  exact law_post Tryd.laidOut (by kernel_rfl) rfl rfl Tryd.underlying4 hW' rfl hb

theorem fnExactFormulaOfSet_holds : Rows.FnExactFormulaOfSetSaid :=
  OpenClaim.holds_of_wide 3 Tryd.f3 rfl rfl rfl rfl rfl rfl rfl ⟨rfl, rfl, rfl, rfl, rfl⟩ rfl rfl rfl rfl rfl (by kernel_rfl) Tryd.func3 (by kernel_rfl)
    (of_decide_eq_true (by kernel_rfl)) (by unfold Func.isWrapper; rw [if_neg (by decide +kernel)]; exact ⟨rfl, rfl⟩)
    (fun os started H enc _ => fnExactFormulaOfSet_lifted os started H enc)

theorem fnExactFormulaOfSet_card : Rows.FnExactFormulaOfSetCardSaid :=
  Claim7.holds_tied_plain_at .later [] [.data, .pinned] true Rows.fnExactFormulaOfSetCard.stood.harness Rows.fnExactFormulaOfSetCard.stood.looks
    fnExactFormulaOfSet_holds (fun _ h => by cases h) (by kernel_rfl) (fun _ h => by cases h) fnExactFormulaOfSet_row_tie rfl ⟨rfl, rfl⟩ (by kernel_rfl) rfl
    (fun f fn hf hfn => by
      obtain rfl : f = 3 := Option.some.inj ((show Tryd.prog.funcNamed "loop.example/presburger/laws.FnExactFormulaOfSet" = some 3 by kernel_rfl).symm.trans hf) |>.symm
      obtain rfl : fn = Tryd.f3 := (Option.some.inj (Tryd.func3.symm.trans hfn)).symm
      exact ⟨by kernel_rfl, fun j t ht => by
        rw [Tryd.params3] at ht
        have hm : t ∈ [23, 3] := by simpa using Array.mem_of_getElem? ht
        have hall : ([23, 3].all fun u => !Tryd.prog.wantsStandIn u) = true := by kernel_rfl
        exact (show Tryd.prog.wantsStandIn t = false by simpa using List.all_eq_true.1 hall t hm)⟩)
    (by kernel_rfl)

end Go.Proofs.YtmkflokcficmoaaDoor
