/- Reading an atom's text: the mathematics. -/
import Derived.Test.YtjgmoledhkikcaaDoorPtX
import Derived.Test.YtjgmoledhkikcaaDoorTxE
import Derived.Test.YtjgmoledhkikcaaDoorStB
import Derived.Test.YtjgmoledhkikcaaDoorAtS
namespace Go.Proofs.YtjgmoledhkikcaaDoor
open Go.RowKit

/-- A text parted at the first of a byte. -/
def spC (c : UInt8) : List UInt8 → Option (List UInt8 × List UInt8)
  | [] => none
  | x :: r => if x = c then some ([], r) else (spC c r).map fun q => (x :: q.1, q.2)
theorem spC_of {c : UInt8} : ∀ {a b : List UInt8}, c ∉ a → spC c (a ++ c :: b) = some (a, b)
  | [], b, _ => by simp [spC]
  | x :: a, b, h => by
    simp only [List.mem_cons, not_or] at h
    rw [List.cons_append, spC, if_neg (fun e => h.1 e.symm), spC_of h.2]
    rfl
theorem spC_none {c : UInt8} : ∀ {s : List UInt8}, c ∉ s → spC c s = none
  | [], _ => rfl
  | x :: r, h => by
    simp only [List.mem_cons, not_or] at h
    rw [spC, if_neg (fun e => h.1 e.symm), spC_none h.2]
    rfl
theorem spC_some {c : UInt8} : ∀ {s a b : List UInt8}, spC c s = some (a, b) → s = a ++ c :: b ∧ c ∉ a
  | [], a, b, h => by cases h
  | x :: r, a, b, h => by
    rw [spC] at h
    split at h
    · rename_i e
      simp only [Option.some.injEq, Prod.mk.injEq] at h
      obtain ⟨rfl, rfl⟩ := h
      exact ⟨by rw [e]; rfl, by simp⟩
    · rename_i e
      cases hr : spC c r with
      | none => rw [hr] at h; cases h
      | some q =>
        rw [hr] at h
        simp only [Option.map_some, Option.some.injEq, Prod.mk.injEq] at h
        obtain ⟨rfl, rfl⟩ := h
        obtain ⟨h1, h2⟩ := spC_some (a := q.1) (b := q.2) hr
        refine ⟨by rw [h1]; rfl, ?_⟩
        simp only [List.mem_cons, not_or]
        exact ⟨fun e2 => e e2.symm, h2⟩
theorem spC_no {c : UInt8} {s : List UInt8} (h : spC c s = none) : c ∉ s := by
  intro hm
  obtain ⟨a, b, rfl⟩ := List.append_of_mem hm
  by_cases ha : c ∈ a
  · clear hm
    induction a with
    | nil => cases ha
    | cons x a ih =>
      rw [List.cons_append, spC] at h
      split at h
      · cases h
      · rename_i e
        have h' : spC c (a ++ c :: b) = none := by
          cases hq : spC c (a ++ c :: b) with
          | none => rfl
          | some q => rw [hq] at h; cases h
        rcases List.mem_cons.1 ha with g | g
        · exact e g.symm
        · exact ih h' g
  · rw [spC_of ha] at h; cases h
theorem idx_sp (c : UInt8) : ∀ s : List UInt8, Lib.indexByte s c = match spC c s with | none => -1 | some q => (q.1.length : Int)
  | [] => rfl
  | x :: r => by
    have ih := idx_sp c r
    rw [Lib.indexByte, spC]
    by_cases h : x = c
    · rw [if_pos h, if_pos (by simpa using h)]; rfl
    · rw [if_neg h, if_neg (by simpa using h)]
      cases hq : spC c r with
      | none => rw [hq] at ih; rw [ih]; rfl
      | some q =>
        rw [hq] at ih
        simp only at ih
        rw [ih, if_neg (by simp)]
        simp
theorem fnd_sp (c : UInt8) : ∀ (s : List UInt8) (k : Int), fndI c s k = match spC c s with | none => -1 | some q => k + q.1.length
  | [], _ => rfl
  | x :: r, k => by
    have ih := fnd_sp c r (k + 1)
    rw [fndI, spC]
    by_cases h : x = c
    · rw [if_pos h, if_pos h]; simp
    · rw [if_neg h, if_neg h, ih]
      cases hq : spC c r with
      | none => rfl
      | some q => show k + 1 + (q.1.length : Int) = k + ((q.1.length + 1 : Nat) : Int); omega

def okC (x : UInt8) : Bool := isD x || isS x || isL x
theorem okC_ne {x : UInt8} (h : okC x = true) : x ≠ 60 ∧ x ≠ 61 ∧ x ≠ 124 ∧ x ≠ 33 := by
  refine ⟨?_, ?_, ?_, ?_⟩ <;> (intro e; subst e; revert h; decide)
theorem ok_itoa (n : Int) : ∀ x ∈ Lib.itoa n, okC x = true := by
  intro x hx
  have hd := (dec_all n.natAbs).1
  unfold Lib.itoa at hx
  unfold okC
  split at hx
  · rcases List.mem_cons.1 hx with rfl | g
    · decide
    · rw [hd x g]; rfl
  · rw [show n.toNat = n.natAbs by omega] at hx
    rw [hd x hx]; rfl
theorem ok_mul (n : Int) (i : Nat) (hi : i ≤ 4) : ∀ x ∈ mulL n i, okC x = true := by
  intro x hx
  unfold mulL at hx
  split at hx
  · exact ok_itoa n x hx
  · rename_i h4
    rcases List.mem_append.1 hx with g | g
    · split at g
      · cases g
      · split at g
        · rw [List.mem_singleton.1 g]; decide
        · exact ok_itoa n x g
    · rw [List.mem_singleton.1 g]
      unfold okC
      rw [(let_L (show i ≤ 3 by omega)).1]; simp
theorem ok_ft (L : List Int) : ∀ k, k ≤ 5 → ∀ x ∈ ftL L k, okC x = true
  | 0, _, x, hx => by cases hx
  | k + 1, hk, x, hx => by
    rw [ftL] at hx
    split at hx
    · exact ok_ft L k (by omega) x hx
    · rcases List.mem_append.1 hx with g | g
      · split at g
        · rcases List.mem_append.1 g with g' | g'
          · exact ok_ft L k (by omega) x g'
          · rw [List.mem_singleton.1 g']; decide
        · exact ok_ft L k (by omega) x g
      · exact ok_mul _ k (by omega) x g
theorem ok_tf (a b c d n : Int) : ∀ x ∈ tfL a b c d n, okC x = true := by
  intro x hx
  unfold tfL at hx
  split at hx
  · split at hx
    · rw [List.mem_singleton.1 hx]; decide
    · exact ok_ft _ 5 (by omega) x hx
  · cases hx
theorem tf_ne {a b c d n : Int} (h : tvB a b c d n = true) : tfL a b c d n ≠ [] := by
  unfold tfL
  rw [if_pos h]
  split
  · simp
  · assumption

def txA (x : AtD) : List UInt8 := taL x.k x.m x.a x.b x.c x.d x.n
def vlA (x : AtD) : Bool := avB x.k x.m x.a x.b x.c x.d x.n
/-- A text of a valid atom. -/
def IsAx (s : List UInt8) (A : AtD) : Prop := vlA A = true ∧ txA A = s
def zA : AtD := ⟨0, 0, 0, 0, 0, 0, 0⟩
open Classical in
noncomputable def paT (s : List UInt8) : AtD × Bool := if h : ∃ A, IsAx s A then (Classical.choose h, true) else (zA, false)
/-- What has been read of a text decides. -/
theorem pa_read {s : List UInt8} {A : AtD} {ok : Bool} (h1 : ∀ B, IsAx s B → B = A ∧ ok = true) (h2 : s = [] → ok = true → vlA A = true) : paT s = if (ok && (txA A == s)) = true then (A, true) else (zA, false) := by
  by_cases hc : ok = true ∧ txA A = s
  · rw [if_pos (by rw [hc.1, hc.2]; simp)]
    have hv : vlA A = true := by
      cases hv : vlA A with
      | true => rfl
      | false =>
        have : txA A = [] := by unfold txA taL; rw [if_neg (by rw [show avB A.k A.m A.a A.b A.c A.d A.n = vlA A from rfl, hv]; decide)]
        rw [← hv]
        exact h2 (hc.2.symm.trans this) hc.1
    have hx : ∃ B, IsAx s B := ⟨A, hv, hc.2⟩
    unfold paT
    rw [dif_pos hx, (h1 _ (Classical.choose_spec hx)).1]
  · rw [if_neg (by intro h; rw [Bool.and_eq_true] at h; exact hc ⟨h.1, by simpa using h.2⟩)]
    unfold paT
    rw [dif_neg]
    rintro ⟨B, hB⟩
    obtain ⟨rfl, h⟩ := h1 B hB
    exact hc ⟨h, hB.2⟩

def atB (l : List UInt8) : Option Int := match Lib.atoiAll l with
  | .ok v => some v
  | _ => none
noncomputable def tmA (k m : Int) (l : List UInt8) : AtD := ⟨k, m, (ptT l).1.1, (ptT l).1.2.1, (ptT l).1.2.2.1, (ptT l).1.2.2.2.1, (ptT l).1.2.2.2.2⟩
/-- What the program reads. -/
noncomputable def rdI (s : List UInt8) : AtD × Bool :=
  if Lib.hasSuffix s [60, 61, 48] = true then (tmA 0 0 (Lib.trimSuffix s [60, 61, 48]), (ptT (Lib.trimSuffix s [60, 61, 48])).2)
  else if Lib.hasSuffix s [61, 48] = true then (tmA 1 0 (Lib.trimSuffix s [61, 48]), (ptT (Lib.trimSuffix s [61, 48])).2)
  else match spC 124 s with
    | some q => (tmA 2 ((atB q.1).getD 0) q.2, (ptT q.2).2 && (atB q.1).isSome)
    | none => match spC 33 s with
      | some q => (tmA 3 ((atB q.1).getD 0) q.2, (ptT q.2).2 && (atB q.1).isSome)
      | none => (tmA 3 ((atB s).getD 0) [], (ptT []).2 && (atB s).isSome)
/-- What the model reads. -/
noncomputable def rdS (s : List UInt8) : AtD :=
  match spC 124 s with
  | some q => tmA 2 (num17 q.1).1 q.2
  | none => match spC 33 s with
    | some q => tmA 3 (num17 q.1).1 q.2
    | none => if 3 < s.length ∧ s.drop (s.length - 3) = [60, 61, 48] then tmA 0 0 (s.take (s.length - 3)) else tmA 1 0 (s.take (s.length - 2))

theorem suf_yes (F p : List UInt8) : Lib.hasSuffix (F ++ p) p = true ∧ Lib.trimSuffix (F ++ p) p = F := by
  have h : Lib.hasSuffix (F ++ p) p = true := by unfold Lib.hasSuffix; rw [List.isSuffixOf_iff_suffix]; exact List.suffix_append _ _
  refine ⟨h, ?_⟩
  unfold Lib.trimSuffix
  rw [if_pos h]
  simp
theorem suf_no {s p : List UInt8} {x : UInt8} (hx : x ∈ p) (h : x ∉ s) : Lib.hasSuffix s p = false := by
  cases hq : Lib.hasSuffix s p with
  | false => rfl
  | true =>
    unfold Lib.hasSuffix at hq
    rw [List.isSuffixOf_iff_suffix] at hq
    exact absurd (hq.subset hx) h
theorem tm_of {k m a b c d n : Int} (h : tvB a b c d n = true) : tmA k m (tfL a b c d n) = ⟨k, m, a, b, c, d, n⟩ ∧ (ptT (tfL a b c d n)).2 = true := by
  have e : ptT (tfL a b c d n) = ((a, b, c, d, n), true) := pt_yes ⟨h, rfl⟩
  unfold tmA
  rw [e]
  exact ⟨rfl, rfl⟩
theorem at_itoa (m : Int) (h : -100000 ≤ m ∧ m ≤ 100000) : atB (Lib.itoa m) = some m := by
  obtain ⟨a1, _, a3⟩ := atoi_dec m.natAbs (by omega)
  unfold atB Lib.itoa
  by_cases hn : m < 0
  · rw [if_pos hn, a3]; simp only; congr 1; omega
  · rw [if_neg hn, show m.toNat = m.natAbs by omega, a1]; simp only; congr 1; omega
theorem rdI_ok {s : List UInt8} {A : AtD} (h : IsAx s A) : rdI s = (A, true) := by
  obtain ⟨k, m, a, b, c, d, n⟩ := A
  obtain ⟨hv, ht⟩ := h
  unfold vlA at hv
  unfold txA taL at ht
  simp only at hv ht
  rw [if_pos hv] at ht
  obtain ⟨hk, htv⟩ := avB_cases hv
  have hF := ok_tf a b c d n
  rcases hk with ⟨rfl, rfl⟩ | ⟨rfl, rfl⟩ | ⟨rfl, hm0, hm1⟩ | ⟨rfl, hm0, hm1⟩
  · rw [if_pos rfl] at ht
    subst ht
    obtain ⟨h1, h2⟩ := suf_yes (tfL a b c d n) [60, 61, 48]
    unfold rdI
    rw [if_pos h1, h2, (tm_of htv).1, (tm_of (k := 0) (m := 0) htv).2]
  · rw [if_neg (by decide), if_pos rfl] at ht
    subst ht
    have h0 : Lib.hasSuffix (tfL a b c d n ++ [61, 48]) [60, 61, 48] = false := suf_no (x := 60) (by simp) (fun hm => by
      rcases List.mem_append.1 hm with g | g
      · exact (okC_ne (hF 60 g)).1 rfl
      · revert g; decide)
    obtain ⟨h1, h2⟩ := suf_yes (tfL a b c d n) [61, 48]
    unfold rdI
    rw [h0, if_neg (by decide), if_pos h1, h2, (tm_of htv).1, (tm_of (k := 0) (m := 0) htv).2]
  · rw [if_neg (by decide), if_neg (by decide), if_pos rfl] at ht
    subst ht
    have hn61 : (61 : UInt8) ∉ Lib.itoa m ++ 124 :: tfL a b c d n := fun hm => by
      rcases List.mem_append.1 hm with g | g
      · exact (okC_ne (ok_itoa m 61 g)).2.1 rfl
      · rcases List.mem_cons.1 g with g | g
        · revert g; decide
        · exact (okC_ne (hF 61 g)).2.1 rfl
    unfold rdI
    rw [suf_no (x := 61) (by simp) hn61, suf_no (x := 61) (by simp) hn61, spC_of (fun hm => (okC_ne (ok_itoa m 124 hm)).2.2.1 rfl)]
    simp only [Bool.false_eq_true, if_false]
    rw [at_itoa m (by omega), Option.getD_some, (tm_of htv).1, (tm_of (k := 0) (m := 0) htv).2]
    rfl
  · rw [if_neg (by decide), if_neg (by decide), if_neg (by decide)] at ht
    subst ht
    have hn61 : (61 : UInt8) ∉ Lib.itoa m ++ 33 :: tfL a b c d n := fun hm => by
      rcases List.mem_append.1 hm with g | g
      · exact (okC_ne (ok_itoa m 61 g)).2.1 rfl
      · rcases List.mem_cons.1 g with g | g
        · revert g; decide
        · exact (okC_ne (hF 61 g)).2.1 rfl
    have hn124 : (124 : UInt8) ∉ Lib.itoa m ++ 33 :: tfL a b c d n := fun hm => by
      rcases List.mem_append.1 hm with g | g
      · exact (okC_ne (ok_itoa m 124 g)).2.2.1 rfl
      · rcases List.mem_cons.1 g with g | g
        · revert g; decide
        · exact (okC_ne (hF 124 g)).2.2.1 rfl
    unfold rdI
    rw [suf_no (x := 61) (by simp) hn61, suf_no (x := 61) (by simp) hn61, spC_none hn124, spC_of (fun hm => (okC_ne (ok_itoa m 33 hm)).2.2.2 rfl)]
    simp only [Bool.false_eq_true, if_false]
    rw [at_itoa m (by omega), Option.getD_some, (tm_of htv).1, (tm_of (k := 0) (m := 0) htv).2]
    rfl
theorem rdI_nil : (rdI []).2 = false := by
  unfold rdI
  rw [show Lib.hasSuffix ([] : List UInt8) [60, 61, 48] = false from rfl, show Lib.hasSuffix ([] : List UInt8) [61, 48] = false from rfl]
  simp only [Bool.false_eq_true, if_false, spC]
  rw [show atB ([] : List UInt8) = none from rfl]
  simp
theorem rdS_ok {s : List UInt8} {A : AtD} (h : IsAx s A) : rdS s = A := by
  obtain ⟨k, m, a, b, c, d, n⟩ := A
  obtain ⟨hv, ht⟩ := h
  unfold vlA at hv
  unfold txA taL at ht
  simp only at hv ht
  rw [if_pos hv] at ht
  obtain ⟨hk, htv⟩ := avB_cases hv
  have hF := ok_tf a b c d n
  have hFn := tf_ne htv
  rcases hk with ⟨rfl, rfl⟩ | ⟨rfl, rfl⟩ | ⟨rfl, hm0, hm1⟩ | ⟨rfl, hm0, hm1⟩
  · rw [if_pos rfl] at ht
    subst ht
    have hn : ∀ x : UInt8, x = 124 ∨ x = 33 → x ∉ tfL a b c d n ++ [60, 61, 48] := fun x hx hm => by
      rcases List.mem_append.1 hm with g | g
      · have := okC_ne (hF x g)
        rcases hx with rfl | rfl
        · exact this.2.2.1 rfl
        · exact this.2.2.2 rfl
      · rcases hx with rfl | rfl <;> (revert g; decide)
    have hl : (tfL a b c d n ++ [60, 61, 48]).length - 3 = (tfL a b c d n).length := by simp
    unfold rdS
    rw [spC_none (hn 124 (.inl rfl)), spC_none (hn 33 (.inr rfl))]
    simp only
    rw [hl, List.drop_left, List.take_left, if_pos ⟨by have := List.length_pos_iff.2 hFn; simp; omega, rfl⟩]
    exact (tm_of htv).1
  · rw [if_neg (by decide), if_pos rfl] at ht
    subst ht
    have hn : ∀ x : UInt8, x = 124 ∨ x = 33 ∨ x = 60 → x ∉ tfL a b c d n ++ [61, 48] := fun x hx hm => by
      rcases List.mem_append.1 hm with g | g
      · have := okC_ne (hF x g)
        rcases hx with rfl | rfl | rfl
        · exact this.2.2.1 rfl
        · exact this.2.2.2 rfl
        · exact this.1 rfl
      · rcases hx with rfl | rfl | rfl <;> (revert g; decide)
    have hl : (tfL a b c d n ++ [61, 48]).length - 2 = (tfL a b c d n).length := by simp
    unfold rdS
    rw [spC_none (hn 124 (.inl rfl)), spC_none (hn 33 (.inr (.inl rfl)))]
    simp only
    rw [hl, List.take_left, if_neg]
    · exact (tm_of htv).1
    · rintro ⟨_, hd⟩
      have : (60 : UInt8) ∈ (tfL a b c d n ++ [61, 48]).drop ((tfL a b c d n ++ [61, 48]).length - 3) := by rw [hd]; simp
      exact hn 60 (.inr (.inr rfl)) (List.mem_of_mem_drop this)
  · rw [if_neg (by decide), if_neg (by decide), if_pos rfl] at ht
    subst ht
    unfold rdS
    rw [spC_of (fun hm => (okC_ne (ok_itoa m 124 hm)).2.2.1 rfl)]
    simp only
    rw [num_itoa m (by omega)]
    exact (tm_of htv).1
  · rw [if_neg (by decide), if_neg (by decide), if_neg (by decide)] at ht
    subst ht
    have hn124 : (124 : UInt8) ∉ Lib.itoa m ++ 33 :: tfL a b c d n := fun hm => by
      rcases List.mem_append.1 hm with g | g
      · exact (okC_ne (ok_itoa m 124 g)).2.2.1 rfl
      · rcases List.mem_cons.1 g with g | g
        · revert g; decide
        · exact (okC_ne (hF 124 g)).2.2.1 rfl
    unfold rdS
    rw [spC_none hn124, spC_of (fun hm => (okC_ne (ok_itoa m 33 hm)).2.2.2 rfl)]
    simp only
    rw [num_itoa m (by omega)]
    exact (tm_of htv).1
theorem ptT_nil : ptT [] = ((0, 0, 0, 0, 0), false) := pt_no (fun ⟨_, hT⟩ => tf_ne hT.1 hT.2)
theorem rdS_nil : vlA (rdS []) = true := by
  unfold rdS
  simp only [spC, List.length_nil]
  rw [if_neg (by rintro ⟨h, _⟩; omega)]
  unfold tmA vlA
  rw [show ([] : List UInt8).take (0 - 2) = [] from rfl, ptT_nil]
  decide
/-- The answer of ParseAtom, by what is read. -/
theorem pa_I (s : List UInt8) : paT s = if ((rdI s).2 && (txA (rdI s).1 == s)) = true then ((rdI s).1, true) else (zA, false) :=
  pa_read (fun B hB => by have := rdI_ok hB; rw [this]; exact ⟨rfl, rfl⟩) (fun hs ho => by subst hs; rw [rdI_nil] at ho; cases ho)
theorem pa_S (s : List UInt8) : paT s = if (txA (rdS s) == s) = true then (rdS s, true) else (zA, false) := by
  have := pa_read (s := s) (A := rdS s) (ok := true) (fun B hB => ⟨(rdS_ok hB).symm, rfl⟩) (fun hs _ => by subst hs; exact rdS_nil)
  simpa using this
end Go.Proofs.YtjgmoledhkikcaaDoor
