/- Reading a term's text, the model: the mathematics. A text is divided before its signs; each part is a variable's number and its coefficient. -/
import Derived.Test.YtjgmoledhkikcaaDoorPtB
namespace Go.Proofs.YtjgmoledhkikcaaDoor
open Go.RowKit

/-- A canonical numeral of at most 17 digits. -/
def nmN (l : List UInt8) : Bool := l.head? == some 45
def nmD (l : List UInt8) : List UInt8 := if nmN l = true then l.tail else l
def nmBad (l : List UInt8) : Bool := decide ((nmD l).length = 0) || decide (17 < (nmD l).length) || ((nmD l).head? == some 48 && (decide (1 < (nmD l).length) || nmN l))
def num17 (l : List UInt8) : Int × Bool := if nmBad l = true then (0, false) else match Lib.decFrom 0 (nmD l) with
  | none => (0, false)
  | some u => (if nmN l = true then -(u : Int) else u, true)
theorem num_itoa (n : Int) (h : -100000 ≤ n ∧ n ≤ 100000) : num17 (Lib.itoa n) = (n, true) := by
  obtain ⟨d1, d2, d3, d4⟩ := dec_all n.natAbs
  have hl := dec_len n.natAbs (by omega)
  have hpos : 0 < (Lib.decDigits n.natAbs).length := List.length_pos_iff.2 d3
  unfold Lib.itoa
  by_cases hn : n < 0
  · rw [if_pos hn]
    have hN : nmN (45 :: Lib.decDigits n.natAbs) = true := rfl
    have hD : nmD (45 :: Lib.decDigits n.natAbs) = Lib.decDigits n.natAbs := by unfold nmD; rw [if_pos hN]; rfl
    have hh : ((Lib.decDigits n.natAbs).head? == some 48) = false := by
      cases hd : (Lib.decDigits n.natAbs).head? with
      | none => rfl
      | some x => have := d4 (by omega) x hd; simpa using this
    unfold num17
    have hB : nmBad (45 :: Lib.decDigits n.natAbs) = false := by
      unfold nmBad
      rw [hD, hh, decide_eq_false (by omega), decide_eq_false (by omega)]; rfl
    rw [hB, hD, d2, hN]
    simp
    omega
  · rw [if_neg hn, show n.toNat = n.natAbs by omega]
    have hN : nmN (Lib.decDigits n.natAbs) = false := by
      unfold nmN
      cases hd : Lib.decDigits n.natAbs with
      | nil => exact absurd hd d3
      | cons x r =>
        have := (isD_ns (d1 x (by rw [hd]; simp))).2.2.2
        have hx : x ≠ 45 := fun e => this (by rw [e]; rfl)
        simpa using hx
    have hD : nmD (Lib.decDigits n.natAbs) = Lib.decDigits n.natAbs := by unfold nmD; rw [hN]; rfl
    have hB : nmBad (Lib.decDigits n.natAbs) = false := by
      unfold nmBad
      rw [hD, hN, decide_eq_false (by omega), decide_eq_false (by omega)]
      by_cases h0 : n.natAbs = 0
      · rw [h0, Lib.decDigits, dif_pos (by omega)]; rfl
      · have hh : ((Lib.decDigits n.natAbs).head? == some 48) = false := by
          cases hd : (Lib.decDigits n.natAbs).head? with
          | none => rfl
          | some x => have := d4 (by omega) x hd; simpa using this
        rw [hh]; rfl
    unfold num17
    rw [hB, hD, d2, hN]
    simp
    omega

/-- A part of a term's text. -/
def p1S (s : List UInt8) : List UInt8 := if 1 < s.length ∧ s.head? = some 43 then s.tail else s
def p1L (s : List UInt8) : Nat × Int :=
  match s.getLast? with
  | none => (4, 0)
  | some x => if isL x = true then (x.toNat - 97, (if s.dropLast = [] then 1 else if s.dropLast = [45] then -1 else (num17 s.dropLast).1)) else (4, (num17 s).1)
def p1 (s : List UInt8) : Nat × Int := p1L (p1S s)
theorem p1_lt (s : List UInt8) : (p1 s).1 < 5 := by
  unfold p1 p1L
  split
  · decide
  · split
    · rename_i x _ h
      unfold isL at h
      rw [Bool.and_eq_true, decide_eq_true_eq, decide_eq_true_eq] at h
      show x.toNat - 97 < 5
      omega
    · show (4 : Nat) < 5; omega
theorem itoa_ns (n : Int) (h : -100000 ≤ n ∧ n ≤ 100000) : Lib.itoa n ≠ [] ∧ (∀ x, (Lib.itoa n).head? = some x → x ≠ 43) ∧ (∀ x, (Lib.itoa n).getLast? = some x → isD x = true) ∧ (∀ x ∈ (Lib.itoa n).tail, isS x = false) ∧ Lib.itoa n ≠ [45] := by
  obtain ⟨d1, d2, d3, d4⟩ := dec_all n.natAbs
  unfold Lib.itoa
  by_cases hn : n < 0
  · rw [if_pos hn]
    refine ⟨by simp, fun x hx => by simp only [List.head?_cons, Option.some.injEq] at hx; rw [← hx]; decide, fun x hx => ?_, fun x hx => (isD_ns (d1 x hx)).1, by simpa using d3⟩
    rw [List.getLast?_cons_of_ne_nil d3] at hx
    exact d1 x (List.mem_of_getLast? hx)
  · rw [if_neg hn, show n.toNat = n.natAbs by omega]
    refine ⟨d3, fun x hx => ?_, fun x hx => d1 x (List.mem_of_getLast? hx), fun x hx => (isD_ns (d1 x (List.mem_of_mem_tail hx))).1, fun e => ?_⟩
    · have := (isD_ns (d1 x (List.mem_of_head? hx))).2.2.1
      exact fun e => this (by rw [e]; rfl)
    · have := (isD_ns (d1 45 (by rw [e]; simp))).2.2.2
      exact this rfl
theorem p1_last (B : List UInt8) (c : UInt8) (h : isL c = true) : p1L (B ++ [c]) = (c.toNat - 97, (if B = [] then 1 else if B = [45] then -1 else (num17 B).1)) := by
  unfold p1L
  rw [List.getLast?_concat, List.dropLast_concat]
  simp only [h, if_true]
/-- A multiple's part. -/
theorem p1_mul (pre : List UInt8) (n : Int) (i : Nat) (hi : i ≤ 4) (hb : -10000 ≤ n ∧ n ≤ 10000) (hp : pre = [] ∨ (pre = [43] ∧ 0 < n)) : p1 (pre ++ mulL n i) = (i, n) ∧ (∀ x ∈ (pre ++ mulL n i).tail, isS x = false) := by
  obtain ⟨t1, t2, t3, t4, t5⟩ := itoa_ns n (by omega)
  have hnum := num_itoa n (by omega)
  have hne := mul_ne n i
  -- the text without its plus
  have hcore : p1L (mulL n i) = (i, n) ∧ (∀ x, (mulL n i).head? = some x → x ≠ 43) ∧ (∀ x ∈ (mulL n i).tail, isS x = false) ∧ (0 < n → ∀ x ∈ mulL n i, isS x = false) := by
    unfold mulL
    by_cases h4 : i = 4
    · rw [if_pos h4, h4]
      refine ⟨?_, t2, t4, fun hn x hx => ?_⟩
      · unfold p1L
        cases hl : (Lib.itoa n).getLast? with
        | none => exact absurd (List.getLast?_eq_none_iff.1 hl) t1
        | some x =>
          simp only
          rw [(isD_ns (t3 x hl)).2.1, hnum]
          rfl
      · have hd := (dec_all n.natAbs).1
        unfold Lib.itoa at hx
        rw [if_neg (by omega), show n.toNat = n.natAbs by omega] at hx
        exact (isD_ns (hd x hx)).1
    · rw [if_neg h4]
      obtain ⟨l1, l2, l3⟩ := let_L (show i ≤ 3 by omega)
      have hcv : (UInt8.ofNat (97 + i)).toNat - 97 = i := by rw [UInt8.toNat_ofNat']; omega
      have hc43 : UInt8.ofNat (97 + i) ≠ 43 := fun e => by rw [e] at l1; revert l1; decide
      obtain ⟨c, hc⟩ : ∃ c, UInt8.ofNat (97 + i) = c := ⟨_, rfl⟩
      rw [hc] at l1 l2 l3 hcv hc43 ⊢
      by_cases h1 : n = 1
      · subst h1
        rw [if_pos rfl]
        refine ⟨by rw [p1_last _ _ l1, hcv]; rfl, fun x hx => ?_, fun x hx => by simp at hx, fun _ x hx => ?_⟩
        · simp at hx; rw [← hx]; exact hc43
        · simp at hx; rw [hx]; exact l3
      · rw [if_neg h1]
        by_cases h2 : n = -1
        · subst h2
          rw [if_pos rfl]
          refine ⟨by rw [p1_last _ _ l1, hcv]; rfl, fun x hx => ?_, fun x hx => ?_, fun h => by omega⟩
          · simp at hx; rw [← hx]; decide
          · simp at hx; rw [hx]; exact l3
        · rw [if_neg h2]
          refine ⟨by rw [p1_last _ _ l1, hcv, if_neg t1, if_neg t5, hnum], fun x hx => ?_, fun x hx => ?_, fun hn x hx => ?_⟩
          · cases hi2 : Lib.itoa n with
            | nil => exact absurd hi2 t1
            | cons y r => rw [hi2] at hx t2; exact t2 x (by simpa using hx)
          · rw [List.tail_append_of_ne_nil t1] at hx
            rcases List.mem_append.1 hx with g | g
            · exact t4 x g
            · rw [List.mem_singleton.1 g]; exact l3
          · rcases List.mem_append.1 hx with g | g
            · have hd := (dec_all n.natAbs).1
              unfold Lib.itoa at g
              rw [if_neg (by omega), show n.toNat = n.natAbs by omega] at g
              exact (isD_ns (hd x g)).1
            · rw [List.mem_singleton.1 g]; exact l3
  obtain ⟨k1, k2, k3, k4⟩ := hcore
  rcases hp with rfl | ⟨rfl, hn⟩
  · rw [List.nil_append]
    refine ⟨?_, k3⟩
    unfold p1 p1S
    rw [if_neg (fun h => k2 43 h.2 rfl)]
    exact k1
  · refine ⟨?_, fun x hx => k4 hn x (by simpa using hx)⟩
    unfold p1 p1S
    rw [if_pos ⟨by have := List.length_pos_iff.2 hne; simp; omega, rfl⟩]
    exact k1

/-- Parts, each with a sign at its start alone; each but the first one has one there. -/
def GdP (p : List UInt8) : Prop := p ≠ [] ∧ ∀ x ∈ p.tail, isS x = false
def GdL (P : List (List UInt8)) : Prop := (∀ p ∈ P, GdP p) ∧ ∀ p ∈ P.tail, ∃ x r, p = x :: r ∧ isS x = true
def nsg (x : UInt8) : Bool := !isS x
theorem tw_ns {D R : List UInt8} (hD : ∀ x ∈ D, isS x = false) (hR : sgT R) : (D ++ R).takeWhile nsg = D := by
  induction D with
  | nil =>
    cases R with
    | nil => rfl
    | cons y R => rw [List.nil_append, List.takeWhile_cons, show nsg y = false by unfold nsg; rw [hR y rfl]; rfl]; rfl
  | cons x D ih =>
    rw [List.cons_append, List.takeWhile_cons, show nsg x = true by unfold nsg; rw [hD x (List.mem_cons_self ..)]; rfl]
    simp only [if_true]
    rw [ih (fun y hy => hD y (List.mem_cons_of_mem _ hy))]
theorem gd_sg {P : List (List UInt8)} (h : ∀ p ∈ P, ∃ x r, p = x :: r ∧ isS x = true) : sgT P.flatten := by
  intro x hx
  cases P with
  | nil => cases hx
  | cons p P =>
    obtain ⟨y, r, rfl, hy⟩ := h p (List.mem_cons_self ..)
    simp only [List.flatten_cons, List.cons_append, List.head?_cons, Option.some.injEq] at hx
    rw [← hx]; exact hy
theorem gd_tail {p : List UInt8} {P : List (List UInt8)} (h : GdL (p :: P)) : GdL P ∧ (∀ p ∈ P, ∃ x r, p = x :: r ∧ isS x = true) :=
  ⟨⟨fun q hq => h.1 q (List.mem_cons_of_mem _ hq), fun q hq => h.2 q (List.mem_of_mem_tail hq)⟩, h.2⟩
/-- A text is divided in one way. -/
theorem gd_one : ∀ {P Q : List (List UInt8)}, GdL P → GdL Q → P.flatten = Q.flatten → P = Q
  | [], [], _, _, _ => rfl
  | [], q :: Q, _, hQ, h => by
    exfalso
    have := (hQ.1 q (List.mem_cons_self ..)).1
    simp only [List.flatten_nil, List.flatten_cons] at h
    exact this (List.append_eq_nil_iff.1 h.symm).1
  | p :: P, [], hP, _, h => by
    exfalso
    have := (hP.1 p (List.mem_cons_self ..)).1
    simp only [List.flatten_nil, List.flatten_cons] at h
    exact this (List.append_eq_nil_iff.1 h).1
  | p :: P, q :: Q, hP, hQ, h => by
    obtain ⟨gP, sP⟩ := gd_tail hP
    obtain ⟨gQ, sQ⟩ := gd_tail hQ
    have hp := hP.1 p (List.mem_cons_self ..)
    have hq := hQ.1 q (List.mem_cons_self ..)
    cases p with
    | nil => exact absurd rfl hp.1
    | cons a p =>
      cases q with
      | nil => exact absurd rfl hq.1
      | cons b q =>
        simp only [List.flatten_cons, List.cons_append, List.cons.injEq] at h
        obtain ⟨rfl, h⟩ := h
        have e1 := tw_ns hp.2 (gd_sg sP)
        have e2 := tw_ns hq.2 (gd_sg sQ)
        simp only [List.tail_cons] at e1 e2
        rw [h, e2] at e1
        subst e1
        have h' := List.append_cancel_left h
        rw [gd_one gP gQ h']

/-- The parts of a term's text. -/
def sgL (L : List Int) : Nat → List (List UInt8)
  | 0 => []
  | k + 1 => if L.getD k 0 = 0 then sgL L k else sgL L k ++ [(if 0 < L.getD k 0 ∧ ftL L k ≠ [] then [43] else []) ++ mulL (L.getD k 0) k]
theorem sg_flat (L : List Int) : ∀ k, (sgL L k).flatten = ftL L k
  | 0 => rfl
  | k + 1 => by
    rw [sgL, ftL]
    split
    · exact sg_flat L k
    · rw [List.flatten_append, sg_flat L k, List.flatten_singleton]
      split
      · rw [List.append_assoc]
      · rw [List.nil_append]
theorem gd_snoc {P : List (List UInt8)} {p : List UInt8} (h : GdL P) (hp : GdP p) (hs : P ≠ [] → ∃ x r, p = x :: r ∧ isS x = true) : GdL (P ++ [p]) := by
  refine ⟨fun q hq => ?_, fun q hq => ?_⟩
  · rcases List.mem_append.1 hq with g | g
    · exact h.1 q g
    · rw [List.mem_singleton.1 g]; exact hp
  · cases P with
    | nil => simp at hq
    | cons a P =>
      rw [List.tail_append_of_ne_nil (by simp)] at hq
      rcases List.mem_append.1 hq with g | g
      · exact h.2 q g
      · rw [List.mem_singleton.1 g]; exact hs (by simp)
theorem mul_head {n : Int} {i : Nat} (h : n < 0) : ∃ r, mulL n i = 45 :: r := by
  unfold mulL
  have hit : Lib.itoa n = 45 :: Lib.decDigits n.natAbs := by unfold Lib.itoa; rw [if_pos h]
  split
  · exact ⟨_, hit⟩
  · rw [if_neg (by omega)]
    split
    · exact ⟨_, rfl⟩
    · rw [hit]; exact ⟨_, rfl⟩
theorem sg_gd {L : List Int} (hb : ∀ k, -10000 ≤ L.getD k 0 ∧ L.getD k 0 ≤ 10000) : ∀ k, k ≤ 5 → GdL (sgL L k)
  | 0, _ => ⟨fun _ h => (by cases h), fun _ h => (by cases h)⟩
  | k + 1, hk => by
    unfold sgL
    split
    · exact sg_gd hb k (by omega)
    · rename_i h0
      have hp : ∀ b : Prop, [Decidable b] → (b → 0 < L.getD k 0) → ((if b then [43] else [] : List UInt8) = [] ∨ ((if b then [43] else [] : List UInt8) = [43] ∧ 0 < L.getD k 0)) := fun b _ hb => by
        by_cases h : b
        · rw [if_pos h]; exact .inr ⟨rfl, hb h⟩
        · rw [if_neg h]; exact .inl rfl
      have hm := p1_mul _ (L.getD k 0) k (by omega) (hb k) (hp (0 < L.getD k 0 ∧ ftL L k ≠ []) And.left)
      refine gd_snoc (sg_gd hb k (by omega)) ⟨fun e => mul_ne _ _ (List.append_eq_nil_iff.1 e).2, hm.2⟩ (fun hn => ?_)
      have hf : ftL L k ≠ [] := fun e => by
        rw [← sg_flat] at e
        cases hs : sgL L k with
        | nil => exact hn hs
        | cons p P =>
          rw [hs] at e
          have := (sg_gd hb k (by omega)).1 p (by rw [hs]; simp)
          exact this.1 (List.append_eq_nil_iff.1 e).1
      by_cases hpos : 0 < L.getD k 0
      · rw [if_pos ⟨hpos, hf⟩]; exact ⟨43, _, rfl, rfl⟩
      · rw [if_neg (fun h => hpos h.1)]
        obtain ⟨r, hr⟩ := mul_head (n := L.getD k 0) (i := k) (by omega)
        rw [hr]; exact ⟨45, r, rfl, rfl⟩

/-- What the parts give. -/
def fdL (P : List (List UInt8)) : List Int := P.foldl (fun L p => L.set (p1 p).1 (p1 p).2) [0, 0, 0, 0, 0]
theorem fd_snoc (P : List (List UInt8)) (p : List UInt8) : fdL (P ++ [p]) = (fdL P).set (p1 p).1 (p1 p).2 := by simp [fdL]
theorem fd_len (P : List (List UInt8)) : (fdL P).length = 5 := by
  suffices ∀ L : List Int, L.length = 5 → (P.foldl (fun L p => L.set (p1 p).1 (p1 p).2) L).length = 5 from this _ rfl
  induction P with
  | nil => intro L h; exact h
  | cons p P ih => intro L h; exact ih _ (by simpa using h)
theorem fd_sg {L : List Int} (hb : ∀ k, -10000 ≤ L.getD k 0 ∧ L.getD k 0 ≤ 10000) : ∀ k, k ≤ 5 → ∀ i, i < 5 → (fdL (sgL L k)).getD i 0 = if i < k then L.getD i 0 else 0
  | 0, _, i, hi => by
    rw [if_neg (by omega)]
    have hi' : i = 0 ∨ i = 1 ∨ i = 2 ∨ i = 3 ∨ i = 4 := by omega
    rcases hi' with rfl | rfl | rfl | rfl | rfl <;> rfl
  | k + 1, hk, i, hi => by
    have ih := fd_sg hb k (by omega) i hi
    unfold sgL
    split
    · rename_i h0
      rw [ih]
      by_cases hik : i = k
      · subst hik; rw [if_neg (by omega), if_pos (by omega), h0]
      · by_cases hlt : i < k
        · rw [if_pos hlt, if_pos (by omega)]
        · rw [if_neg hlt, if_neg (by omega)]
    · rename_i h0
      have hp : ∀ b : Prop, [Decidable b] → (b → 0 < L.getD k 0) → ((if b then [43] else [] : List UInt8) = [] ∨ ((if b then [43] else [] : List UInt8) = [43] ∧ 0 < L.getD k 0)) := fun b _ hb => by
        by_cases h : b
        · rw [if_pos h]; exact .inr ⟨rfl, hb h⟩
        · rw [if_neg h]; exact .inl rfl
      have hm := (p1_mul _ (L.getD k 0) k (by omega) (hb k) (hp (0 < L.getD k 0 ∧ ftL L k ≠ []) And.left)).1
      rw [fd_snoc, hm]
      simp only [List.getD_eq_getElem?_getD, List.getElem?_set] at ih ⊢
      by_cases hik : k = i
      · subst hik; rw [if_pos rfl, if_pos (by rw [fd_len]; exact hi), if_pos (by omega)]; rfl
      · rw [if_neg hik, ih]
        by_cases hlt : i < k
        · rw [if_pos hlt, if_pos (by omega)]
        · rw [if_neg hlt, if_neg (by omega)]

theorem ft_nil {L : List Int} : ∀ k, ftL L k = [] → ∀ i, i < k → L.getD i 0 = 0
  | 0, _, i, hi => by omega
  | k + 1, h, i, hi => by
    by_cases hz : L.getD k 0 = 0
    · rw [ft_zero hz] at h
      by_cases hik : i = k
      · rw [hik]; exact hz
      · exact ft_nil k h i (by omega)
    · exfalso
      rw [ftL, if_neg hz] at h
      exact mul_ne _ _ (List.append_eq_nil_iff.1 h).2
def tp5 (L : List Int) : Int × Int × Int × Int × Int := (L.getD 0 0, L.getD 1 0, L.getD 2 0, L.getD 3 0, L.getD 4 0)
/-- What the model reads of a text decides. -/
theorem pt_parts {s : List UInt8} {P : List (List UInt8)} (hP : GdL P) (hf : P.flatten = s) :
    ptT s = if (tfL (tp5 (fdL P)).1 (tp5 (fdL P)).2.1 (tp5 (fdL P)).2.2.1 (tp5 (fdL P)).2.2.2.1 (tp5 (fdL P)).2.2.2.2 == s) = true then (tp5 (fdL P), true) else ((0, 0, 0, 0, 0), false) := by
  have key : ∀ T, IsTx s T → T = tp5 (fdL P) := by
    rintro ⟨a, b, c, d, n⟩ ⟨hv, ht⟩
    simp only at hv ht
    unfold tfL at ht
    rw [if_pos hv] at ht
    split at ht
    · rename_i h0
      have hz := ft_nil 5 h0
      have hP1 : P = [[48]] := gd_one hP ⟨fun p hp => by rw [List.mem_singleton.1 hp]; exact ⟨by simp, fun x hx => by cases hx⟩, fun p hp => by cases hp⟩ (by rw [hf, ← ht]; rfl)
      subst hP1
      have h1 : p1 [48] = (4, 0) := by decide +kernel
      have e0 := hz 0 (by omega)
      have e1 := hz 1 (by omega)
      have e2 := hz 2 (by omega)
      have e3 := hz 3 (by omega)
      have e4 := hz 4 (by omega)
      simp only [List.getD_eq_getElem?_getD, List.getElem?_cons_zero, List.getElem?_cons_succ, Option.getD_some] at e0 e1 e2 e3 e4
      subst e0 e1 e2 e3 e4
      simp [tp5, fdL, h1]
    · have hP1 : P = sgL [a, b, c, d, n] 5 := gd_one hP (sg_gd (ft_bd hv) 5 (Nat.le_refl _)) (by rw [hf, sg_flat, ht])
      subst hP1
      have h := fd_sg (ft_bd hv) 5 (Nat.le_refl _)
      unfold tp5
      rw [h 0 (by omega), h 1 (by omega), h 2 (by omega), h 3 (by omega), h 4 (by omega)]
      rfl
  by_cases hs : tfL (tp5 (fdL P)).1 (tp5 (fdL P)).2.1 (tp5 (fdL P)).2.2.1 (tp5 (fdL P)).2.2.2.1 (tp5 (fdL P)).2.2.2.2 = s
  · rw [if_pos (by simpa using hs)]
    refine pt_yes ⟨?_, hs⟩
    cases htv : tvB (tp5 (fdL P)).1 (tp5 (fdL P)).2.1 (tp5 (fdL P)).2.2.1 (tp5 (fdL P)).2.2.2.1 (tp5 (fdL P)).2.2.2.2 with
    | true => rfl
    | false =>
      exfalso
      unfold tfL at hs
      rw [htv] at hs
      have h0 : P = [] := by
        cases P with
        | nil => rfl
        | cons p P =>
          exfalso
          rw [← hf] at hs
          exact (hP.1 p (List.mem_cons_self ..)).1 (List.append_eq_nil_iff.1 (by simpa using hs.symm : p ++ P.flatten = [])).1
      subst h0
      revert htv
      decide
  · rw [if_neg (by simpa using hs)]
    exact pt_no (fun ⟨T, hT⟩ => hs (by rw [← key T hT]; exact hT.2))
end Go.Proofs.YtjgmoledhkikcaaDoor
