/- Reading a term's text: the mathematics. The program reads one multiple after another; what it reads of a term's text is the term. -/
import Derived.Test.YtjgmoledhkikcaaDoorTxB
import Derived.Lib.AtoiAll
import Derived.Lib.AtoiAllCases
import Derived.Lib.AtoiTie
namespace Go.Proofs.YtjgmoledhkikcaaDoor
open Go.RowKit

def isD (x : UInt8) : Bool := decide (48 ≤ x.toNat) && decide (x.toNat ≤ 57)
def isL (x : UInt8) : Bool := decide (97 ≤ x.toNat) && decide (x.toNat ≤ 100)
def isS (x : UInt8) : Bool := x == 43 || x == 45

theorem dg_dig {i : Nat} (h : i < 10) : isD (UInt8.ofNat (48 + i)) = true ∧ Lib.digitVal (UInt8.ofNat (48 + i)) = some i := by
  have e : (UInt8.ofNat (48 + i)).toNat = 48 + i := by rw [UInt8.toNat_ofNat']; omega
  refine ⟨?_, ?_⟩
  · unfold isD; rw [e, decide_eq_true (by omega), decide_eq_true (by omega)]; rfl
  · unfold Lib.digitVal; rw [e, if_pos (by omega)]; congr 1; omega
theorem decFrom_snoc (b : UInt8) (d : Nat) (hb : Lib.digitVal b = some d) : ∀ (l : List UInt8) (acc n : Nat), Lib.decFrom acc l = some n → Lib.decFrom acc (l ++ [b]) = some (n * 10 + d)
  | [], acc, n, h => by simp only [Lib.decFrom, Option.some.injEq] at h; subst h; simp [Lib.decFrom, hb]
  | a :: r, acc, n, h => by
    simp only [Lib.decFrom, List.cons_append] at h ⊢
    cases ha : Lib.digitVal a with
    | none => simp [ha] at h
    | some e => simp only [ha] at h ⊢; exact decFrom_snoc b d hb r _ n h
theorem dec_all (u : Nat) : (∀ x ∈ Lib.decDigits u, isD x = true) ∧ Lib.decFrom 0 (Lib.decDigits u) = some u ∧ Lib.decDigits u ≠ [] ∧ (0 < u → ∀ x, (Lib.decDigits u).head? = some x → x ≠ 48) := by
  induction u using Nat.strongRecOn with
  | _ u ih =>
    rw [Lib.decDigits]
    split
    · rename_i h
      obtain ⟨h1, h2⟩ := dg_dig h
      refine ⟨fun x hx => by rw [List.mem_singleton.1 hx]; exact h1, ?_, by simp, fun hu x hx => ?_⟩
      · rw [Lib.decFrom, h2]; simp [Lib.decFrom]
      · simp only [List.head?_cons, Option.some.injEq] at hx
        subst hx
        intro e
        have := congrArg UInt8.toNat e
        rw [UInt8.toNat_ofNat'] at this
        have : (48 : UInt8).toNat = 48 := rfl
        omega
    · rename_i h
      obtain ⟨i1, i2, i3, i4⟩ := ih (u / 10) (by omega)
      obtain ⟨h1, h2⟩ := dg_dig (show u % 10 < 10 by omega)
      refine ⟨fun x hx => ?_, ?_, by simp, fun _ x hx => ?_⟩
      · rcases List.mem_append.1 hx with g | g
        · exact i1 x g
        · rw [List.mem_singleton.1 g]; exact h1
      · rw [decFrom_snoc _ _ h2 _ _ _ i2]; congr 1; omega
      · cases hd : Lib.decDigits (u / 10) with
        | nil => exact absurd hd i3
        | cons y r =>
          rw [hd] at hx i4
          exact i4 (by omega) x (by simpa using hx)
theorem dec_len (u : Nat) (h : u ≤ 100000) : (Lib.decDigits u).length ≤ 6 := by
  rw [Lib.decDigits]; split
  · simp
  rw [Lib.decDigits]; split
  · simp
  rw [Lib.decDigits]; split
  · simp
  rw [Lib.decDigits]; split
  · simp
  rw [Lib.decDigits]; split
  · simp
  rw [Lib.decDigits]; split
  · simp
  · omega

theorem isD_ns {x : UInt8} (h : isD x = true) : isS x = false ∧ isL x = false ∧ x.toNat ≠ 43 ∧ x.toNat ≠ 45 := by
  unfold isD at h
  rw [Bool.and_eq_true, decide_eq_true_eq, decide_eq_true_eq] at h
  have h3 : x.toNat ≠ 43 := by omega
  have h4 : x.toNat ≠ 45 := by omega
  refine ⟨?_, ?_, h3, h4⟩
  · unfold isS
    have e1 : (x == 43) = false := beq_false_of_ne (fun e => h3 (by rw [e]; rfl))
    have e2 : (x == 45) = false := beq_false_of_ne (fun e => h4 (by rw [e]; rfl))
    rw [e1, e2]; rfl
  · unfold isL; rw [decide_eq_false (by omega)]; rfl

/-- The numeral of a row of digits, behind a sign. -/
theorem atoi_dec (u : Nat) (h : u ≤ 100000) : Lib.atoiAll (Lib.decDigits u) = .ok (u : Int) ∧ Lib.atoiAll (43 :: Lib.decDigits u) = .ok (u : Int) ∧ Lib.atoiAll (45 :: Lib.decDigits u) = .ok (-(u : Int)) := by
  obtain ⟨h1, h2, h3, _⟩ := dec_all u
  have hl := dec_len u h
  have hn : Lib.decNat (Lib.decDigits u) = some u := by
    unfold Lib.decNat
    cases hd : Lib.decDigits u with
    | nil => exact absurd hd h3
    | cons y r => rw [hd] at h2; simp [h2]
  refine ⟨?_, ?_, ?_⟩
  · rw [Lib.atoiAll_short _ (by omega)]
    cases hd : Lib.decDigits u with
    | nil => exact absurd hd h3
    | cons y r =>
      obtain ⟨_, _, g3, g4⟩ := isD_ns (h1 y (by rw [hd]; simp))
      have e1 : (y == 45) = false := beq_false_of_ne (fun e => g4 (by rw [e]; rfl))
      have e2 : (y == 43) = false := beq_false_of_ne (fun e => g3 (by rw [e]; rfl))
      rw [hd] at hn
      simp [Lib.atoi, e1, e2, hn, Lib.NumEnd.ofOption]
  · rw [Lib.atoiAll_short _ (by simp; omega)]
    simp [Lib.atoi, hn, Lib.NumEnd.ofOption]
  · rw [Lib.atoiAll_short _ (by simp; omega)]
    simp [Lib.atoi, hn, Lib.NumEnd.ofOption]

/-- Where the digits of a text end, behind a sign. -/
def fstS (l : List UInt8) : Nat := match l with
  | [] => 0
  | c :: _ => if isS c = true then 1 else 0
def endS (l : List UInt8) : Nat := fstS l + ((l.drop (fstS l)).takeWhile isD).length
/-- The letter, the number's text and the rest of the multiple at the start of a text. -/
def cutR (l : List UInt8) : UInt8 × List UInt8 × List UInt8 :=
  match l.drop (endS l) with
  | [] => (0, l.take (endS l), [])
  | x :: r => if isL x = true then (x, (if endS l = fstS l then l.take (endS l) ++ [49] else l.take (endS l)), r) else (0, l.take (endS l), x :: r)
def cutM (l : List UInt8) : Option (UInt8 × Int × List UInt8) :=
  match Lib.atoiAll (cutR l).2.1 with
  | .ok n => some ((cutR l).1, n, (cutR l).2.2)
  | _ => none

def updM (m : UInt8 → Int) (c : UInt8) (n : Int) : UInt8 → Int := fun x => if x = c then n else m x
abbrev St := List UInt8 × (UInt8 → Int)
def stepM (a : St) : Option St := match a.1 with
  | [] => none
  | _ :: _ => (cutM a.1).map fun q => (q.2.2, updM a.2 q.1 q.2.1)
inductive Reach : St → St → Prop where
  | refl (a : St) : Reach a a
  | step {a b c : St} (h : stepM a = some b) (k : Reach b c) : Reach a c
theorem Reach.trans {a b c : St} (h : Reach a b) (k : Reach b c) : Reach a c := by
  induction h with
  | refl _ => exact k
  | step h _ ih => exact .step h (ih k)
theorem Reach.snoc {a b c : St} (h : Reach a b) (k : stepM b = some c) : Reach a c := h.trans (.step k (.refl _))
theorem Reach.det {a b c : St} (h : Reach a b) (k : Reach a c) (hb : stepM b = none) : Reach c b := by
  induction h with
  | refl a =>
    cases k with
    | refl _ => exact .refl _
    | step h' _ => rw [hb] at h'; cases h'
  | step h1 h2 ih =>
    cases k with
    | refl _ => exact .step h1 h2
    | step h' k' =>
      rw [h1] at h'
      obtain rfl := Option.some.inj h'
      exact ih k' hb
theorem Reach.stuck {a b : St} (h : Reach a b) (ha : stepM a = none) : a = b := by
  cases h with
  | refl _ => rfl
  | step h' _ => rw [ha] at h'; cases h'

theorem tw_dig {D R : List UInt8} (hD : ∀ x ∈ D, isD x = true) (hR : ∀ x, R.head? = some x → isD x = false) : (D ++ R).takeWhile isD = D := by
  induction D with
  | nil =>
    cases R with
    | nil => rfl
    | cons y R => rw [List.nil_append, List.takeWhile_cons, hR y rfl]; rfl
  | cons x D ih =>
    rw [List.cons_append, List.takeWhile_cons, hD x (List.mem_cons_self ..)]
    simp only [if_true]
    rw [ih (fun y hy => hD y (List.mem_cons_of_mem _ hy))]

/-- A sign or none, digits, and what is no digit. -/
theorem cut_form (pre D R : List UInt8) (hp : pre = [] ∨ pre = [43] ∨ pre = [45]) (hD : ∀ x ∈ D, isD x = true) (hR : ∀ x, R.head? = some x → isD x = false) (h0 : pre = [] → D = [] → ∀ x, R.head? = some x → isS x = false) :
    fstS (pre ++ (D ++ R)) = pre.length ∧ endS (pre ++ (D ++ R)) = pre.length + D.length := by
  have hf : fstS (pre ++ (D ++ R)) = pre.length := by
    rcases hp with rfl | rfl | rfl
    · rw [List.nil_append]
      cases D with
      | nil =>
        rw [List.nil_append]
        cases R with
        | nil => rfl
        | cons y R => show (if isS y = true then 1 else 0) = 0; rw [h0 rfl rfl y rfl]; rfl
      | cons y D => show (if isS y = true then 1 else 0) = 0; rw [(isD_ns (hD y (List.mem_cons_self ..))).1]; rfl
    · rfl
    · rfl
  refine ⟨hf, ?_⟩
  unfold endS
  rw [hf, List.drop_left, tw_dig hD hR]

def letS (i : Nat) : UInt8 := if i = 4 then 0 else UInt8.ofNat (97 + i)
theorem let_L {i : Nat} (h : i ≤ 3) : isL (UInt8.ofNat (97 + i)) = true ∧ isD (UInt8.ofNat (97 + i)) = false ∧ isS (UInt8.ofNat (97 + i)) = false := by
  have h' : i = 0 ∨ i = 1 ∨ i = 2 ∨ i = 3 := by omega
  rcases h' with rfl | rfl | rfl | rfl <;> decide
theorem isS_nd {x : UInt8} (h : isS x = true) : isD x = false ∧ isL x = false := by
  unfold isS at h
  rw [Bool.or_eq_true, beq_iff_eq, beq_iff_eq] at h
  rcases h with rfl | rfl <;> decide

/-- A tail that begins with a sign, or is empty. -/
def sgT (t : List UInt8) : Prop := ∀ x, t.head? = some x → isS x = true
theorem sgT_nd {t : List UInt8} (h : sgT t) : ∀ x, t.head? = some x → isD x = false := fun x hx => (isS_nd (h x hx)).1

theorem cut_num (pre D t : List UInt8) (n : Int) (hp : pre = [] ∨ pre = [43] ∨ pre = [45]) (hD : ∀ x ∈ D, isD x = true) (hDn : D ≠ []) (ht : sgT t) (ha : Lib.atoiAll (pre ++ D) = .ok n) :
    cutM (pre ++ (D ++ t)) = some (0, n, t) := by
  obtain ⟨h1, h2⟩ := cut_form pre D t hp hD (sgT_nd ht) (fun _ e => absurd e hDn)
  have hc : cutR (pre ++ (D ++ t)) = (0, pre ++ D, t) := by
    unfold cutR
    rw [h2, ← List.append_assoc, show pre.length + D.length = (pre ++ D).length by simp, List.drop_left, List.take_left]
    cases t with
    | nil => rfl
    | cons x r => simp only; rw [(isS_nd (ht x rfl)).2]; rfl
  unfold cutM
  rw [hc]
  simp only [ha]
theorem cut_let (pre D t : List UInt8) (c : UInt8) (n : Int) (hp : pre = [] ∨ pre = [43] ∨ pre = [45]) (hD : ∀ x ∈ D, isD x = true) (hc : isL c = true ∧ isD c = false ∧ isS c = false) (ha : Lib.atoiAll (if D = [] then pre ++ [49] else pre ++ D) = .ok n) :
    cutM (pre ++ (D ++ c :: t)) = some (c, n, t) := by
  obtain ⟨h1, h2⟩ := cut_form pre D (c :: t) hp hD (fun x hx => by simp only [List.head?_cons, Option.some.injEq] at hx; rw [← hx]; exact hc.2.1) (fun _ _ x hx => by simp only [List.head?_cons, Option.some.injEq] at hx; rw [← hx]; exact hc.2.2)
  have hcc : cutR (pre ++ (D ++ c :: t)) = (c, (if D = [] then pre ++ [49] else pre ++ D), t) := by
    unfold cutR
    rw [h1, h2, ← List.append_assoc, show pre.length + D.length = (pre ++ D).length by simp, List.drop_left, List.take_left]
    simp only [hc.1, if_true]
    by_cases hd : D = []
    · subst hd; simp
    · rw [if_neg hd, if_neg]
      have := List.length_pos_iff.2 hd
      simp only [List.length_append]
      omega
  unfold cutM
  rw [hcc]
  simp only [ha]

/-- One multiple is read. -/
theorem cut_mul (pre t : List UInt8) (n : Int) (i : Nat) (hi : i ≤ 4) (hn : n ≠ 0) (hb : -10000 ≤ n ∧ n ≤ 10000) (hp : pre = [] ∨ (pre = [43] ∧ 0 < n)) (ht : sgT t) : cutM (pre ++ (mulL n i ++ t)) = some (letS i, n, t) := by
  obtain ⟨a1, a2, a3⟩ := atoi_dec n.natAbs (by omega)
  obtain ⟨d1, _, d3, _⟩ := dec_all n.natAbs
  have hit : Lib.itoa n = if n < 0 then 45 :: Lib.decDigits n.natAbs else Lib.decDigits n.natAbs := by
    unfold Lib.itoa
    split
    · rfl
    · rw [show n.toNat = n.natAbs by omega]
  have hone : Lib.atoiAll [49] = .ok 1 ∧ Lib.atoiAll [43, 49] = .ok 1 ∧ Lib.atoiAll [45, 49] = .ok (-1) := by decide +kernel
  unfold mulL letS
  by_cases h4 : i = 4
  · rw [if_pos h4, if_pos h4, hit]
    by_cases hneg : n < 0
    · rw [if_pos hneg]
      have hpe : pre = [] := by rcases hp with h | ⟨_, h⟩; exact h; omega
      subst hpe
      have := cut_num [45] (Lib.decDigits n.natAbs) t n (.inr (.inr rfl)) d1 d3 ht (by rw [show [45] ++ Lib.decDigits n.natAbs = 45 :: Lib.decDigits n.natAbs from rfl, a3]; congr 1; omega)
      simpa using this
    · rw [if_neg hneg]
      rcases hp with rfl | ⟨rfl, _⟩
      · exact cut_num [] _ t n (.inl rfl) d1 d3 ht (by rw [List.nil_append, a1]; congr 1; omega)
      · exact cut_num [43] _ t n (.inr (.inl rfl)) d1 d3 ht (by rw [show [43] ++ Lib.decDigits n.natAbs = 43 :: Lib.decDigits n.natAbs from rfl, a2]; congr 1; omega)
  · rw [if_neg h4, if_neg h4]
    have hc := let_L (show i ≤ 3 by omega)
    obtain ⟨c, hcc⟩ : ∃ c, UInt8.ofNat (97 + i) = c := ⟨_, rfl⟩
    rw [hcc] at hc ⊢
    by_cases h1 : n = 1
    · subst h1
      rw [if_pos rfl]
      rcases hp with rfl | ⟨rfl, _⟩
      · exact cut_let [] [] t c 1 (.inl rfl) (by simp) hc (by rw [if_pos rfl]; exact hone.1)
      · exact cut_let [43] [] t c 1 (.inr (.inl rfl)) (by simp) hc (by rw [if_pos rfl]; exact hone.2.1)
    · rw [if_neg h1]
      by_cases h2 : n = -1
      · subst h2
        rw [if_pos rfl]
        have hpe : pre = [] := by rcases hp with h | ⟨_, h⟩; exact h; omega
        subst hpe
        exact cut_let [45] [] t c (-1) (.inr (.inr rfl)) (by simp) hc (by rw [if_pos rfl]; exact hone.2.2)
      · rw [if_neg h2, hit]
        by_cases hneg : n < 0
        · rw [if_pos hneg]
          have hpe : pre = [] := by rcases hp with h | ⟨_, h⟩; exact h; omega
          subst hpe
          have := cut_let [45] (Lib.decDigits n.natAbs) t c n (.inr (.inr rfl)) d1 hc (by rw [if_neg d3, show [45] ++ Lib.decDigits n.natAbs = 45 :: Lib.decDigits n.natAbs from rfl, a3]; congr 1; omega)
          simpa using this
        · rw [if_neg hneg]
          rcases hp with rfl | ⟨rfl, _⟩
          · have := cut_let [] (Lib.decDigits n.natAbs) t c n (.inl rfl) d1 hc (by rw [if_neg d3, List.nil_append, a1]; congr 1; omega)
            simpa using this
          · have := cut_let [43] (Lib.decDigits n.natAbs) t c n (.inr (.inl rfl)) d1 hc (by rw [if_neg d3, show [43] ++ Lib.decDigits n.natAbs = 43 :: Lib.decDigits n.natAbs from rfl, a2]; congr 1; omega)
            simpa using this

/-- What has been read of a term's first multiples. -/
def upL (L : List Int) : Nat → (UInt8 → Int)
  | 0 => fun _ => 0
  | k + 1 => if L.getD k 0 = 0 then upL L k else updM (upL L k) (letS k) (L.getD k 0)
theorem mul_sg {n : Int} {i : Nat} (h : n < 0) (t : List UInt8) : sgT (mulL n i ++ t) := by
  intro x hx
  have : ∃ r, mulL n i = 45 :: r := by
    unfold mulL
    have hit : Lib.itoa n = 45 :: Lib.decDigits n.natAbs := by unfold Lib.itoa; rw [if_pos h]
    split
    · exact ⟨_, hit⟩
    · rw [if_neg (by omega)]
      split
      · exact ⟨_, rfl⟩
      · rw [hit]; exact ⟨_, rfl⟩
  obtain ⟨r, hr⟩ := this
  rw [hr] at hx
  simp only [List.cons_append, List.head?_cons, Option.some.injEq] at hx
  rw [← hx]
  rfl
theorem read_ft {L : List Int} (hb : ∀ k, -10000 ≤ L.getD k 0 ∧ L.getD k 0 ≤ 10000) : ∀ (k : Nat), k ≤ 5 → ∀ t : List UInt8, (sgT t ∨ ftL L k = []) → Reach (ftL L k ++ t, fun _ => 0) (t, upL L k)
  | 0, _, t, _ => .refl _
  | k + 1, hk, t, ht => by
    by_cases h0 : L.getD k 0 = 0
    · rw [ft_zero h0] at ht ⊢
      have e : upL L (k + 1) = upL L k := by rw [upL, if_pos h0]
      rw [e]
      exact read_ft hb k (by omega) t ht
    · have e : upL L (k + 1) = updM (upL L k) (letS k) (L.getD k 0) := by rw [upL, if_neg h0]
      rw [e]
      have hne := mul_ne (L.getD k 0) k
      have ht' : sgT t := by
        rcases ht with h | h
        · exact h
        · exfalso
          rw [ftL, if_neg h0] at h
          exact hne (List.append_eq_nil_iff.1 h).2
      have key : ∀ pre : List UInt8, (pre = [] ∨ (pre = [43] ∧ 0 < L.getD k 0)) → stepM (pre ++ (mulL (L.getD k 0) k ++ t), upL L k) = some (t, updM (upL L k) (letS k) (L.getD k 0)) := by
        intro pre hp
        have hc := cut_mul pre t _ k (by omega) h0 (hb k) hp ht'
        unfold stepM
        cases hl : pre ++ (mulL (L.getD k 0) k ++ t) with
        | nil =>
          have := (List.append_eq_nil_iff.1 (List.append_eq_nil_iff.1 hl).2).1
          exact absurd this hne
        | cons x r => rw [hl] at hc; simp only [hc, Option.map_some]
      by_cases hpos : 0 < L.getD k 0 ∧ ftL L k ≠ []
      · rw [ft_plus hpos.1 hpos.2]
        have h1 := read_ft hb k (by omega) ([43] ++ (mulL (L.getD k 0) k ++ t)) (.inl (fun x hx => by simp only [List.cons_append, List.head?_cons, Option.some.injEq] at hx; rw [← hx]; rfl))
        have e2 : (ftL L k ++ [43]) ++ mulL (L.getD k 0) k ++ t = ftL L k ++ ([43] ++ (mulL (L.getD k 0) k ++ t)) := by simp
        rw [e2]
        exact h1.snoc (key [43] (.inr ⟨rfl, hpos.1⟩))
      · have e2 : ftL L (k + 1) ++ t = ftL L k ++ ([] ++ (mulL (L.getD k 0) k ++ t)) := by rw [ftL, if_neg h0, if_neg hpos]; simp
        rw [e2]
        refine (read_ft hb k (by omega) _ ?_).snoc (key [] (.inl rfl))
        by_cases hf : ftL L k = []
        · exact .inr hf
        · left
          rw [List.nil_append]
          exact mul_sg (by have : ¬ 0 < L.getD k 0 := fun h => hpos ⟨h, hf⟩; omega) t

theorem let_inj : ∀ i j : Fin 5, letS i.1 = letS j.1 → i = j := by decide
theorem up_val (L : List Int) : ∀ k, k ≤ 5 → (∀ i, i < k → upL L k (letS i) = L.getD i 0) ∧ (∀ i, k ≤ i → i ≤ 4 → upL L k (letS i) = 0)
  | 0, _ => ⟨fun i hi => by omega, fun _ _ _ => rfl⟩
  | k + 1, hk => by
    obtain ⟨h1, h2⟩ := up_val L k (by omega)
    by_cases h0 : L.getD k 0 = 0
    · have e : upL L (k + 1) = upL L k := by rw [upL, if_pos h0]
      rw [e]
      refine ⟨fun i hi => ?_, fun i hi hi4 => h2 i (by omega) hi4⟩
      by_cases hik : i = k
      · subst hik; rw [h2 i (Nat.le_refl _) (by omega), h0]
      · exact h1 i (by omega)
    · have e : upL L (k + 1) = updM (upL L k) (letS k) (L.getD k 0) := by rw [upL, if_neg h0]
      rw [e]
      refine ⟨fun i hi => ?_, fun i hi hi4 => ?_⟩
      · unfold updM
        by_cases hik : i = k
        · subst hik; rw [if_pos rfl]
        · rw [if_neg (fun he => hik (by have := let_inj ⟨i, by omega⟩ ⟨k, by omega⟩ he; exact congrArg Fin.val this))]
          exact h1 i (by omega)
      · unfold updM
        rw [if_neg (fun he => by have := let_inj ⟨i, by omega⟩ ⟨k, by omega⟩ he; have := congrArg Fin.val this; simp at this; omega)]
        exact h2 i (by omega) hi4
theorem up_at (a b c d n : Int) : upL [a, b, c, d, n] 5 97 = a ∧ upL [a, b, c, d, n] 5 98 = b ∧ upL [a, b, c, d, n] 5 99 = c ∧ upL [a, b, c, d, n] 5 100 = d ∧ upL [a, b, c, d, n] 5 0 = n := by
  have h := (up_val [a, b, c, d, n] 5 (Nat.le_refl _)).1
  exact ⟨h 0 (by omega), h 1 (by omega), h 2 (by omega), h 3 (by omega), h 4 (by omega)⟩

/-- What is read of a term's text. -/
theorem read_tf {a b c d n : Int} (h : tvB a b c d n = true) : ∃ m, Reach (tfL a b c d n, fun _ => 0) ([], m) ∧ m 97 = a ∧ m 98 = b ∧ m 99 = c ∧ m 100 = d ∧ m 0 = n := by
  unfold tfL
  rw [if_pos h]
  split
  · rename_i h0
    have hz : a = 0 ∧ b = 0 ∧ c = 0 ∧ d = 0 ∧ n = 0 := by
      have hs : ∀ k, k < 5 → [a, b, c, d, n].getD k 0 = 0 := by
        intro k hk
        have : ∀ j, ftL [a, b, c, d, n] j = [] → ∀ i, i < j → [a, b, c, d, n].getD i 0 = 0 := by
          intro j
          induction j with
          | zero => intro _ i hi; omega
          | succ j ih =>
            intro hj i hi
            by_cases hz : [a, b, c, d, n].getD j 0 = 0
            · rw [ft_zero hz] at hj
              by_cases hij : i = j
              · rw [hij]; exact hz
              · exact ih hj i (by omega)
            · exfalso
              rw [ftL, if_neg hz] at hj
              exact mul_ne _ _ (List.append_eq_nil_iff.1 hj).2
        exact this 5 h0 k hk
      exact ⟨hs 0 (by omega), hs 1 (by omega), hs 2 (by omega), hs 3 (by omega), hs 4 (by omega)⟩
    obtain ⟨rfl, rfl, rfl, rfl, rfl⟩ := hz
    refine ⟨updM (fun _ => 0) 0 0, .step (b := ([], updM (fun _ => 0) 0 0)) ?_ (.refl _), ?_⟩
    · have hc : cutM [48] = some (0, 0, []) := by decide +kernel
      unfold stepM
      simp only [hc, Option.map_some]
    · simp [updM]
  · have := read_ft (ft_bd h) 5 (by omega) [] (.inl (fun x hx => by cases hx))
    rw [List.append_nil] at this
    exact ⟨_, this, up_at a b c d n⟩
end Go.Proofs.YtjgmoledhkikcaaDoor
