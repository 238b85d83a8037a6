/- Several texts in one: SaM OkC SaN. -/
import Derived.Test.YtbppcpaodfjpkaaDoorFtM
import Derived.Test.YtbppcpaodfjpkaaDoorPtM

/- A formula's text decides the formula: what the answer of SameFormula needs, given that a valid atom's text decides the atom and is no word. -/
namespace Go.Proofs.YtbppcpaodfjpkaaDoor
open Go.RowKit

/-- A node's own words. -/
def wsO (h : FH) : List (List UInt8) := if h.k = 2 then [taL h.ak h.am h.a h.b h.c h.d h.n] else if h.k = 6 ∨ h.k = 7 then [wdT h.k, [UInt8.ofNat (97 + h.v.toNat)]] else [wdT h.k]
def Fo.ws : Fo → List (List UInt8)
  | .nil => []
  | .cons h s r => wsO h ++ (s.ws ++ r.ws)
theorem wsO_ne (h : FH) : wsO h ≠ [] := by
  unfold wsO
  split
  · simp
  · split <;> simp
theorem tail_app (A B : List (List UInt8)) : Lib.joinTail [32] (A ++ B) = Lib.joinTail [32] A ++ Lib.joinTail [32] B := by
  simp [Lib.joinTail]
theorem tail_ws (h : FH) : Lib.joinTail [32] (wsO h) = 32 :: owT h := by
  unfold wsO owT
  split
  · simp [Lib.joinTail]
  · split
    · simp [Lib.joinTail]
    · simp [Lib.joinTail]
theorem tail_fo (f : Fo) : Lib.joinTail [32] f.ws = f.txs := by
  induction f with
  | nil => rfl
  | cons h s r ih1 ih2 =>
    simp only [Fo.ws, Fo.txs, tail_app, tail_ws, ih1, ih2]
    simp
theorem tail_tx (h : FH) (f : Fo) : Lib.joinTail [32] (wsO h ++ f.ws) = 32 :: txF h f := by
  rw [tail_app, tail_ws, tail_fo]
  rfl

theorem cut_one : ∀ (x y t u : List UInt8), (32 : UInt8) ∉ x → (32 : UInt8) ∉ y → (t = [] ∨ ∃ t', t = 32 :: t') → (u = [] ∨ ∃ u', u = 32 :: u') → x ++ t = y ++ u → x = y ∧ t = u
  | [], [], _, _, _, _, _, _, h => ⟨rfl, h⟩
  | [], c :: y, t, u, _, hy, ht, _, h => by
    rcases ht with rfl | ⟨t', rfl⟩
    · simp at h
    · simp only [List.nil_append, List.cons_append, List.cons.injEq] at h
      exact absurd (h.1 ▸ List.mem_cons_self ..) hy
  | c :: x, [], t, u, hx, _, _, hu, h => by
    rcases hu with rfl | ⟨u', rfl⟩
    · simp at h
    · simp only [List.nil_append, List.cons_append, List.cons.injEq] at h
      exact absurd (h.1 ▸ List.mem_cons_self ..) hx
  | c :: x, d :: y, t, u, hx, hy, ht, hu, h => by
    simp only [List.cons_append, List.cons.injEq] at h
    have := cut_one x y t u (fun e => hx (List.mem_cons_of_mem _ e)) (fun e => hy (List.mem_cons_of_mem _ e)) ht hu h.2
    exact ⟨by rw [h.1, this.1], this.2⟩
theorem tail_form (A : List (List UInt8)) : Lib.joinTail [32] A = [] ∨ ∃ t, Lib.joinTail [32] A = 32 :: t := by
  cases A with
  | nil => exact .inl rfl
  | cons x r => exact .inr ⟨_, by simp only [Lib.joinTail, List.map_cons, List.flatten_cons]; rfl⟩
theorem tail_inj : ∀ (A B : List (List UInt8)), (∀ x ∈ A, (32 : UInt8) ∉ x) → (∀ x ∈ B, (32 : UInt8) ∉ x) → Lib.joinTail [32] A = Lib.joinTail [32] B → A = B
  | [], [], _, _, _ => rfl
  | [], y :: B, _, _, h => by simp [Lib.joinTail] at h
  | x :: A, [], _, _, h => by simp [Lib.joinTail] at h
  | x :: A, y :: B, hA, hB, h => by
    have h' : x ++ Lib.joinTail [32] A = y ++ Lib.joinTail [32] B := by
      simpa [Lib.joinTail] using h
    obtain ⟨e1, e2⟩ := cut_one x y _ _ (hA x (List.mem_cons_self ..)) (hB y (List.mem_cons_self ..)) (tail_form A) (tail_form B) h'
    rw [e1, tail_inj A B (fun z hz => hA z (List.mem_cons_of_mem _ hz)) (fun z hz => hB z (List.mem_cons_of_mem _ hz)) e2]

/-- What is asked of the texts of valid atoms. -/
structure AtTx : Prop where
  inj : ∀ {k m a b c d n k' m' a' b' c' d' n' : Int}, avB k m a b c d n = true → avB k' m' a' b' c' d' n' = true → taL k m a b c d n = taL k' m' a' b' c' d' n' → k = k' ∧ m = m' ∧ a = a' ∧ b = b' ∧ c = c' ∧ d = d' ∧ n = n'
  word : ∀ {k m a b c d n : Int} (j : Int), avB k m a b c d n = true → taL k m a b c d n ≠ wdT j
  blank : ∀ {k m a b c d n : Int}, avB k m a b c d n = true → (32 : UInt8) ∉ taL k m a b c d n

theorem own_parts {h : FH} {len : Nat} (ho : ownB h len = true) : (h.k = 2 → avB h.ak h.am h.a h.b h.c h.d h.n = true) ∧ (h.k ≠ 2 → h.ak = 0 ∧ h.am = 0 ∧ h.a = 0 ∧ h.b = 0 ∧ h.c = 0 ∧ h.d = 0 ∧ h.n = 0) ∧ ((h.k = 6 ∨ h.k = 7) → 0 ≤ h.v ∧ h.v < 4) ∧ (¬ (h.k = 6 ∨ h.k = 7) → h.v = 0) ∧ (len : Int) = subsI h.k := by
  unfold ownB at ho
  simp only [Bool.and_eq_true, decide_eq_true_eq] at ho
  obtain ⟨⟨h1, h2⟩, h3⟩ := ho
  refine ⟨fun e => ?_, fun e => ?_, fun e => ?_, fun e => ?_, h3⟩
  · rw [if_pos e] at h1; exact h1
  · rw [if_neg e] at h1; simpa [zB] using h1
  · rw [if_pos (show qB h.k = true by simpa [qB] using e)] at h2; simpa [varB] using h2
  · rw [if_neg (show ¬ qB h.k = true by simpa [qB] using e)] at h2; simpa using h2
theorem wd_inj {i j : Int} (hi : i = 0 ∨ i = 1 ∨ i = 3 ∨ i = 4 ∨ i = 5 ∨ i = 6 ∨ i = 7) (hj : j = 0 ∨ j = 1 ∨ j = 3 ∨ j = 4 ∨ j = 5 ∨ j = 6 ∨ j = 7) (h : wdT i = wdT j) : i = j := by
  rcases hi with rfl | rfl | rfl | rfl | rfl | rfl | rfl <;> rcases hj with rfl | rfl | rfl | rfl | rfl | rfl | rfl <;> first | rfl | (simp [wdT] at h)
theorem wd_blank (j : Int) : (32 : UInt8) ∉ wdT j := by
  unfold wdT
  repeat' split
  all_goals decide

theorem fh_ext {h h' : FH} (e1 : h.k = h'.k) (e2 : h.ak = h'.ak) (e3 : h.am = h'.am) (e4 : h.a = h'.a) (e5 : h.b = h'.b) (e6 : h.c = h'.c) (e7 : h.d = h'.d) (e8 : h.n = h'.n) (e9 : h.v = h'.v) : h = h' := by
  obtain ⟨k, ak, am, a, b, c, d, n, v⟩ := h
  obtain ⟨k', ak', am', a', b', c', d', n', v'⟩ := h'
  simp only at e1 e2 e3 e4 e5 e6 e7 e8 e9
  subst e1 e2 e3 e4 e5 e6 e7 e8 e9
  rfl
theorem own_inj (HT : AtTx) {h h' : FH} {l l' : Nat} (ho : ownB h l = true) (ho' : ownB h' l' = true) {X Y : List (List UInt8)} (he : wsO h ++ X = wsO h' ++ Y) : h = h' ∧ X = Y := by
  obtain ⟨a1, a2, a3, a4, _⟩ := own_parts ho
  obtain ⟨b1, b2, b3, b4, _⟩ := own_parts ho'
  have hk := own_kind ho
  have hk' := own_kind ho'
  unfold wsO at he
  by_cases h2 : h.k = 2
  · rw [if_pos h2] at he
    by_cases h2' : h'.k = 2
    · rw [if_pos h2'] at he
      simp only [List.cons_append, List.nil_append, List.cons.injEq] at he
      obtain ⟨e1, e2, e3, e4, e5, e6, e7⟩ := HT.inj (a1 h2) (b1 h2') he.1
      exact ⟨fh_ext (h2.trans h2'.symm) e1 e2 e3 e4 e5 e6 e7 (by rw [a4 (by omega), b4 (by omega)]), he.2⟩
    · rw [if_neg h2'] at he
      exfalso
      split at he
      · simp only [List.cons_append, List.nil_append, List.cons.injEq] at he
        exact HT.word _ (a1 h2) he.1
      · simp only [List.cons_append, List.nil_append, List.cons.injEq] at he
        exact HT.word _ (a1 h2) he.1
  · rw [if_neg h2] at he
    by_cases h2' : h'.k = 2
    · rw [if_pos h2'] at he
      exfalso
      split at he
      · simp only [List.cons_append, List.nil_append, List.cons.injEq] at he
        exact HT.word _ (b1 h2') he.1.symm
      · simp only [List.cons_append, List.nil_append, List.cons.injEq] at he
        exact HT.word _ (b1 h2') he.1.symm
    · rw [if_neg h2'] at he
      obtain ⟨z1, z2, z3, z4, z5, z6, z7⟩ := a2 h2
      obtain ⟨y1, y2, y3, y4, y5, y6, y7⟩ := b2 h2'
      have key : wdT h.k = wdT h'.k := by
        split at he <;> split at he <;> (simp only [List.cons_append, List.nil_append, List.cons.injEq] at he; exact he.1)
      have ek := wd_inj (by omega) (by omega) key
      by_cases h6 : h.k = 6 ∨ h.k = 7
      · have h6' : h'.k = 6 ∨ h'.k = 7 := by omega
        rw [if_pos h6, if_pos h6'] at he
        simp only [List.cons_append, List.nil_append, List.cons.injEq, and_true] at he
        have hv := a3 h6
        have hv' := b3 h6'
        have ev : h.v = h'.v := by
          have q1 : h.v = 0 ∨ h.v = 1 ∨ h.v = 2 ∨ h.v = 3 := by omega
          have q2 : h'.v = 0 ∨ h'.v = 1 ∨ h'.v = 2 ∨ h'.v = 3 := by omega
          have hq := he.2.1
          rcases q1 with q1 | q1 | q1 | q1 <;> rcases q2 with q2 | q2 | q2 | q2 <;> rw [q1, q2] at hq <;> first | (rw [q1, q2]; done) | (exact absurd hq (by decide))
        exact ⟨fh_ext ek (z1.trans y1.symm) (z2.trans y2.symm) (z3.trans y3.symm) (z4.trans y4.symm) (z5.trans y5.symm) (z6.trans y6.symm) (z7.trans y7.symm) ev, he.2.2⟩
      · have h6' : ¬ (h'.k = 6 ∨ h'.k = 7) := by omega
        rw [if_neg h6, if_neg h6'] at he
        simp only [List.cons_append, List.nil_append, List.cons.injEq] at he
        exact ⟨fh_ext ek (z1.trans y1.symm) (z2.trans y2.symm) (z3.trans y3.symm) (z4.trans y4.symm) (z5.trans y5.symm) (z6.trans y6.symm) (z7.trans y7.symm) (by rw [a4 h6, b4 h6']), he.2⟩

theorem ws_inj (HT : AtTx) : ∀ (f f' : Fo) (X Y : List (List UInt8)), f.okB = true → f'.okB = true → f.len = f'.len → f.ws ++ X = f'.ws ++ Y → f = f' ∧ X = Y := by
  intro f
  induction f with
  | nil =>
    intro f' X Y _ _ hl he
    obtain rfl : f' = .nil := Fo.len_zero hl.symm
    exact ⟨rfl, he⟩
  | cons h s r ih1 ih2 =>
    intro f' X Y hok hok' hl he
    cases f' with
    | nil => simp [Fo.len] at hl
    | cons h' s' r' =>
      simp only [Fo.okB, Bool.and_eq_true] at hok hok'
      simp only [Fo.len] at hl
      simp only [Fo.ws, List.append_assoc] at he
      obtain ⟨rfl, e1⟩ := own_inj HT hok.1.1 hok'.1.1 he
      have hs : s.len = s'.len := by
        have p1 := (own_parts hok.1.1).2.2.2.2
        have p2 := (own_parts hok'.1.1).2.2.2.2
        omega
      obtain ⟨rfl, e2⟩ := ih1 s' _ _ hok.1.2 hok'.1.2 hs e1
      obtain ⟨rfl, e3⟩ := ih2 r' _ _ hok.2 hok'.2 (by omega) e2
      exact ⟨rfl, e3⟩

theorem ows_blank (HT : AtTx) {h : FH} {l : Nat} (ho : ownB h l = true) : ∀ x ∈ wsO h, (32 : UInt8) ∉ x := by
  obtain ⟨a1, _, a3, _, _⟩ := own_parts ho
  intro x hx
  unfold wsO at hx
  split at hx
  · rename_i h2
    simp at hx
    subst hx
    exact HT.blank (a1 h2)
  · split at hx
    · rename_i h6
      simp at hx
      rcases hx with rfl | rfl
      · exact wd_blank _
      · have := a3 h6
        have q : h.v = 0 ∨ h.v = 1 ∨ h.v = 2 ∨ h.v = 3 := by omega
        rcases q with q | q | q | q <;> rw [q] <;> decide
    · simp at hx
      subst hx
      exact wd_blank _
theorem ws_blank (HT : AtTx) (f : Fo) : f.okB = true → ∀ x ∈ f.ws, (32 : UInt8) ∉ x := by
  induction f with
  | nil => intro _ x hx; cases hx
  | cons h s r ih1 ih2 =>
    intro hok x hx
    simp only [Fo.okB, Bool.and_eq_true] at hok
    simp only [Fo.ws, List.mem_append] at hx
    rcases hx with hx | hx | hx
    · exact ows_blank HT hok.1.1 x hx
    · exact ih1 hok.1.2 x hx
    · exact ih2 hok.2 x hx

/-- A valid formula's text decides the formula. -/
theorem tx_inj (HT : AtTx) {h h' : FH} {f f' : Fo} (hv : vfB h f = true) (hv' : vfB h' f' = true) (he : txF h f = txF h' f') : h = h' ∧ f = f' := by
  obtain ⟨h1, h2, _⟩ := vf_parts hv
  obtain ⟨g1, g2, _⟩ := vf_parts hv'
  have hb : ∀ {h : FH} {f : Fo}, ownB h f.len = true → f.okB = true → ∀ x ∈ wsO h ++ f.ws, (32 : UInt8) ∉ x := fun o k x hx => by
    rcases List.mem_append.1 hx with hx | hx
    · exact ows_blank HT o x hx
    · exact ws_blank HT _ k x hx
  have e := tail_inj _ _ (hb h1 h2) (hb g1 g2) (by rw [tail_tx, tail_tx, he])
  obtain ⟨rfl, e2⟩ := own_inj HT h1 g1 e
  have hl : f.len = f'.len := by
    have p1 := (own_parts h1).2.2.2.2
    have p2 := (own_parts g1).2.2.2.2
    omega
  exact ⟨rfl, (ws_inj HT f f' [] [] h2 g2 hl (by simpa using e2)).1⟩
end Go.Proofs.YtbppcpaodfjpkaaDoor

/- The letters of a term's text. -/
namespace Go.Proofs.YtbppcpaodfjpkaaDoor
open Go.RowKit

def okC (x : UInt8) : Bool := isD x || isS x || isL x
theorem okC_ne {x : UInt8} (h : okC x = true) : x ≠ 60 ∧ x ≠ 61 ∧ x ≠ 124 ∧ x ≠ 33 := by
  refine ⟨?_, ?_, ?_, ?_⟩ <;> (intro e; subst e; revert h; decide)
theorem ok_itoa (n : Int) : ∀ x ∈ Lib.itoa n, okC x = true := by
  intro x hx
  have hd := (dec_all n.natAbs).1
  unfold Lib.itoa at hx
  unfold okC
  split at hx
  · rcases List.mem_cons.1 hx with rfl | g
    · decide
    · rw [hd x g]; rfl
  · rw [show n.toNat = n.natAbs by omega] at hx
    rw [hd x hx]; rfl
theorem ok_mul (n : Int) (i : Nat) (hi : i ≤ 4) : ∀ x ∈ mulL n i, okC x = true := by
  intro x hx
  unfold mulL at hx
  split at hx
  · exact ok_itoa n x hx
  · rename_i h4
    rcases List.mem_append.1 hx with g | g
    · split at g
      · cases g
      · split at g
        · rw [List.mem_singleton.1 g]; decide
        · exact ok_itoa n x g
    · rw [List.mem_singleton.1 g]
      unfold okC
      rw [(let_L (show i ≤ 3 by omega)).1]; simp
theorem ok_ft (L : List Int) : ∀ k, k ≤ 5 → ∀ x ∈ ftL L k, okC x = true
  | 0, _, x, hx => by cases hx
  | k + 1, hk, x, hx => by
    rw [ftL] at hx
    split at hx
    · exact ok_ft L k (by omega) x hx
    · rcases List.mem_append.1 hx with g | g
      · split at g
        · rcases List.mem_append.1 g with g' | g'
          · exact ok_ft L k (by omega) x g'
          · rw [List.mem_singleton.1 g']; decide
        · exact ok_ft L k (by omega) x g
      · exact ok_mul _ k (by omega) x g
theorem ok_tf (a b c d n : Int) : ∀ x ∈ tfL a b c d n, okC x = true := by
  intro x hx
  unfold tfL at hx
  split at hx
  · split at hx
    · rw [List.mem_singleton.1 hx]; decide
    · exact ok_ft _ 5 (by omega) x hx
  · cases hx
end Go.Proofs.YtbppcpaodfjpkaaDoor

/- A valid atom's text decides the atom; it is no word and has no blank. -/
namespace Go.Proofs.YtbppcpaodfjpkaaDoor
open Go.RowKit

theorem cut_at (c : UInt8) : ∀ (x y t u : List UInt8), c ∉ x → c ∉ y → x ++ c :: t = y ++ c :: u → x = y ∧ t = u
  | [], [], _, _, _, _, h => ⟨rfl, by simpa using h⟩
  | [], d :: y, t, u, _, hy, h => by
    simp only [List.nil_append, List.cons_append, List.cons.injEq] at h
    exact absurd (h.1 ▸ List.mem_cons_self ..) hy
  | d :: x, [], t, u, hx, _, h => by
    simp only [List.nil_append, List.cons_append, List.cons.injEq] at h
    exact absurd (h.1 ▸ List.mem_cons_self ..) hx
  | d :: x, e :: y, t, u, hx, hy, h => by
    simp only [List.cons_append, List.cons.injEq] at h
    have := cut_at c x y t u (fun g => hx (List.mem_cons_of_mem _ g)) (fun g => hy (List.mem_cons_of_mem _ g)) h.2
    exact ⟨by rw [h.1, this.1], this.2⟩
theorem itoa_inj {m m' : Int} (h : 0 ≤ m) (h' : 0 ≤ m') (e : Lib.itoa m = Lib.itoa m') : m = m' := by
  unfold Lib.itoa at e
  rw [if_neg (by omega), if_neg (by omega)] at e
  have h1 := (dec_all m.toNat).2.1
  have h2 := (dec_all m'.toNat).2.1
  rw [e, h2] at h1
  injection h1 with h1
  omega
theorem tf_inj {a b c d n a' b' c' d' n' : Int} (h : tvB a b c d n = true) (k : tvB a' b' c' d' n' = true) (e : tfL a b c d n = tfL a' b' c' d' n') : a = a' ∧ b = b' ∧ c = c' ∧ d = d' ∧ n = n' := by
  obtain ⟨m, r1, a0, a1, a2, a3, a4⟩ := read_tf h
  obtain ⟨m', r2, b0, b1, b2, b3, b4⟩ := read_tf k
  rw [e] at r1
  have e := (r1.det r2 rfl).stuck rfl
  have e2 : m' = m := congrArg Prod.snd e
  subst e2
  exact ⟨a0.symm.trans b0, a1.symm.trans b1, a2.symm.trans b2, a3.symm.trans b3, a4.symm.trans b4⟩

/-- The four forms. -/
theorem ta_form {k m a b c d n : Int} (h : avB k m a b c d n = true) : tvB a b c d n = true ∧
    ((k = 0 ∧ m = 0 ∧ taL k m a b c d n = tfL a b c d n ++ [60, 61, 48]) ∨ (k = 1 ∧ m = 0 ∧ taL k m a b c d n = tfL a b c d n ++ [61, 48]) ∨
     (k = 2 ∧ 1 ≤ m ∧ taL k m a b c d n = Lib.itoa m ++ 124 :: tfL a b c d n) ∨ (k = 3 ∧ 1 ≤ m ∧ taL k m a b c d n = Lib.itoa m ++ 33 :: tfL a b c d n)) := by
  obtain ⟨hc, ht⟩ := avB_cases h
  refine ⟨ht, ?_⟩
  unfold taL
  rw [if_pos h]
  rcases hc with ⟨rfl, rfl⟩ | ⟨rfl, rfl⟩ | ⟨rfl, h1, _⟩ | ⟨rfl, h1, _⟩
  · exact .inl ⟨rfl, rfl, rfl⟩
  · exact .inr (.inl ⟨rfl, rfl, rfl⟩)
  · exact .inr (.inr (.inl ⟨rfl, h1, rfl⟩))
  · exact .inr (.inr (.inr ⟨rfl, h1, rfl⟩))
theorem no_mem {c : UInt8} (hc : okC c = false) {l : List UInt8} (h : ∀ x ∈ l, okC x = true) : c ∉ l := fun g => by
  have := h c g
  rw [hc] at this
  cases this

theorem atTx : AtTx := by
  have T60 : ∀ a b c d n, (60 : UInt8) ∉ tfL a b c d n := fun a b c d n => no_mem (by decide) (ok_tf a b c d n)
  have T61 : ∀ a b c d n, (61 : UInt8) ∉ tfL a b c d n := fun a b c d n => no_mem (by decide) (ok_tf a b c d n)
  have T124 : ∀ a b c d n, (124 : UInt8) ∉ tfL a b c d n := fun a b c d n => no_mem (by decide) (ok_tf a b c d n)
  have T33 : ∀ a b c d n, (33 : UInt8) ∉ tfL a b c d n := fun a b c d n => no_mem (by decide) (ok_tf a b c d n)
  have T32 : ∀ a b c d n, (32 : UInt8) ∉ tfL a b c d n := fun a b c d n => no_mem (by decide) (ok_tf a b c d n)
  have I60 : ∀ m, (60 : UInt8) ∉ Lib.itoa m := fun m => no_mem (by decide) (ok_itoa m)
  have I61 : ∀ m, (61 : UInt8) ∉ Lib.itoa m := fun m => no_mem (by decide) (ok_itoa m)
  have I124 : ∀ m, (124 : UInt8) ∉ Lib.itoa m := fun m => no_mem (by decide) (ok_itoa m)
  have I33 : ∀ m, (33 : UInt8) ∉ Lib.itoa m := fun m => no_mem (by decide) (ok_itoa m)
  have I32 : ∀ m, (32 : UInt8) ∉ Lib.itoa m := fun m => no_mem (by decide) (ok_itoa m)
  refine ⟨?_, ?_, ?_⟩
  · intro k m a b c d n k' m' a' b' c' d' n' h h' e
    obtain ⟨ht, hf⟩ := ta_form h
    obtain ⟨ht', hf'⟩ := ta_form h'
    rcases hf with ⟨rfl, rfl, e1⟩ | ⟨rfl, rfl, e1⟩ | ⟨rfl, h1, e1⟩ | ⟨rfl, h1, e1⟩ <;> rcases hf' with ⟨rfl, rfl, e2⟩ | ⟨rfl, rfl, e2⟩ | ⟨rfl, g1, e2⟩ | ⟨rfl, g1, e2⟩ <;> rw [e1, e2] at e
    · obtain ⟨q, _⟩ := cut_at 60 _ _ [61, 48] [61, 48] (T60 _ _ _ _ _) (T60 _ _ _ _ _) e
      obtain ⟨q1, q2, q3, q4, q5⟩ := tf_inj ht ht' q
      exact ⟨rfl, rfl, q1, q2, q3, q4, q5⟩
    · have : (60 : UInt8) ∈ tfL a' b' c' d' n' ++ [61, 48] := e ▸ (by simp)
      simp [T60] at this
    · have : (60 : UInt8) ∈ Lib.itoa m' ++ 124 :: tfL a' b' c' d' n' := e ▸ (by simp)
      simp [T60, I60] at this
    · have : (60 : UInt8) ∈ Lib.itoa m' ++ 33 :: tfL a' b' c' d' n' := e ▸ (by simp)
      simp [T60, I60] at this
    · have : (60 : UInt8) ∈ tfL a b c d n ++ [61, 48] := e ▸ (by simp)
      simp [T60] at this
    · obtain ⟨q, _⟩ := cut_at 61 _ _ [48] [48] (T61 _ _ _ _ _) (T61 _ _ _ _ _) e
      obtain ⟨q1, q2, q3, q4, q5⟩ := tf_inj ht ht' q
      exact ⟨rfl, rfl, q1, q2, q3, q4, q5⟩
    · have : (61 : UInt8) ∈ Lib.itoa m' ++ 124 :: tfL a' b' c' d' n' := e ▸ (by simp)
      simp [T61, I61] at this
    · have : (61 : UInt8) ∈ Lib.itoa m' ++ 33 :: tfL a' b' c' d' n' := e ▸ (by simp)
      simp [T61, I61] at this
    · have : (60 : UInt8) ∈ Lib.itoa m ++ 124 :: tfL a b c d n := e ▸ (by simp)
      simp [T60, I60] at this
    · have : (61 : UInt8) ∈ Lib.itoa m ++ 124 :: tfL a b c d n := e ▸ (by simp)
      simp [T61, I61] at this
    · obtain ⟨q0, q⟩ := cut_at 124 _ _ _ _ (I124 _) (I124 _) e
      obtain ⟨q1, q2, q3, q4, q5⟩ := tf_inj ht ht' q
      exact ⟨rfl, itoa_inj (by omega) (by omega) q0, q1, q2, q3, q4, q5⟩
    · have : (124 : UInt8) ∈ Lib.itoa m' ++ 33 :: tfL a' b' c' d' n' := e ▸ (by simp)
      simp [T124, I124] at this
    · have : (60 : UInt8) ∈ Lib.itoa m ++ 33 :: tfL a b c d n := e ▸ (by simp)
      simp [T60, I60] at this
    · have : (61 : UInt8) ∈ Lib.itoa m ++ 33 :: tfL a b c d n := e ▸ (by simp)
      simp [T61, I61] at this
    · have : (33 : UInt8) ∈ Lib.itoa m' ++ 124 :: tfL a' b' c' d' n' := e ▸ (by simp)
      simp [T33, I33] at this
    · obtain ⟨q0, q⟩ := cut_at 33 _ _ _ _ (I33 _) (I33 _) e
      obtain ⟨q1, q2, q3, q4, q5⟩ := tf_inj ht ht' q
      exact ⟨rfl, itoa_inj (by omega) (by omega) q0, q1, q2, q3, q4, q5⟩
  · intro k m a b c d n j h e
    have w : (61 : UInt8) ∉ wdT j ∧ (124 : UInt8) ∉ wdT j ∧ (33 : UInt8) ∉ wdT j := by
      unfold wdT
      refine ⟨?_, ?_, ?_⟩ <;> (repeat' split) <;> decide
    rw [← e] at w
    obtain ⟨_, hf⟩ := ta_form h
    rcases hf with ⟨_, _, e1⟩ | ⟨_, _, e1⟩ | ⟨_, _, e1⟩ | ⟨_, _, e1⟩ <;> rw [e1] at w <;> simp at w
  · intro k m a b c d n h
    obtain ⟨_, hf⟩ := ta_form h
    rcases hf with ⟨_, _, e1⟩ | ⟨_, _, e1⟩ | ⟨_, _, e1⟩ | ⟨_, _, e1⟩ <;> rw [e1] <;> simp [T32, I32]
end Go.Proofs.YtbppcpaodfjpkaaDoor
