/- Several texts in one: SpM CtA. -/
import Derived.Test.YtjgmoledhkikcaaDoorAxM
import Derived.Test.YtjgmoledhkikcaaDoorSyF
import Derived.Test.YtjgmoledhkikcaaDoorPtW
import Derived.Lib.Split
import Derived.Lib.IndexBytes

/- Systems read from their texts: what decides. -/
namespace Go.Proofs.YtjgmoledhkikcaaDoor
open Go.RowKit

/-- A text cut at the first k instances of a byte at most. -/
def wsK (c : UInt8) : Nat → List UInt8 → List (List UInt8)
  | 0, s => [s]
  | k + 1, s => match spC c s with
    | none => [s]
    | some (a, b) => a :: wsK c k b
theorem wsK_ne (c : UInt8) (k : Nat) (s : List UInt8) : wsK c k s ≠ [] := by
  cases k with
  | zero => simp [wsK]
  | succ k =>
    simp only [wsK]
    split <;> simp
theorem splitK_ws (c : UInt8) : ∀ (k : Nat) (s : List UInt8), Lib.splitK [c] 0 k s = wsK c k s
  | 0, _ => rfl
  | k + 1, s => by
    have hi : Lib.index s [c] = match spC c s with | none => -1 | some q => (q.1.length : Int) := (Lib.index_one s c).trans (idx_sp c s)
    cases hs : spC c s with
    | none =>
      rw [hs] at hi
      simp only [Lib.splitK, wsK, hs]
      rw [if_pos (by rw [hi]; rfl)]
    | some q =>
      obtain ⟨a, b⟩ := q
      rw [hs] at hi
      dsimp only at hi
      obtain ⟨he, _⟩ := spC_some hs
      simp only [Lib.splitK, wsK, hs]
      rw [if_neg (fun e => by rw [hi] at e; simp at e; try omega), hi, splitK_ws c k]
      have h1 : ((a.length : Int)).toNat = a.length := Int.toNat_natCast _
      rw [h1, he]
      congr 1
      · simp
      · congr 1
        rw [show a ++ c :: b = (a ++ [c]) ++ b by simp, show a.length + [c].length = (a ++ [c]).length by simp, List.drop_left]
theorem wsK_join (c : UInt8) : ∀ (k : Nat) (s : List UInt8), Lib.join (wsK c k s) [c] = s
  | 0, s => by simp [wsK, Lib.join_one]
  | k + 1, s => by
    simp only [wsK]
    cases hs : spC c s with
    | none => simp [Lib.join_one]
    | some q =>
      obtain ⟨a, b⟩ := q
      obtain ⟨he, _⟩ := spC_some hs
      have ih := wsK_join c k b
      cases hw : wsK c k b with
      | nil => exact absurd hw (wsK_ne c k b)
      | cons y r =>
        rw [hw, Lib.join_cons] at ih
        dsimp only
        rw [hw, Lib.join_cons, he]
        simp only [Lib.joinTail, List.map_cons, List.flatten_cons] at ih ⊢
        rw [List.append_assoc, ih]
        rfl
theorem wsK_of (c : UInt8) : ∀ (L : List (List UInt8)) (k : Nat), L ≠ [] → (∀ x ∈ L, c ∉ x) → L.length ≤ k + 1 → wsK c k (Lib.join L [c]) = L
  | [], _, h, _, _ => absurd rfl h
  | [x], k, _, hc, _ => by
    rw [Lib.join_one]
    cases k with
    | zero => rfl
    | succ k => simp only [wsK]; rw [spC_none (hc x (List.mem_singleton.2 rfl))]
  | x :: y :: r, k, _, hc, hl => by
    obtain ⟨k, rfl⟩ : ∃ j, k = j + 1 := ⟨k - 1, by simp at hl; omega⟩
    have ih := wsK_of c (y :: r) k (by simp) (fun z hz => hc z (List.mem_cons_of_mem _ hz)) (by simp at hl ⊢; omega)
    have e : Lib.join (x :: y :: r) [c] = x ++ c :: Lib.join (y :: r) [c] := by
      rw [Lib.join_cons, Lib.join_cons]
      simp [Lib.joinTail]
    rw [e]
    simp only [wsK]
    rw [spC_of (hc x (List.mem_cons_self ..))]
    dsimp only
    rw [ih]
theorem join_long (c : UInt8) : ∀ L : List (List UInt8), L.length ≤ (Lib.join L [c]).length + 1
  | [] => by simp
  | [x] => by simp
  | x :: y :: r => by
    have ih := join_long c (y :: r)
    have e : Lib.join (x :: y :: r) [c] = x ++ c :: Lib.join (y :: r) [c] := by
      rw [Lib.join_cons, Lib.join_cons]
      simp [Lib.joinTail]
    rw [e]
    simp only [List.length_cons, List.length_append] at ih ⊢
    omega

theorem ax_one {s : List UInt8} {A B : AtD} (h : IsAx s A) (k : IsAx s B) : A = B := by
  have e := (rdI_ok h).symm.trans (rdI_ok k)
  exact congrArg Prod.fst e
theorem pa_yes {s : List UInt8} {A : AtD} (h : IsAx s A) : paT s = (A, true) := by
  have hx : ∃ B, IsAx s B := ⟨A, h⟩
  unfold paT
  rw [dif_pos hx, ax_one (Classical.choose_spec hx) h]
theorem pa_spec {s : List UInt8} (h : (paT s).2 = true) : IsAx s (paT s).1 := by
  by_cases hx : ∃ B, IsAx s B
  · obtain ⟨B, hB⟩ := hx
    rw [pa_yes hB]
    exact hB
  · unfold paT at h
    rw [dif_neg hx] at h
    simp at h
theorem ax_of {x : AtD} (h : avF x = true) : IsAx (taX x) x := ⟨h, rfl⟩
theorem okC_blank {x : UInt8} (h : okC x = true) : x ≠ 32 := by
  intro e
  subst e
  revert h
  decide
theorem ta_blank {x : AtD} (h : avF x = true) : (32 : UInt8) ∉ taX x := by
  have h1 : ∀ y ∈ tfL x.a x.b x.c x.d x.n, y ≠ 32 := fun y hy => okC_blank (ok_tf _ _ _ _ _ y hy)
  have h2 : ∀ y ∈ Lib.itoa x.m, y ≠ 32 := fun y hy => okC_blank (ok_itoa _ y hy)
  intro hm
  unfold taX taL at hm
  rw [if_pos (show avB x.k x.m x.a x.b x.c x.d x.n = true from h)] at hm
  have hc1 : (32 : UInt8) ∉ [60, 61, 48] := by decide
  have hc2 : (32 : UInt8) ∉ [61, 48] := by decide
  have h33 : ∀ c : UInt8, c ≠ 32 → (32 : UInt8) ∈ (c :: tfL x.a x.b x.c x.d x.n) → False := by
    intro c hc hk
    rcases List.mem_cons.1 hk with hk | hk
    · exact hc hk.symm
    · exact h1 _ hk rfl
  by_cases k0 : x.k = 0
  · rw [if_pos k0] at hm
    rcases List.mem_append.1 hm with hm | hm
    · exact h1 _ hm rfl
    · exact hc1 hm
  · rw [if_neg k0] at hm
    by_cases k1 : x.k = 1
    · rw [if_pos k1] at hm
      rcases List.mem_append.1 hm with hm | hm
      · exact h1 _ hm rfl
      · exact hc2 hm
    · rw [if_neg k1] at hm
      by_cases k2 : x.k = 2
      · rw [if_pos k2] at hm
        rcases List.mem_append.1 hm with hm | hm
        · exact h2 _ hm rfl
        · exact h33 124 (by decide) hm
      · rw [if_neg k2] at hm
        rcases List.mem_append.1 hm with hm | hm
        · exact h2 _ hm rfl
        · exact h33 33 (by decide) hm

/-- A text of a system. -/
def IsSy (s : List UInt8) (L : List AtD) : Prop := syB L = true ∧ fsyT L = s
noncomputable def rdL (ws : List (List UInt8)) : List AtD := ws.map fun x => (paT x).1
theorem rdL_of {L : List AtD} (h : ∀ x ∈ L, avF x = true) : rdL (L.map taX) = L := by
  induction L with
  | nil => rfl
  | cons x r ih =>
    have e : paT (taX x) = (x, true) := pa_yes (ax_of (h x (List.mem_cons_self ..)))
    show (paT (taX x)).1 :: rdL (r.map taX) = _
    rw [e, ih fun y hy => h y (List.mem_cons_of_mem _ hy)]
theorem sy_words {s : List UInt8} {L : List AtD} (h : IsSy s L) (h0 : L ≠ []) (k : Nat) (hk : L.length ≤ k + 1) : wsK 32 k s = L.map taX ∧ L.length ≤ 40 ∧ L.length ≤ s.length + 1 ∧ ∀ x ∈ L, avF x = true := by
  have hv := sy_av h.1
  have e : Lib.join (L.map taX) [32] = s := by rw [← h.2, fsyT, if_pos h.1, if_neg h0]; rfl
  refine ⟨?_, sy_len h.1, ?_, hv⟩
  · rw [← e]
    exact wsK_of 32 (L.map taX) k (by simpa using h0) (fun y hy => by obtain ⟨x, hx, rfl⟩ := List.mem_map.1 hy; exact ta_blank (hv x hx)) (by simpa using hk)
  · have := join_long 32 (L.map taX)
    rw [e] at this
    simpa using this
theorem rd_join {ws : List (List UInt8)} (h : ∀ x ∈ ws, (paT x).2 = true) : (rdL ws).map taX = ws := by
  induction ws with
  | nil => rfl
  | cons x r ih =>
    show taX (paT x).1 :: (rdL r).map taX = _
    rw [ih fun y hy => h y (List.mem_cons_of_mem _ hy)]
    exact congrArg (· :: r) (pa_spec (h x (List.mem_cons_self ..))).2
theorem sy_prog {s : List UInt8} {k : Nat} (h : ∀ x ∈ wsK 32 k s, (paT x).2 = true) (hs : syB (rdL (wsK 32 k s)) = true) : IsSy s (rdL (wsK 32 k s)) := by
  refine ⟨hs, ?_⟩
  have hne : rdL (wsK 32 k s) ≠ [] := fun e => wsK_ne 32 k s (List.map_eq_nil_iff.1 e)
  unfold fsyT
  rw [if_pos hs, if_neg hne]
  unfold jnT
  rw [rd_join h]
  exact wsK_join 32 k s
theorem sy_read {s : List UInt8} {L : List AtD} (h : IsSy s L) (h0 : L ≠ []) (k : Nat) (hk : L.length ≤ k + 1) : (∀ x ∈ wsK 32 k s, (paT x).2 = true) ∧ rdL (wsK 32 k s) = L := by
  obtain ⟨e, _, _, hv⟩ := sy_words h h0 k hk
  rw [e]
  refine ⟨fun x hx => ?_, rdL_of hv⟩
  obtain ⟨y, hy, rfl⟩ := List.mem_map.1 hx
  rw [pa_yes (ax_of (hv y hy))]
theorem sy_nil {s : List UInt8} (h : IsSy s []) : s = [45] := by rw [← h.2]; rfl
theorem ta_long {x : AtD} (h : avF x = true) : 2 ≤ (taX x).length := by
  have h0 := tf_ne (avB_cases h).2
  have h1 : 1 ≤ (tfL x.a x.b x.c x.d x.n).length := by
    cases hq : tfL x.a x.b x.c x.d x.n with
    | nil => exact absurd hq h0
    | cons _ _ => simp
  unfold taX taL
  rw [if_pos (show avB x.k x.m x.a x.b x.c x.d x.n = true from h)]
  repeat' split
  all_goals
    simp only [List.length_append, List.length_cons, List.length_nil]
    omega
theorem sy_one {s : List UInt8} {L M : List AtD} (h : IsSy s L) (k : IsSy s M) : L = M := by
  have key : ∀ {L : List AtD}, IsSy s L → L ≠ [] → s ≠ [45] := fun {L} h h0 e => by
    cases L with
    | nil => exact h0 rfl
    | cons x r =>
      have h1 := ta_long (sy_av h.1 x (List.mem_cons_self ..))
      have h2 := h.2
      rw [fsyT, if_pos h.1, if_neg h0, jnT, List.map_cons, Lib.join_cons, e] at h2
      have := congrArg List.length h2
      simp at this
      omega
  by_cases h0 : L = []
  · subst h0
    by_cases k0 : M = []
    · exact k0.symm
    · exact absurd (sy_nil h) (key k k0)
  · by_cases k0 : M = []
    · subst k0
      exact absurd (sy_nil k) (key h h0)
    · have a := (sy_read h h0 (L.length + M.length) (by omega)).2
      have b := (sy_read k k0 (L.length + M.length) (by omega)).2
      exact a.symm.trans b
theorem sy_spec {s : List UInt8} (h : fsyT (rdL ((wsK 32 s.length s).take 41)) = s) : IsSy s (rdL ((wsK 32 s.length s).take 41)) := by
  cases hs : syB (rdL ((wsK 32 s.length s).take 41)) with
  | true => exact ⟨hs, h⟩
  | false =>
    have e : s = [] := by rw [← h, fsyT, if_neg (by rw [hs]; decide)]
    subst e
    exfalso
    have e1 : paT [] = (zA, false) := by
      rw [pa_I, rdI_nil]
      rfl
    have e2 : rdL ((wsK 32 ([] : List UInt8).length []).take 41) = [zA] := by
      show [(paT []).1] = _
      rw [e1]
    rw [e2] at hs
    revert hs
    decide
theorem sy_model {s : List UInt8} {L : List AtD} (h : IsSy s L) (h0 : L ≠ []) : rdL ((wsK 32 s.length s).take 41) = L := by
  obtain ⟨e, hl, hl2, hv⟩ := sy_words h h0 s.length (sy_words h h0 L.length (by omega)).2.2.1
  rw [e, List.take_of_length_le (by rw [List.length_map]; omega), rdL_of hv]
end Go.Proofs.YtjgmoledhkikcaaDoor

/- l17Cut: a text cut at each instance of a byte, the model. -/
namespace Go.Proofs.YtjgmoledhkikcaaDoor
open Go.RowKit

theorem wsK_more (c : UInt8) : ∀ (k : Nat) (s : List UInt8), s.length ≤ k → wsK c k s = wsK c s.length s
  | 0, s, h => by rw [List.length_eq_zero_iff.1 (Nat.le_zero.1 h)]; rfl
  | k + 1, s, h => by
    cases hs : spC c s with
    | none =>
      cases hn : s.length with
      | zero => simp only [wsK, hs]
      | succ m => simp only [wsK, hs]
    | some q =>
      obtain ⟨a, b⟩ := q
      obtain ⟨he, _⟩ := spC_some hs
      have hl : s.length = a.length + b.length + 1 := by rw [he]; simp; omega
      rw [hl]
      simp only [wsK, hs]
      rw [wsK_more c k b (by omega), wsK_more c (a.length + b.length) b (by omega)]
def wA (c : UInt8) (s : List UInt8) : List (List UInt8) := wsK c s.length s
theorem wA_last {c : UInt8} {s : List UInt8} (h : c ∉ s) : wA c s = [s] := by
  unfold wA
  cases s.length with
  | zero => rfl
  | succ k => simp only [wsK]; rw [spC_none h]
theorem wA_cons {c : UInt8} {a b : List UInt8} (h : c ∉ a) : wA c (a ++ c :: b) = a :: wA c b := by
  unfold wA
  rw [show (a ++ c :: b).length = (a.length + b.length) + 1 by simp; omega]
  simp only [wsK]
  rw [spC_of h]
  dsimp only
  rw [wsK_more c (a.length + b.length) b (by omega)]
theorem wA_len (c : UInt8) (s : List UInt8) : (wA c s).length ≤ s.length + 1 := by
  have := join_long c (wA c s)
  rw [wA, wsK_join] at this
  exact this

def CtR (c : UInt8) (s : List UInt8) (n : Nat) (w : World) (v f i : Value) (wr : World) : Prop :=
  ∃ (P : List (List UInt8)) (fN iN : Nat), f = .int .i64 fN ∧ i = .int .i64 iN ∧ OwnT wr w.heap.size v P ∧ Below w.heap.size w wr ∧ iN ≤ n + 1 ∧ P.length ≤ iN ∧
    (iN ≤ n → fN ≤ iN ∧ (∀ (j : Nat) (x : UInt8), fN ≤ j → j < iN → s[j]? = some x → x ≠ c) ∧ wA c s = P ++ wA c (s.drop fN)) ∧ (iN = n + 1 → P = wA c s)
theorem ct_mid {c : UInt8} {s : List UInt8} {f i : Nat} (hfi : f ≤ i) (h : ∀ (j : Nat) (x : UInt8), f ≤ j → j < i → s[j]? = some x → x ≠ c) : c ∉ (s.drop f).take (i - f) := by
  intro hm
  obtain ⟨j, hj, hx⟩ := List.mem_iff_getElem.1 hm
  rw [List.length_take, List.length_drop] at hj
  rw [List.getElem_take, List.getElem_drop] at hx
  exact h (f + j) c (by omega) (by omega) (by rw [List.getElem?_eq_getElem (by omega), hx]) rfl
theorem ct_split {c : UInt8} {s : List UInt8} {f i : Nat} (hfi : f ≤ i) (hi : s[i]? = some c) : s.drop f = (s.drop f).take (i - f) ++ c :: s.drop (i + 1) := by
  have hlt := (List.getElem?_eq_some_iff.1 hi).1
  have he := (List.getElem?_eq_some_iff.1 hi).2
  conv => lhs; rw [← List.take_append_drop (i - f) (s.drop f)]
  congr 1
  rw [List.drop_drop, show f + (i - f) = i by omega, List.drop_eq_getElem_cons hlt, he]
def CtT (c : UInt8) (s : List UInt8) (w : World) (e : Ending) (w' : World) : Prop := ∃ v, e = .returned v ∧ OwnT w' w.heap.size v (wA c s) ∧ Below w.heap.size w w'

set_option maxRecDepth 10000 in
set_option maxHeartbeats 4000000 in
theorem l17Cut_any (s : List UInt8) (w : World) (hl : s.length ≤ 1048576) : Calls Tryd.prog 15 #[.string (bs s), .int .u8 32] w (CtT 32 s w) := by
  obtain ⟨i0, hi, hz0, hz1, hz2⟩ := info_parts Tryd.infoStr
  have hsz := bs_size
  have hl0 := bs_list
  obtain ⟨n, hn⟩ : ∃ n, s.length = n := ⟨_, rfl⟩
  have HN := Lib.hid hn
  have hlen : (s.length : Int) = n := by rw [hn]
  rw [hn] at hl
  clear hn
  go_enter Tryd.func15, Tryd.ntmps15
  go_wp2_with fail
  generalize hW : World.alloc _ _ = W
  have HST := Lib.hid (show CtR 32 s n w (.slice (some ⟨w.heap.size, 0, none⟩) 0 0) (.int .i64 0) (.int .i64 0) W from ⟨[], 0, 0, rfl, rfl, by subst hW; exact World.ownsRow_lit w #[] 0 (Nat.le_refl _) (by decide) rfl, by subst hW; go_grown, by omega, by simp, fun _ => ⟨Nat.le_refl _, fun j x h1 h2 => by omega, rfl⟩, fun h => by omega⟩)
  clear hW
  go_loopw [5, 6, 7] (fun v f i wr => CtR 32 s n w v f i wr) (fun _ _ i _ => n + 1 - (intOf i).toNat)
  case atStart => exact HST.out
  case round =>
    obtain ⟨P, fN, iN, rfl, rfl, hown, hbw, hin, hPl, hgo, hend⟩ := hrel
    clear HST
    have HB := Lib.hid hbw
    have HEND := Lib.hid hend
    have hs3 : w.heap.size ≤ wr.heap.size := hbw.size
    clear hbw hend
    by_cases hlt : iN ≤ n
    · have hk' : (iN : Int) ≤ (n : Int) := by omega
      obtain ⟨hfi, hns, hwa⟩ := hgo hlt
      have HNS := Lib.hid hns
      have HWA := Lib.hid hwa
      clear hgo hns hwa
      obtain ⟨T, hT⟩ : ∃ T, (s.drop fN).take (iN - fN) = T := ⟨_, rfl⟩
      have hpt := fun W => rn_part (P := Tryd.prog) Tryd.underlying9 (l := s) (i := fN) (j := iN) (x := T) hfi (by rw [HN.out]; omega) hT .i64 .i64 W
      have HMID := Lib.hid (show (32 : UInt8) ∉ T by rw [← hT]; exact ct_mid hfi HNS.out)
      have HT := Lib.hid hT
      clear hT
      by_cases hie : iN = n
      · have hq : ((iN : Int) == n) = true := by rw [beq_iff_eq]; omega
        have HW1 := Lib.hid (show P ++ [T] = wA 32 s by
          rw [HWA.out]
          have e : s.drop fN = T := by
            rw [← HT.out, List.take_of_length_le (by rw [List.length_drop, HN.out]; omega)]
          rw [e, wA_last HMID.out])
        have HIE := Lib.hid hie
        clear hie
        go_wp2_with (at_builtin; refine wpList_append_own _ rfl _ _ 33 rfl w.heap.size 9 i0 (.string ⟨#[]⟩) 1 16 Tryd.underlying33 hi hz0 hz1 hz2 rfl (by decide) _ _ _ rfl (hown.alloc _) ⟨wr.heap.size, 0, none⟩ 1 1 [.string (bs T)] rfl rfl ?c1 ?c2 ?c3 ?c4 ?c5 ?_)
        case c1 =>
          intro j u hj
          match j, hj with
          | 0, hj => simp at hj; subst hj; simp [Addr.add]
        case c2 => intro u hu; simp at hu; subst hu; rfl
        case c3 => unfold maxLen; omega
        case c4 => omega
        case c5 => simp; omega
        · intro v' w4 hown4 hgrow hnone
          have hbA : Below wr.heap.size wr (wr.alloc (.cells #[.string (bs T)] 9)) := by go_grown
          have hownA := own_below hown hbA
          have hlow : Below w.heap.size wr w4 := (hbA.mono hs3).trans (grown_lowT hownA (Nat.le_refl _) (by have := hbA.size; omega) hgrow)
          have HN4 : Hid (OwnT w4 w.heap.size v' (P ++ [T])) := by
            show w4.ownsRow _ _ _ _ _ _
            simpa [stV] using hown4
          have HB4 := Lib.hid (HB.out.trans hlow)
          clear hown hown4 hgrow hbA hownA hlow hnone
          go_wp2
          go_roundw
          case rel => exact ⟨P ++ [T], iN + 1, iN + 1, by go_num, by go_num, HN4.out, HB4.out, by omega, by simp; omega, fun h => by have := HIE.out; omega, fun _ => HW1.out⟩
          case measure => simp [intOf]; omega
      · have hq : ((iN : Int) == n) = false := by rw [beq_eq_false_iff_ne]; omega
        have hin2 : iN < n := by omega
        obtain ⟨y, hy⟩ : ∃ y, s[iN]? = some y := ⟨_, List.getElem?_eq_getElem (by rw [HN.out]; exact hin2)⟩
        have hix := fun W => run_at (P := Tryd.prog) Tryd.underlying9 hy .i64 W
        obtain ⟨z, hz⟩ : ∃ z : Int, (y.toNat : Int) = z := ⟨_, rfl⟩
        have h32 : (z == 32) = (y == 32) := by rw [← hz]; exact u8_eq y 32
        rw [hz] at hix
        have HY := Lib.hid hy
        clear hz hy hie
        rcases q32 : (y == 32) with _ | _
        · have HSF := Lib.hid (show y ≠ 32 from by simpa using q32)
          rw [q32] at h32
          have HO := Lib.hid hown
          clear q32 hown
          go_wp2
          go_roundw
          case rel => exact ⟨P, fN, iN + 1, rfl, by go_num, HO.out, HB.out, by omega, by omega, fun _ => ⟨by omega, fun j x h1 h2 h3 => by
            by_cases hj : j = iN
            · subst hj; rw [HY.out] at h3; obtain rfl := Option.some.inj h3; exact HSF.out
            · exact HNS.out j x h1 (by omega) h3, HWA.out⟩, fun h => by omega⟩
          case measure => simp [intOf]; omega
        · have hy32 : y = 32 := by simpa using q32
          have HW1 := Lib.hid (show wA 32 s = (P ++ [T]) ++ wA 32 (s.drop (iN + 1)) by
            rw [HWA.out]
            have e := ct_split (c := 32) hfi (by rw [← hy32]; exact HY.out)
            rw [HT.out] at e
            rw [e, wA_cons HMID.out]
            simp)
          rw [q32] at h32
          clear q32 hy32
          go_wp2_with (at_builtin; refine wpList_append_own _ rfl _ _ 33 rfl w.heap.size 9 i0 (.string ⟨#[]⟩) 1 16 Tryd.underlying33 hi hz0 hz1 hz2 rfl (by decide) _ _ _ rfl (hown.alloc _) ⟨wr.heap.size, 0, none⟩ 1 1 [.string (bs T)] rfl rfl ?c1 ?c2 ?c3 ?c4 ?c5 ?_)
          case c1 =>
            intro j u hj
            match j, hj with
            | 0, hj => simp at hj; subst hj; simp [Addr.add]
          case c2 => intro u hu; simp at hu; subst hu; rfl
          case c3 => unfold maxLen; omega
          case c4 => omega
          case c5 => simp; omega
          · intro v' w4 hown4 hgrow hnone
            have hbA : Below wr.heap.size wr (wr.alloc (.cells #[.string (bs T)] 9)) := by go_grown
            have hownA := own_below hown hbA
            have hlow : Below w.heap.size wr w4 := (hbA.mono hs3).trans (grown_lowT hownA (Nat.le_refl _) (by have := hbA.size; omega) hgrow)
            have HN4 : Hid (OwnT w4 w.heap.size v' (P ++ [T])) := by
              show w4.ownsRow _ _ _ _ _ _
              simpa [stV] using hown4
            have HB4 := Lib.hid (HB.out.trans hlow)
            clear hown hown4 hgrow hbA hownA hlow hnone
            go_wp2
            go_roundw
            case rel => exact ⟨P ++ [T], iN + 1, iN + 1, by go_num, by go_num, HN4.out, HB4.out, by omega, by simp; omega, fun _ => ⟨Nat.le_refl _, fun j x h1 h2 => by omega, HW1.out⟩, fun h => by omega⟩
            case measure => simp [intOf]; omega
    · have hk' : ¬ (iN : Int) ≤ (n : Int) := by omega
      have HF2 := Lib.hid (HEND.out (by omega))
      have HO := Lib.hid hown
      clear hown
      go_wp2
      go_ret
      exact ⟨_, rfl, by rw [← HF2.out]; exact HO.out, HB.out⟩

end Go.Proofs.YtjgmoledhkikcaaDoor
