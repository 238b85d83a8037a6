/- What the results of chapter 7's functions tell of each other: the mathematics of its laws over bytes. -/
import Derived.Test.YtpheihejgnlanaaDoorSf7
import Derived.Test.YtpheihejgnlanaaDoorSd7
import Derived.Test.YtpheihejgnlanaaDoorSfM
namespace Go.Proofs.YtpheihejgnlanaaDoor
open Go.RowKit

/-- A sequence of bits that repeats. -/
def Rp (a : Nat → UInt8) : Prop := ∃ h l : List UInt8, l ≠ [] ∧ (∀ x ∈ h, x = 48 ∨ x = 49) ∧ (∀ x ∈ l, x = 48 ∨ x = 49) ∧ atS h l = a
theorem rp_sv {h l : List UInt8} (hv : svS h l = true) : Rp (atS h l) := by
  obtain ⟨q1, q2, _, _, _, q6⟩ := svS_parts hv
  exact ⟨h, l, q6, q1, q2, rfl⟩
theorem rp_bits {a : Nat → UInt8} (h : Rp a) : Bits a := by
  obtain ⟨h, l, q1, q2, q3, rfl⟩ := h
  exact bits_at q1 q2 q3
theorem rp_ex {a : Nat → UInt8} (h : Rp a) : ∃ N p, 0 < p ∧ PerS a N p := by
  obtain ⟨h, l, q1, q2, q3, rfl⟩ := h
  exact ⟨h.length, l.length, List.length_pos_iff.2 q1, per_at h l⟩
theorem rp_per {a : Nat → UInt8} {N p : Nat} (hb : Bits a) (hp0 : 0 < p) (hp : PerS a N p) : Rp a := by
  refine ⟨rawH a N, rawL a N p, fun e => ?_, fun x hx => ?_, fun x hx => ?_, raw_at hp0 hp⟩
  · have : (rawL a N p).length = p := by simp [rawL]
    rw [e] at this
    simp at this
    omega
  · obtain ⟨i, _, rfl⟩ := List.mem_map.1 hx
    exact hb i
  · obtain ⟨i, _, rfl⟩ := List.mem_map.1 hx
    exact hb _
theorem rp_two {a b : Nat → UInt8} (ha : Rp a) (hb : Rp b) : ∃ N p, 0 < p ∧ PerS a N p ∧ PerS b N p := by
  obtain ⟨N, p, p0, hp⟩ := rp_ex ha
  obtain ⟨M, q, q0, hq⟩ := rp_ex hb
  exact ⟨max N M, p * q, Nat.mul_pos p0 q0, per_up (per_lcm hp (Nat.dvd_mul_right p q)) (Nat.le_max_left _ _), per_up (per_lcm hq (Nat.dvd_mul_left q p)) (Nat.le_max_right _ _)⟩
theorem bits_of {a : Nat → UInt8} {f : Nat → Bool} (h : ∀ n, a n = bitS (f n)) : Bits a := fun n => by rw [h]; cases f n <;> simp [bitS]
theorem rp_or {a b : Nat → UInt8} (ha : Rp a) (hb : Rp b) : Rp (orA a b) := by
  obtain ⟨N, p, p0, h1, h2⟩ := rp_two ha hb
  exact rp_per (bits_of fun _ => rfl) p0 (per_or h1 h2)
theorem rp_and {a b : Nat → UInt8} (ha : Rp a) (hb : Rp b) : Rp (andA a b) := by
  obtain ⟨N, p, p0, h1, h2⟩ := rp_two ha hb
  exact rp_per (bits_of fun _ => rfl) p0 (per_and h1 h2)
theorem rp_not {a : Nat → UInt8} (ha : Rp a) : Rp (notA a) := by
  obtain ⟨N, p, p0, h1⟩ := rp_ex ha
  exact rp_per (bits_of fun _ => rfl) p0 (per_not h1)
theorem rp_sm {a b : Nat → UInt8} (ha : Rp a) (hb : Rp b) : Rp (smA a b) := by
  obtain ⟨N, p, p0, h1⟩ := rp_ex ha
  obtain ⟨M, q, q0, h2⟩ := rp_ex hb
  exact rp_per (bits_of fun _ => rfl) (Nat.mul_pos p0 q0) (per_sm h1 h2)
theorem rp_pr (f s : Nat) : Rp (prA f s) := by
  by_cases hs : s = 0
  · subst hs
    exact rp_per (bits_of fun _ => rfl) (by decide) (per_pr0 f)
  · exact rp_per (bits_of fun _ => rfl) (by omega) (per_pr1 f (by omega))
theorem rp_sh {a : Nat → UInt8} (ha : Rp a) (k : Nat) : Rp (shA a k) := by
  have hb := rp_bits ha
  obtain ⟨h, l, q1, q2, q3, rfl⟩ := ha
  exact rp_per (bits_sh hb k) (List.length_pos_iff.2 q1) (per_sh h l k)
theorem rp_st {a : Nat → UInt8} (ha : Rp a) {k : Nat} (hk : 1 ≤ k) : Rp (stA a k) := by
  have hb := rp_bits ha
  obtain ⟨h, l, q1, q2, q3, rfl⟩ := ha
  exact rp_per (bits_st hb k) (Nat.mul_pos (List.length_pos_iff.2 q1) hk) (per_st h l hk q1)
theorem rp_dv {a : Nat → UInt8} (ha : Rp a) {k : Nat} (hk : 1 ≤ k) : Rp (dvA a k) := by
  have hb := rp_bits ha
  obtain ⟨N, p, p0, h1⟩ := rp_ex ha
  exact rp_per (bits_dv hb k) p0 (per_dv h1 hk)
/-- What a result that is a set tells. -/
theorem rp_yes {a : Nat → UInt8} {H L : List UInt8} (h : Rp a) (e : resA a = ((H, L), true)) : svS H L = true ∧ atS H L = a ∧ NFS H L ∧ nfA a = (H, L) := by
  obtain ⟨h, l, q1, q2, q3, rfl⟩ := h
  rw [res_nf q1] at e
  split at e
  · rename_i q
    have e1 : nfS h l = (H, L) := congrArg Prod.fst e
    have hs := sv_nf q1 q2 q3
    have hp := nfS_spec (h := h) q1
    rw [e1] at hs hp q
    exact ⟨by rw [hs]; exact decide_eq_true q, funext hp.2.1, hp.1, by rw [nfA_at q1, e1]⟩
  · exact absurd (congrArg Prod.snd e) (by simp)
theorem rp_no {a : Nat → UInt8} {X : List UInt8 × List UInt8} (e : resA a = (X, false)) : X = ([], []) := by
  unfold resA at e
  split at e
  · exact absurd (congrArg Prod.snd e) (by simp)
  · exact (congrArg Prod.fst e).symm
theorem res_small (a : Nat → UInt8) : (resA a).1.1.length ≤ 400 ∧ (resA a).1.2.length ≤ 240 := by
  unfold resA
  split
  · rename_i q
    exact q
  · simp
theorem sv_empty : svS [] [] = false := by decide
/-- A normal form that is valid is its own result. -/
theorem res_again {a : Nat → UInt8} {H L : List UInt8} (h : Rp a) (e : resA a = ((H, L), true)) : resA (atS H L) = ((H, L), true) := by
  obtain ⟨_, e1, _, _⟩ := rp_yes h e
  rw [e1, e]
/-- The normal form of a valid set is valid. -/
theorem res_ok {h l : List UInt8} (hv : svS h l = true) : (resA (atS h l)).2 = true := by rw [res_valid hv]
theorem map_flip_last {h : List UInt8} : (h.map fun x => 97 - x).getLast? = h.getLast?.map fun x => 97 - x := by simp
theorem flip_inj {x y : UInt8} (hx : x = 48 ∨ x = 49) (hy : y = 48 ∨ y = 49) (e : (97 : UInt8) - x = 97 - y) : x = y := by
  rcases hx with rfl | rfl <;> rcases hy with rfl | rfl <;> first | rfl | exact absurd e (by decide)
/-- The other set is as short. -/
theorem nf_not {H L : List UInt8} (hn : NFS H L) (h1 : ∀ x ∈ H, x = 48 ∨ x = 49) (h2 : ∀ x ∈ L, x = 48 ∨ x = 49) : NFS (H.map fun x => 97 - x) (L.map fun x => 97 - x) := by
  obtain ⟨n1, n2, n3⟩ := hn
  have ea : atS (H.map fun x => 97 - x) (L.map fun x => 97 - x) = notA (atS H L) := funext (not_at H L n1 h1 h2)
  have hb := bits_at n1 h1 h2
  refine ⟨by simpa using n1, ?_, ?_⟩
  · rw [ea, List.length_map]
    rintro d d0 d1 d2 ⟨M, hM⟩
    refine n2 d d0 d1 d2 ⟨M, ?_⟩
    have := per_not hM
    rwa [not_not' hb] at this
  · rcases n3 with rfl | n3
    · exact .inl rfl
    · refine .inr fun e => n3 ?_
      rw [map_flip_last, map_flip_last] at e
      cases hH : H.getLast? with
      | none =>
        rw [hH] at e
        cases hL : L.getLast? with
        | none => rfl
        | some y => rw [hL] at e; simp at e
      | some x =>
        rw [hH] at e
        cases hL : L.getLast? with
        | none => rw [hL] at e; simp at e
        | some y =>
          rw [hL] at e
          have := flip_inj (h1 x (List.mem_of_getLast? hH)) (h2 y (List.mem_of_getLast? hL)) (by simpa using e)
          rw [this]
theorem res_not {a : Nat → UInt8} (h : Rp a) : (resA (notA a)).2 = (resA a).2 := by
  obtain ⟨h, l, q1, q2, q3, rfl⟩ := h
  obtain ⟨b1, b2, b3⟩ := nf_bits q1 q2 q3
  have hp := nfS_spec (h := h) q1
  have e1 : nfA (notA (atS h l)) = ((nfS h l).1.map (fun x => 97 - x), (nfS h l).2.map fun x => 97 - x) := by
    have ea : atS ((nfS h l).1.map fun x => 97 - x) ((nfS h l).2.map fun x => 97 - x) = notA (atS h l) := by
      rw [show notA (atS h l) = notA (atS (nfS h l).1 (nfS h l).2) by rw [show atS (nfS h l).1 (nfS h l).2 = atS h l from funext hp.2.1]]
      exact funext (not_at _ _ b3 b1 b2)
    rw [← ea, nfA_at (by simpa using b3), nfS_nf (nf_not hp.1 b1 b2)]
  rw [res_nf q1]
  unfold resA
  rw [e1]
  simp only [List.length_map]
  split <;> simp

/-- Of results: the law's names. -/
theorem comb_yes {g : Bool → Bool → Bool} {h l h' l' X Y : List UInt8} (e : combR g h l h' l' = ((X, Y), true)) : svS h l = true ∧ svS h' l' = true ∧ resA (fun n => bitS (g (inS (atS h l) n) (inS (atS h' l') n))) = ((X, Y), true) := by
  unfold combR at e
  split at e
  · rename_i q
    rw [Bool.and_eq_true] at q
    exact ⟨q.1, q.2, e⟩
  · exact absurd (congrArg Prod.snd e) (by simp)
theorem comb_mk {g : Bool → Bool → Bool} {h l h' l' : List UInt8} (h1 : svS h l = true) (h2 : svS h' l' = true) : combR g h l h' l' = resA (fun n => bitS (g (inS (atS h l) n) (inS (atS h' l') n))) := by
  unfold combR
  rw [h1, h2]
  rfl
theorem hn_sv {h l : List UInt8} (hv : svS h l = true) (n : Nat) : hnB h l (n : Int) = inS (atS h l) n := by
  unfold hnB
  rw [hv, decide_eq_true (by omega)]
  rfl
theorem cb_sv {h l : List UInt8} (hv : svS h l = true) (n : Nat) (hn : n ≤ 1000000) : cbR h l (n : Int) = (cntA (atS h l) n : Nat) := by
  unfold cbR
  rw [hv, decide_eq_true (by omega), decide_eq_true (by omega)]
  rfl
theorem rp_or_of {h l h' l' : List UInt8} (h1 : svS h l = true) (h2 : svS h' l' = true) : Rp (orA (atS h l) (atS h' l')) := rp_or (rp_sv h1) (rp_sv h2)

theorem um_law {h l h' l' X U Y V : List UInt8} (e1 : combR (fun x y => x || y) h l h' l' = ((X, U), true)) (e2 : combR (fun x y => x && y) h l h' l' = ((Y, V), true)) :
    svS h l = true ∧ svS h' l' = true ∧ svS X U = true ∧ svS Y V = true ∧ (∀ n : Nat, hnB X U n = (hnB h l n || hnB h' l' n)) ∧ (∀ n : Nat, hnB Y V n = (hnB h l n && hnB h' l' n)) ∧
    combR (fun x y => x || y) h' l' h l = ((X, U), true) ∧ combR (fun x y => x && y) h' l' h l = ((Y, V), true) ∧ combR (fun x y => x || y) X U h l = ((X, U), true) ∧
    ∃ a b c d : Nat, cbR X U 50 = a ∧ cbR Y V 50 = b ∧ cbR h l 50 = c ∧ cbR h' l' 50 = d ∧ a + b = c + d ∧ a ≤ 50 ∧ b ≤ 50 ∧ c ≤ 50 ∧ d ≤ 50 := by
  obtain ⟨v1, v2, r1⟩ := comb_yes e1
  obtain ⟨_, _, r2⟩ := comb_yes e2
  have r1' : resA (orA (atS h l) (atS h' l')) = ((X, U), true) := r1
  have r2' : resA (andA (atS h l) (atS h' l')) = ((Y, V), true) := r2
  obtain ⟨s1, t1, _⟩ := rp_yes (rp_or (rp_sv v1) (rp_sv v2)) r1'
  obtain ⟨s2, t2, _⟩ := rp_yes (rp_and (rp_sv v1) (rp_sv v2)) r2'
  refine ⟨v1, v2, s1, s2, fun n => ?_, fun n => ?_, ?_, ?_, ?_, _, _, _, _, cb_sv s1 50 (by decide), cb_sv s2 50 (by decide), cb_sv v1 50 (by decide), cb_sv v2 50 (by decide), ?_, cnt_le _ _, cnt_le _ _, cnt_le _ _, cnt_le _ _⟩
  · rw [hn_sv s1, hn_sv v1, hn_sv v2, t1, in_or]
  · rw [hn_sv s2, hn_sv v1, hn_sv v2, t2, in_and]
  · rw [comb_mk v2 v1]
    show resA (orA (atS h' l') (atS h l)) = _
    rw [or_comm', r1']
  · rw [comb_mk v2 v1]
    show resA (andA (atS h' l') (atS h l)) = _
    rw [and_comm', r2']
  · rw [comb_mk s1 v1]
    show resA (orA (atS X U) (atS h l)) = _
    rw [t1, or_again, r1']
  · rw [t1, t2]
    exact cnt_both _ _ 50

/-- The other set. -/
theorem not_law {h l A B : List UInt8} (e : combR (fun x _ => !x) h l h l = ((A, B), true)) :
    svS h l = true ∧ svS A B = true ∧ atS A B = notA (atS h l) ∧ combR (fun x _ => !x) A B A B = resA (atS h l) ∧ (∀ n : Nat, hnB A B n = !hnB h l n) := by
  obtain ⟨v1, _, r1⟩ := comb_yes e
  have r1' : resA (notA (atS h l)) = ((A, B), true) := r1
  obtain ⟨s1, t1, _⟩ := rp_yes (rp_not (rp_sv v1)) r1'
  refine ⟨v1, s1, t1, ?_, fun n => ?_⟩
  · rw [comb_mk s1 s1]
    show resA (notA (atS A B)) = _
    rw [t1, not_not' (rp_bits (rp_sv v1))]
  · rw [hn_sv s1, hn_sv v1, t1, in_not]
theorem ot_law {h l h' l' A B C D X U : List UInt8} (e1 : combR (fun x _ => !x) h l h l = ((A, B), true)) (e2 : combR (fun x _ => !x) h' l' h' l' = ((C, D), true)) (e3 : combR (fun x y => x || y) h l h' l' = ((X, U), true)) :
    ∃ N M P Q, combR (fun x _ => !x) A B A B = ((N, M), true) ∧ normR h l = ((N, M), true) ∧ combR (fun x _ => !x) X U X U = ((P, Q), true) ∧ combR (fun x y => x && y) A B C D = ((P, Q), true) ∧
      (∀ n : Nat, hnB A B n = !hnB h l n) ∧ svS h l = true ∧ svS h' l' = true ∧ svS A B = true ∧ svS C D = true ∧ svS X U = true := by
  obtain ⟨v1, s1, t1, c1, n1⟩ := not_law e1
  obtain ⟨v2, s2, t2, c2, n2⟩ := not_law e2
  obtain ⟨_, _, r3⟩ := comb_yes e3
  have r3' : resA (orA (atS h l) (atS h' l')) = ((X, U), true) := r3
  have ho := rp_or (rp_sv v1) (rp_sv v2)
  obtain ⟨s3, t3, _⟩ := rp_yes ho r3'
  have ey : (resA (notA (orA (atS h l) (atS h' l')))).2 = true := by rw [res_not ho, r3']
  refine ⟨(nfS h l).1, (nfS h l).2, (resA (notA (orA (atS h l) (atS h' l')))).1.1, (resA (notA (orA (atS h l) (atS h' l')))).1.2, ?_, ?_, ?_, ?_, n1, v1, v2, s1, s2, s3⟩
  · rw [c1, res_valid v1]
  · unfold normR
    rw [if_pos v1, res_valid v1]
  · rw [comb_mk s3 s3]
    show resA (notA (atS X U)) = _
    rw [t3, ← ey]
  · rw [comb_mk s1 s2]
    show resA (andA (atS A B) (atS C D)) = _
    rw [t1, t2, ← not_or', ← ey]
theorem co_law {h l : List UInt8} {n : Int} (h0 : ¬ cbR h l n < 0) (hm : n ≠ 1000000) : ∃ k : Nat, n = k ∧ k < 1000000 ∧ svS h l = true ∧ ∃ c, cbR h l n = (c : Nat) ∧ c ≤ k ∧ cbR h l ((k + 1 : Nat) : Int) = ((c + (hnB h l k).toNat : Nat) : Int) ∧
    ∀ A B, combR (fun x _ => !x) h l h l = ((A, B), true) → svS A B = true ∧ ∃ d : Nat, cbR A B n = d ∧ c + d = k := by
  unfold cbR at h0
  split at h0
  · rename_i q
    rw [Bool.and_eq_true, Bool.and_eq_true, decide_eq_true_eq, decide_eq_true_eq] at q
    obtain ⟨⟨q1, q2⟩, q3⟩ := q
    obtain ⟨k, rfl⟩ := Int.eq_ofNat_of_zero_le q2
    refine ⟨k, rfl, by omega, q1, cntA (atS h l) k, cb_sv q1 k (by omega), cnt_le _ _, ?_, fun A B e => ?_⟩
    · rw [cb_sv q1 (k + 1) (by omega), hn_sv q1]
      rfl
    · obtain ⟨_, s1, t1, _⟩ := not_law e
      refine ⟨s1, _, cb_sv s1 k (by omega), ?_⟩
      rw [t1]
      exact cnt_not _ _
  · exact absurd h0 (by decide)

theorem sh_yes {h l X Y : List UInt8} {k : Int} (e : shR h l k = ((X, Y), true)) : ∃ K : Nat, k = K ∧ K ≤ 400 ∧ svS h l = true ∧ svS X Y = true ∧ atS X Y = shA (atS h l) K ∧ resA (shA (atS h l) K) = ((X, Y), true) := by
  unfold shR at e
  split at e
  · rename_i q
    rw [Bool.and_eq_true, decide_eq_true_eq] at q
    obtain ⟨q1, q2, q3⟩ := q
    obtain ⟨K, rfl⟩ := Int.eq_ofNat_of_zero_le q2
    rw [Int.toNat_natCast] at e
    obtain ⟨s1, t1, _⟩ := rp_yes (rp_sh (rp_sv q1) K) e
    exact ⟨K, rfl, by omega, q1, s1, t1, e⟩
  · exact absurd (congrArg Prod.snd e) (by simp)
theorem pr_yes {f s : Int} {X Y : List UInt8} (e : prR f s = ((X, Y), true)) : svS X Y = true ∧ atS X Y = prA f.toNat s.toNat := by
  unfold prR at e
  split at e
  · obtain ⟨s1, t1, _⟩ := rp_yes (rp_pr _ _) e
    exact ⟨s1, t1⟩
  · exact absurd (congrArg Prod.snd e) (by simp)
theorem pr_no {f s : Int} {X : List UInt8 × List UInt8} (e : prR f s = (X, false)) : X = ([], []) := by
  unfold prR at e
  split at e
  · exact rp_no e
  · exact (congrArg Prod.fst e).symm
theorem sm_yes {h l h' l' X Y : List UInt8} (e : smR h l h' l' = ((X, Y), true)) : svS h l = true ∧ svS h' l' = true ∧ l.length * l'.length ≤ 400 ∧ svS X Y = true ∧ atS X Y = smA (atS h l) (atS h' l') ∧ resA (smA (atS h l) (atS h' l')) = ((X, Y), true) := by
  unfold smR at e
  split at e
  · rename_i q
    rw [Bool.and_eq_true, Bool.and_eq_true, decide_eq_true_eq] at q
    obtain ⟨⟨q1, q2⟩, q3⟩ := q
    obtain ⟨s1, t1, _⟩ := rp_yes (rp_sm (rp_sv q1) (rp_sv q2)) e
    exact ⟨q1, q2, q3, s1, t1, e⟩
  · exact absurd (congrArg Prod.snd e) (by simp)
theorem sh_law {h l X Y : List UInt8} {k : Int} (e : shR h l k = ((X, Y), true)) : ∃ K : Nat, k = K ∧ K ≤ 400 ∧ svS h l = true ∧ svS X Y = true ∧
    (∀ n : Nat, hnB X Y ((n + K : Nat) : Int) = hnB h l n) ∧ (∀ n : Nat, n < K → hnB X Y n = false) ∧
    (∀ (m : Nat) P Q R S, shR X Y m = ((P, Q), true) → shR h l ((K + m : Nat) : Int) = ((R, S), true) → (P, Q) = (R, S)) ∧
    (∀ P Q R S, (prR k 0).1 = (P, Q) → smR h l P Q = ((R, S), true) → (R, S) = (X, Y)) := by
  obtain ⟨K, rfl, hK, v1, s1, t1, r1⟩ := sh_yes e
  refine ⟨K, rfl, hK, v1, s1, fun n => ?_, fun n hn => ?_, fun m P Q R S e1 e2 => ?_, fun P Q R S e1 e2 => ?_⟩
  · rw [hn_sv s1, hn_sv v1, t1, in_sh, decide_eq_true (by omega), Nat.add_sub_cancel]
    rfl
  · rw [hn_sv s1, t1, in_sh, decide_eq_false (by omega)]
    rfl
  · obtain ⟨M, hM, _, _, _, _, r2⟩ := sh_yes e1
    obtain ⟨N, hN, _, _, _, _, r3⟩ := sh_yes e2
    obtain rfl : M = m := by omega
    obtain rfl : N = K + M := by omega
    rw [t1, sh_sh, r3] at r2
    exact (congrArg Prod.fst r2).symm
  · obtain ⟨_, v2, _, _, _, r2⟩ := sm_yes e2
    have hp : prR (K : Int) 0 = ((P, Q), (prR (K : Int) 0).2) := by rw [← e1]
    cases hb : (prR (K : Int) 0).2 with
    | false =>
      rw [hb] at hp
      have := pr_no hp
      rw [Prod.mk.injEq] at this
      rw [this.1, this.2, sv_empty] at v2
      exact absurd v2 (by decide)
    | true =>
      rw [hb] at hp
      obtain ⟨_, t2⟩ := pr_yes hp
      rw [t2] at r2
      have e0 : (0 : Int).toNat = 0 := rfl
      rw [Int.toNat_natCast, e0, sm_one (rp_bits (rp_sv v1)), r1] at r2
      exact (congrArg Prod.fst r2).symm
theorem st_law {h l X Y : List UInt8} {k : Int} (e : stR h l k = ((X, Y), true)) : ∃ K N M : _, k = ((K : Nat) : Int) ∧ 1 ≤ K ∧ K ≤ 240 ∧ svS h l = true ∧ svS X Y = true ∧ (∀ n : Nat, hnB X Y n = (decide (n % K = 0) && hnB h l ((n / K : Nat) : Int))) ∧ dvR X Y k = ((N, M), true) ∧ normR h l = ((N, M), true) := by
  unfold stR at e
  split at e
  · rename_i q
    rw [Bool.and_eq_true, decide_eq_true_eq] at q
    obtain ⟨q1, q2, q3⟩ := q
    obtain ⟨K, rfl⟩ := Int.eq_ofNat_of_zero_le (show 0 ≤ k by omega)
    rw [Int.toNat_natCast] at e
    have hK : 1 ≤ K := by omega
    obtain ⟨s1, t1, _⟩ := rp_yes (rp_st (rp_sv q1) hK) e
    refine ⟨K, (nfS h l).1, (nfS h l).2, rfl, hK, by omega, q1, s1, fun n => ?_, ?_, ?_⟩
    · rw [hn_sv s1, hn_sv q1, t1, in_st]
    · unfold dvR
      rw [s1, decide_eq_true (show (1 : Int) ≤ (K : Int) ∧ (K : Int) ≤ 240 by omega), Int.toNat_natCast, t1, dv_st hK]
      simp [res_valid q1]
    · unfold normR
      rw [if_pos q1, res_valid q1]
  · exact absurd (congrArg Prod.snd e) (by simp)
theorem dv_law {h l X Y : List UInt8} {k : Int} (e : dvR h l k = ((X, Y), true)) : ∃ K : Nat, k = K ∧ 1 ≤ K ∧ K ≤ 240 ∧ svS h l = true ∧ svS X Y = true ∧ (∀ n : Nat, hnB X Y n = hnB h l ((K * n : Nat) : Int)) ∧
    (∀ P Q R S T U, stR X Y k = ((P, Q), true) → prR 0 k = ((R, S), true) → combR (fun x y => x && y) h l R S = ((T, U), true) → (P, Q) = (T, U)) := by
  unfold dvR at e
  split at e
  · rename_i q
    rw [Bool.and_eq_true, decide_eq_true_eq] at q
    obtain ⟨q1, q2, q3⟩ := q
    obtain ⟨K, rfl⟩ := Int.eq_ofNat_of_zero_le (show 0 ≤ k by omega)
    rw [Int.toNat_natCast] at e
    have hK : 1 ≤ K := by omega
    obtain ⟨s1, t1, _⟩ := rp_yes (rp_dv (rp_sv q1) hK) e
    refine ⟨K, rfl, hK, by omega, q1, s1, fun n => ?_, fun P Q R S T U e1 e2 e3 => ?_⟩
    · rw [hn_sv s1, hn_sv q1, t1]
      rfl
    · unfold stR at e1
      rw [s1, decide_eq_true (show (1 : Int) ≤ (K : Int) ∧ (K : Int) ≤ 240 by omega), Int.toNat_natCast, t1, st_dv (rp_bits (rp_sv q1)) hK] at e1
      obtain ⟨s2, t2⟩ := pr_yes e2
      obtain ⟨_, _, r3⟩ := comb_yes e3
      have r3' : resA (andA (atS h l) (atS R S)) = ((T, U), true) := r3
      have e0 : (0 : Int).toNat = 0 := rfl
      rw [t2, Int.toNat_natCast, e0] at r3'
      simp only [Bool.and_self, if_true] at e1
      rw [r3'] at e1
      exact (congrArg Prod.fst e1).symm
  · exact absurd (congrArg Prod.snd e) (by simp)
theorem nfs_one : NFS [49] [48] := ⟨by simp, fun d d0 d1 _ => by simp at d1; omega, .inr (by decide)⟩
theorem pr_zero : prR 0 0 = (([49], [48]), true) := by
  have ea : atS (List.replicate 0 48 ++ [49]) [48] = prA 0 0 := funext fun n => pr_at0 0 n
  unfold prR
  have e0 : (0 : Int).toNat = 0 := rfl
  rw [if_pos (by decide), e0, ← ea]
  have : nfS (List.replicate 0 48 ++ [49]) [48] = ([49], [48]) := nfS_nf nfs_one
  rw [res_nf (by simp), this]
  rfl
theorem su_law {h l h' l' X Y : List UInt8} (e : smR h l h' l' = ((X, Y), true)) : svS h l = true ∧ svS h' l' = true ∧ svS X Y = true ∧ (∀ n : Nat, hnB X Y n = sumB (atS h l) (atS h' l') n) ∧ smR h' l' h l = ((X, Y), true) ∧
    ∃ N M, smR h l [49] [48] = ((N, M), true) ∧ normR h l = ((N, M), true) := by
  obtain ⟨v1, v2, v3, s1, t1, r1⟩ := sm_yes e
  obtain ⟨q1, q2, q3, q4, q5, q6⟩ := svS_parts v1
  refine ⟨v1, v2, s1, fun n => ?_, ?_, (nfS h l).1, (nfS h l).2, ?_, ?_⟩
  · rw [hn_sv s1, t1, in_sm]
  · unfold smR
    rw [v1, v2, decide_eq_true (by rw [Nat.mul_comm]; exact v3), sm_comm]
    exact r1
  · unfold smR
    rw [v1, show svS [49] [48] = true by decide, decide_eq_true (by simp; omega)]
    have ea : atS (List.replicate 0 48 ++ [49]) [48] = prA 0 0 := funext fun n => pr_at0 0 n
    have ea' : atS [49] [48] = prA 0 0 := ea
    rw [ea', sm_one (rp_bits (rp_sv v1)), sh_zero]
    simp [res_valid v1]
  · unfold normR
    rw [if_pos v1, res_valid v1]
theorem sn_law {h l h' l' h2 l2 X Y P Q R S : List UInt8} (e1 : smR h l h' l' = ((X, Y), true)) (e2 : smR h l h2 l2 = ((P, Q), true)) (e3 : combR (fun x y => x || y) h' l' h2 l2 = ((R, S), true)) :
    ∀ A B C D, smR h l R S = ((A, B), true) → combR (fun x y => x || y) X Y P Q = ((C, D), true) → (A, B) = (C, D) := by
  intro A B C D e4 e5
  obtain ⟨v1, v2, _, s1, t1, r1⟩ := sm_yes e1
  obtain ⟨_, v3, _, s2, t2, r2⟩ := sm_yes e2
  obtain ⟨_, _, r3⟩ := comb_yes e3
  have r3' : resA (orA (atS h' l') (atS h2 l2)) = ((R, S), true) := r3
  obtain ⟨s3, t3, _⟩ := rp_yes (rp_or (rp_sv v2) (rp_sv v3)) r3'
  obtain ⟨_, _, _, _, _, r4⟩ := sm_yes e4
  obtain ⟨_, _, r5⟩ := comb_yes e5
  have r5' : resA (orA (atS X Y) (atS P Q)) = ((C, D), true) := r5
  rw [t3, sm_or, ← t1, ← t2, r5'] at r4
  exact (congrArg Prod.fst r4).symm

/-- A number and the one a loop later. -/
theorem hn_law {h l : List UInt8} (hv : svS h l = true) (n : Nat) : hnB h l ((n + l.length : Nat) : Int) = (if n < h.length then hnB h l ((n + l.length : Nat) : Int) else hnB h l n) := by
  split
  · rfl
  · rw [hn_sv hv, hn_sv hv]
    unfold inS
    rw [per_at h l n (by omega)]
theorem hn_head {h l : List UInt8} (hv : svS h l = true) {n : Nat} (hn : n < h.length) : hnB h l n = (h.getD n 0 == 49) := by
  rw [hn_sv hv]
  unfold inS
  rw [at_head hn]
theorem hn_loop {h l : List UInt8} (hv : svS h l = true) {n : Nat} (hn : h.length ≤ n) (hn2 : n < h.length + l.length) : hnB h l n = (l.getD (n - h.length) 0 == 49) := by
  rw [hn_sv hv]
  unfold inS
  obtain ⟨i, rfl⟩ : ∃ i, n = h.length + i := ⟨n - h.length, by omega⟩
  rw [at_loop (by omega), Nat.add_sub_cancel_left]
theorem nr_law {h l : List UInt8} (hv : svS h l = true) : ∃ X Y, normR h l = ((X, Y), true) ∧ svS X Y = true ∧ normR X Y = ((X, Y), true) ∧ (∀ n : Nat, hnB X Y n = hnB h l n) ∧ X.length ≤ h.length ∧ Y.length ≤ l.length ∧
    (∀ d, 1 ≤ d → d < Y.length → Y.length % d = 0 → ¬ Y.drop d = Y.take (Y.length - d)) ∧ (X = [] ∨ X.getD (X.length - 1) 0 ≠ Y.getD (Y.length - 1) 0) := by
  have e0 : normR h l = (nfS h l, true) := by unfold normR; rw [if_pos hv, res_valid hv]
  obtain ⟨_, _, _, _, _, q6⟩ := svS_parts hv
  have hs := nfS_spec (h := h) q6
  obtain ⟨s1, t1, n1, r1⟩ := rp_yes (H := (nfS h l).1) (L := (nfS h l).2) (rp_sv hv) (res_valid hv)
  refine ⟨(nfS h l).1, (nfS h l).2, e0, s1, ?_, fun n => ?_, hs.2.2.1, hs.2.2.2.1, fun d d0 d1 d2 e => ?_, ?_⟩
  · unfold normR
    rw [if_pos s1, t1, res_valid hv]
  · rw [hn_sv s1, hn_sv hv, t1]
  · exact n1.2.1 d (by omega) d1 (Nat.dvd_of_mod_eq_zero d2) ⟨_, rep_per (h := (nfS h l).1) (Nat.dvd_of_mod_eq_zero d2) e⟩
  · rcases n1.2.2 with h0 | h0
    · exact .inl h0
    · by_cases hX : (nfS h l).1 = []
      · exact .inl hX
      · right
        intro e
        apply h0
        rw [last_getD hX, last_getD n1.1, e]
theorem nr_no {h l : List UInt8} (hv : svS h l = false) : normR h l = (([], []), false) := by
  unfold normR
  rw [if_neg (by rw [hv]; decide)]
theorem ss_sym (h l h' l' : List UInt8) : ssB h' l' h l = ssB h l h' l' := by
  unfold ssB
  rw [Bool.and_comm (svS h' l')]
  congr 1
  rw [decide_eq_decide]
  exact eq_comm
theorem ss_law {h l h' l' : List UInt8} (v1 : svS h l = true) (v2 : svS h' l' = true) : ∃ X Y P Q, normR h l = ((X, Y), true) ∧ normR h' l' = ((P, Q), true) ∧ svS X Y = true ∧ svS P Q = true ∧ ssB h l h' l' = (X == P && Y == Q) ∧
    (ssB h l h' l' = true → ∀ n : Nat, hnB h l n = hnB h' l' n) ∧ ((∀ n : Nat, n ≤ h.length + h'.length + 2 * l.length * l'.length → hnB h l n = hnB h' l' n) → ssB h l h' l' = true) := by
  obtain ⟨X, Y, e1, s1, _, n1, _⟩ := nr_law v1
  obtain ⟨P, Q, e2, s2, _, n2, _⟩ := nr_law v2
  have f1 : nfS h l = (X, Y) := by unfold normR at e1; rw [if_pos v1, res_valid v1] at e1; exact congrArg Prod.fst e1
  have f2 : nfS h' l' = (P, Q) := by unfold normR at e2; rw [if_pos v2, res_valid v2] at e2; exact congrArg Prod.fst e2
  have hb : ssB h l h' l' = (X == P && Y == Q) := by
    unfold ssB
    rw [v1, v2, f1, f2, Bool.and_self, Bool.true_and, Bool.eq_iff_iff]
    simp
  obtain ⟨_, _, _, p1, _, q1⟩ := svS_parts v1
  obtain ⟨_, _, _, p2, _, q2⟩ := svS_parts v2
  refine ⟨X, Y, P, Q, e1, e2, s1, s2, hb, fun hs n => ?_, fun hall => ?_⟩
  · rw [hb, Bool.and_eq_true, beq_iff_eq, beq_iff_eq] at hs
    rw [← n1, ← n2, hs.1, hs.2]
  · have hP1 : PerS (atS h l) (max h.length h'.length) (l.length * l'.length) := per_up (per_lcm (per_at h l) (Nat.dvd_mul_right _ _)) (Nat.le_max_left _ _)
    have hP2 : PerS (atS h' l') (max h.length h'.length) (l.length * l'.length) := per_up (per_lcm (per_at h' l') (Nat.dvd_mul_left _ _)) (Nat.le_max_right _ _)
    have hpos : 0 < l.length * l'.length := Nat.mul_pos p1 p2
    have b1 := rp_bits (rp_sv v1)
    have b2 := rp_bits (rp_sv v2)
    have hbd : 2 * l.length * l'.length = 2 * (l.length * l'.length) := Nat.mul_assoc ..
    obtain ⟨D, hD⟩ : ∃ D, l.length * l'.length = D := ⟨_, rfl⟩
    rw [hD] at hP1 hP2 hpos hbd
    have he : ∀ n, n ≤ h.length + h'.length + 2 * D → atS h l n = atS h' l' n := fun n hn => by
      have := hall n (by omega)
      rw [hn_sv v1, hn_sv v2] at this
      rw [← bits_in b1 n, ← bits_in b2 n, this]
    have hev : ∀ n, atS h l n = atS h' l' n := by
      intro n
      by_cases hn : n ≤ h.length + h'.length + 2 * D
      · exact he n hn
      · obtain ⟨M, hM⟩ : ∃ M, max h.length h'.length = M := ⟨_, rfl⟩
        rw [hM] at hP1 hP2
        have hM1 : M ≤ h.length + h'.length := by omega
        obtain ⟨r, hr⟩ : ∃ r, (n - M) % D = r := ⟨_, rfl⟩
        obtain ⟨c, hc⟩ : ∃ c, (n - M) / D = c := ⟨_, rfl⟩
        have h1 := Nat.mod_lt (n - M) hpos
        have h2 := Nat.mod_add_div (n - M) D
        rw [hr] at h1 h2
        rw [hc, Nat.mul_comm] at h2
        have h3 := per_mul hP1 c (M + r) (by omega)
        have h4 := per_mul hP2 c (M + r) (by omega)
        rw [show M + r + c * D = n by omega] at h3 h4
        rw [h3, h4]
        exact he _ (by omega)
    have hc := nfS_congr q1 q2 hev
    unfold ssB
    rw [v1, v2, hc]
    simp

/-- One of the sums of a number so far. -/
def anyP (h l h' l' : List UInt8) (a n : Nat) : Bool := (List.range a).any fun i => hnB h l (i : Nat) && hnB h' l' ((n - i : Nat) : Int)
theorem any_next (h l h' l' : List UInt8) (a n : Nat) : anyP h l h' l' (a + 1) n = (anyP h l h' l' a n || (hnB h l (a : Nat) && hnB h' l' ((n - a : Nat) : Int))) := by
  unfold anyP
  rw [List.range_succ, List.any_append]
  simp
theorem sum_any {h l h' l' : List UInt8} (v1 : svS h l = true) (v2 : svS h' l' = true) (n : Nat) : sumB (atS h l) (atS h' l') n = anyP h l h' l' (n + 1) n := by
  unfold sumB anyP
  congr 1
  funext i
  rw [hn_sv v1, hn_sv v2]
theorem pr_small9 (f s : Int) : (prR f s).1.1.length ≤ 400 ∧ (prR f s).1.2.length ≤ 240 := by
  unfold prR
  split
  · exact res_small _
  · simp
theorem sh_small (h l : List UInt8) (k : Int) : (shR h l k).1.1.length ≤ 400 ∧ (shR h l k).1.2.length ≤ 240 := by
  unfold shR
  split
  · exact res_small _
  · simp
theorem comb_small (g : Bool → Bool → Bool) (h l h' l' : List UInt8) : (combR g h l h' l').1.1.length ≤ 400 ∧ (combR g h l h' l').1.2.length ≤ 240 := by
  unfold combR
  split
  · exact res_small _
  · simp
theorem sm_small (h l h' l' : List UInt8) : (smR h l h' l').1.1.length ≤ 400 ∧ (smR h l h' l').1.2.length ≤ 240 := by
  unfold smR
  split
  · exact res_small _
  · simp
/-- The least and the greatest number. -/
theorem lg_law {h l : List UInt8} (hv : svS h l = true) : (leR h l = -1 ∧ gtR h l = -1 ∧ ∀ k : Nat, hnB h l k = false) ∨
    ∃ n : Nat, leR h l = n ∧ n ≤ 640 ∧ hnB h l n = true ∧ (∀ k : Nat, hnB h l k = true → n ≤ k) ∧ (gtR h l = -2 ∨ ∃ m : Nat, gtR h l = m ∧ m ≤ 640 ∧ hnB h l m = true ∧ ∀ k : Nat, hnB h l k = true → k ≤ m) := by
  obtain ⟨q1, q2, q3, q4, q5, q6⟩ := svS_parts hv
  have e1 : leR h l = Lib.indexByte (h ++ l) 49 := by unfold leR; rw [if_pos hv]
  have e2 : gtR h l = mostI h l := by unfold gtR; rw [if_pos hv]
  have i1 := least_idx (h := h) (l := l) (by omega)
  have i2 := most_is (h := h) (l := l) (by omega)
  rw [← e1] at i1
  rw [← e2] at i2
  rcases i1 with ⟨a1, a2⟩ | ⟨n, a1, a2, a3⟩
  · left
    refine ⟨a1, ?_, fun k => by rw [hn_sv hv, a2]⟩
    rcases i2 with ⟨b1, _⟩ | ⟨_, b2⟩ | ⟨m, _, b2, _⟩
    · exact b1
    · obtain ⟨m, _, hm⟩ := b2 0
      rw [a2] at hm
      cases hm
    · rw [a2] at b2
      cases b2
  · right
    have hn : n ≤ 640 := by
      obtain ⟨m, m1, m2, m3⟩ := at_back (h := h) (l := l) (by omega) n
      have : inS (atS h l) m = true := by unfold inS at a2 ⊢; rw [← m3]; exact a2
      rcases Nat.lt_or_ge m n with hlt | hge
      · rw [a3 m hlt] at this; cases this
      · omega
    refine ⟨n, a1, hn, by rw [hn_sv hv]; exact a2, fun k hk => ?_, ?_⟩
    · rw [hn_sv hv] at hk
      rcases Nat.lt_or_ge k n with hlt | hge
      · rw [a3 k hlt] at hk; cases hk
      · exact hge
    · rcases i2 with ⟨_, b2⟩ | ⟨b1, _⟩ | ⟨m, b1, b2, b3⟩
      · rw [b2 n] at a2; cases a2
      · exact .inl b1
      · right
        refine ⟨m, b1, ?_, by rw [hn_sv hv]; exact b2, fun k hk => ?_⟩
        · rcases Nat.lt_or_ge m h.length with hlt | hge
          · omega
          · have hp : inS (atS h l) (m + l.length) = true := by unfold inS at b2 ⊢; rw [per_at h l m hge]; exact b2
            rw [b3 (m + l.length) (by omega)] at hp
            cases hp
        · rw [hn_sv hv] at hk
          rcases Nat.lt_or_ge m k with hlt | hge
          · rw [b3 k hlt] at hk; cases hk
          · exact hge
end Go.Proofs.YtpheihejgnlanaaDoor
