/- StartLines of the program. -/
import Derived.Test.YtaiajdeognnndaaSyB
import Derived.Test.YtaiajdeognnndaaAm
namespace Go.Proofs.Ytaiajdeognnndaa
open Go.RowKit

theorem grown_lowM {W W' : World} {v : Value} {B e size n : Nat} {xs : List Value} (hown : W.ownsRow B e size v n xs) {C : Nat} (hC : C ≤ B) (hCW : C ≤ W.heap.size) (hg : W.grownBy W' v.ownBlock) : Below C W W' := by
  refine ⟨hg.os, hg.tape, hg.output, hg.size, fun i hi => hg.block i (by omega) ?_⟩
  intro e
  rcases hown.2 with ⟨rfl, _⟩ | ⟨g, cap, cur, rfl, hbg, _⟩
  · simp [Value.ownBlock] at e
  · simp [Value.ownBlock] at e; omega
theorem rdA_news {w : World} {b n cap : Nat} {L : List AtD} (h : RdA w (.slice (some ⟨b, 0, none⟩) n cap) L) : ∀ j u, (AL L)[j]? = some u → w.cell? ((⟨b, 0, none⟩ : Addr).add j) = some u := by
  intro j u hj
  obtain ⟨sp, cap', e, hc⟩ := h
  injection e with e1 _ _
  have hl : j < L.length * 7 := by have := (List.getElem?_eq_some_iff.1 hj).1; rwa [al_len] at this
  obtain ⟨b', e2, _, hrow⟩ := hc.resolve_left (by omega)
  rw [e2] at e1
  injection e1 with e1
  injection e1 with e1 _ _
  subst e1
  obtain ⟨i, t, hi, ht, rfl⟩ : ∃ i t, i < L.length ∧ t < 7 ∧ j = i * 7 + t := ⟨j / 7, j % 7, by omega, by omega, by omega⟩
  obtain ⟨x, hx⟩ : ∃ x, L[i]? = some x := ⟨_, List.getElem?_eq_getElem (by omega)⟩
  rw [al_at hx t ht] at hj
  have ha : (⟨b, 0, none⟩ : Addr).add (i * 7 + t) = ⟨b, i * 7 + t, none⟩ := by
    unfold Addr.add
    split
    · congr 1; omega
    · simp
  rw [ha]
  obtain ⟨r0, r1, r2, r3, r4, r5, r6⟩ := hrow i x hx
  match t, ht with
  | 0, _ => exact r0.trans hj
  | 1, _ => exact r1.trans hj
  | 2, _ => exact r2.trans hj
  | 3, _ => exact r3.trans hj
  | 4, _ => exact r4.trans hj
  | 5, _ => exact r5.trans hj
  | 6, _ => exact r6.trans hj
theorem al_intsS (L : List AtD) : ∀ u ∈ AL L, u.oneCell' = true := by
  induction L with
  | nil => intro u hu; simp [AL] at hu
  | cons x r ih =>
    intro u hu
    simp only [AL, List.mem_append] at hu
    rcases hu with h | h
    · exact acells_one x u h
    · exact ih u h

def mi (v i : Int) : Int := if v = i then -1 else 0
/-- The lines with which each proof begins. -/
def stL : List AtD := [mostD (-1) 0 0 0 0, mostD 0 (-1) 0 0 0, mostD 0 0 (-1) 0 0, mostD 0 0 0 (-1) 0]
def slL (L : List AtD) : List AtD := if spB L = true then stL ++ L else []
theorem st_all : stL.all avD = true := by decide

theorem minus_any (v : Int) (w : World) (h0 : 0 ≤ v) (h1 : v < 4) : Calls Try.prog 33 #[.int .i64 v] w (MulT (mi v 0) (mi v 1) (mi v 2) (mi v 3) 0 w) := by
  have HW := Lib.hid fun bl W h a b c d e => with_any 0 0 0 0 0 v (-1) bl W h a b c d e h0 h1
  go_enter Try.func33, Try.ntmps33
  go_wp2_with fail
  refine (multiples_new 0 0 0 0 0 w).mono ?_
  rintro e w1 ⟨b1, rfl, ⟨c0, c1, c2, c3, c4, c5⟩, hb1, _⟩
  go_wp2_with fail
  refine (HW.out b1 w1 c0 c1 c2 c3 c4 c5).mono ?_
  rintro e w2 ⟨rfl, hw2⟩
  have hb2 : Below w1.heap.size w1 w2 := by subst hw2; go_grown
  have h5 : C5 w2 w1.heap.size (if v = 0 then -1 else 0) (if v = 1 then -1 else 0) (if v = 2 then -1 else 0) (if v = 3 then -1 else 0) 0 := by subst hw2; exact (by refine ⟨?_, ?_, ?_, ?_, ?_, ?_⟩ <;> first | (simp [go_sem]; done) | (simp; omega))
  have hb := below_on hb1 hb2
  have hs1 := hb1.size
  clear hw2 hb2 hb1 c0 c1 c2 c3 c4 c5
  go_wp2
  go_ret
  exact ⟨_, rfl, h5, hb, hs1⟩

def NatR (w1 : World) (v i : Value) (wr : World) : Prop :=
  ∃ (k : Nat) (xs : List Value) (V : Value), V = v ∧ i = .int .i64 k ∧ k ≤ 4 ∧ wr.ownsRow w1.heap.size 70 1 v k xs ∧
    (∀ j : Nat, j < k → ∃ bl, xs[j]? = some (.slice (some ⟨bl, 0, none⟩) 5 5) ∧ some bl ≠ v.ownBlock ∧ C5 wr bl (mi j 0) (mi j 1) (mi j 2) (mi j 3) 0) ∧ Below w1.heap.size w1 wr

theorem ats_of {L : List AtD} {t : Bool} {w : World} {e : Ending} {w' : World} {L' : List AtD} (h : L = L') (H : AtsT L t w e w') : AtsT L' t w e w' := h ▸ H

set_option maxHeartbeats 2000000 in
theorem StartLines_any (u : Value) (L : List AtD) (w : World) (h : RdA w u L) (hL : L.length ≤ 1048576) (hsp : ∃ b cap, u = .slice (some ⟨b, 0, none⟩) L.length cap) :
    Calls Try.prog 10 #[u] w (AtsT (slL L) (spB L) w) := by
  have HS := Lib.hid (isSplit_any u L w h hL)
  have HR := Lib.hid h
  obtain ⟨b, cap, rfl⟩ := hsp
  obtain ⟨t, ht⟩ : ∃ t, spB L = t := ⟨_, rfl⟩
  cases t with
  | false =>
    have HF := Lib.hid (show slL L = [] by unfold slL; rw [if_neg (by rw [ht]; decide)])
    rw [ht] at HS ⊢
    rw [HF.out]
    clear ht
    go_enter Try.func10, Try.ntmps10
    go_wp2_with fail
    refine HS.out.mono ?_
    rintro e w1 ⟨rfl, hb1⟩
    go_wp2
    go_ret2
    exact ⟨_, rfl, World.ownsRow_nil _ _ _ _, hb1⟩
  | true =>
    have HF := Lib.hid (show slL L = stL ++ L by unfold slL; rw [if_pos ht])
    have hlen := sp_len ht
    rw [ht] at HS ⊢
    rw [HF.out]
    obtain ⟨i0, hi, hz0, hz1, hz2⟩ := info_parts Try.infoMul
    obtain ⟨i1, hi1, hz10, hz11, hz12⟩ := info_parts Try.infoAtom
    have HI1 := Lib.hid (And.intro hi1 (And.intro hz10 (And.intro hz11 hz12)))
    clear ht hi1 hz10 hz11 hz12
    obtain ⟨n, hn⟩ : ∃ n, L.length = n := ⟨_, rfl⟩
    have HN := Lib.hid hn
    rw [hn] at HS hlen ⊢
    clear hn
    go_enter Try.func10, Try.ntmps10
    go_wp2_with fail
    refine HS.out.mono ?_
    rintro e w1 ⟨rfl, hb1⟩
    have HST := Lib.hid (show NatR w1 (.slice none 0 0) (.int .i64 0) w1 from ⟨0, [], _, rfl, rfl, by omega, World.ownsRow_nil _ _ _ _, fun j h => absurd h (by omega), Below.refl _ _⟩)
    have HR1 := Lib.hid (readsA_on HR.out hb1)
    have HB1 := Lib.hid hb1
    clear hb1
    go_wp2_with fail
    go_loopw [4, 11] (fun v i wr => NatR w1 v i wr) (fun _ i _ => 4 - (intOf i).toNat)
    case atStart => exact HST.out
    case round =>
      obtain ⟨k, xs, v, hv, rfl, hk, hown, hall, hbw⟩ := hrel
      subst hv
      clear HST
      have HO := Lib.hid hown
      have HA := Lib.hid hall
      have HBW := Lib.hid hbw
      have hsw := hbw.size
      clear hown hall hbw
      by_cases hlt : k < 4
      · have hk' : (k : Int) < 4 := by omega
        go_wp2_with fail
        refine (minus_any k _ (by omega) (by omega)).mono ?_
        rintro e w2 ⟨b2, rfl, h2, hb2, hbb2⟩
        have hown2 := own_below HO.out hb2
        have HB2 := Lib.hid (below_on HBW.out hb2)
        have hs2 : w1.heap.size ≤ w2.heap.size := HB2.out.size
        obtain ⟨v6, w6, hrun, hown6, hgrow, hob⟩ := append_one (P := Try.prog) (ty := 69) Try.underlying69 hi hz0 hz1 hz2 rfl (hown2.alloc (.cells #[.slice (some ⟨b2, 0, none⟩) 5 5] 70)) (a := ⟨w2.heap.size, 0, none⟩) (x := .slice (some ⟨b2, 0, none⟩) 5 5) (by simp) rfl (by omega) (by omega) (by first | (simp; done) | (simp; omega))
        have HRUN := Lib.hid hrun
        clear hrun
        go_wp2_with (at_builtin; refine wpList_append_run rfl _ _ 69 rfl rfl rfl HRUN.out ?_)
        clear HRUN
        have hb6 : Below w1.heap.size w2 w6 := by
          have hbA : Below w2.heap.size w2 (w2.alloc (.cells #[.slice (some ⟨b2, 0, none⟩) 5 5] 70)) := by go_grown
          exact (hbA.mono hs2).trans (grown_lowM (own_below hown2 hbA) (Nat.le_refl _) (by have := hbA.size; omega) hgrow)
        have hnew : ∀ {x : Nat} {a b c d n : Int}, C5 w2 x a b c d n → some x ≠ v.ownBlock → C5 w6 x a b c d n := fun {x a b c d n} hx hne => by
          have hx' : C5 (w2.alloc (.cells #[.slice (some ⟨b2, 0, none⟩) 5 5] 70)) x a b c d n := c5_on hx (by go_grown)
          exact c5_gr hx' hgrow hne
        have hvb : ∀ x, v.ownBlock = some x → x < w2.heap.size ∧ x < wr.heap.size := fun x hx => by
          rcases HO.out.2 with ⟨e, _⟩ | ⟨g, cap, cur, e, _, hg, _⟩
          · rw [e] at hx; simp [Value.ownBlock] at hx
          · rw [e] at hx
            simp [Value.ownBlock] at hx
            subst hx
            have := (Array.getElem?_eq_some_iff.1 hg).1
            exact ⟨Nat.lt_of_lt_of_le this hb2.size, this⟩
        have hall6 : ∀ j : Nat, j < k + 1 → ∃ bl, (xs ++ [.slice (some ⟨b2, 0, none⟩) 5 5])[j]? = some (.slice (some ⟨bl, 0, none⟩) 5 5) ∧ some bl ≠ v6.ownBlock ∧ C5 w6 bl (mi j 0) (mi j 1) (mi j 2) (mi j 3) 0 := fun j hj => by
          have hlx : xs.length = k := by have := HO.out.1; omega
          by_cases hjk : j < k
          · obtain ⟨bl, e1, e2, e3⟩ := HA.out j hjk
            have e4 := c5_on e3 hb2
            refine ⟨bl, by rw [List.getElem?_append_left (by omega)]; exact e1, ?_, hnew e4 e2⟩
            rcases hob with h | h
            · rw [h]; exact e2
            · rw [h]; intro e; injection e with e; have := e4.1; simp at e; omega
          · obtain rfl : j = k := by omega
            have hne : some b2 ≠ v.ownBlock := fun e => by have := (hvb b2 e.symm).2; omega
            refine ⟨b2, by rw [List.getElem?_append_right (by omega), hlx, Nat.sub_self]; rfl, ?_, hnew h2 hne⟩
            rcases hob with h | h
            · rw [h]; exact hne
            · rw [h]; intro e; injection e with e; have := h2.1; simp at e; omega
        have HO6 := Lib.hid hown6
        have HA6 := Lib.hid hall6
        have HB6 := Lib.hid (HB2.out.trans hb6)
        clear hown2 hown6 hgrow hob hnew hvb hall6 hb6 h2 hb2 hbb2 hs2
        go_wp2
        go_roundw
        case rel => exact ⟨k + 1, _, _, rfl, by go_num, by omega, HO6.out, HA6.out, HB6.out⟩
        case measure => simp [intOf]; omega
      · have hk' : ¬ (k : Int) < 4 := by omega
        obtain rfl : k = 4 := by omega
        obtain ⟨g, cap', rfl, _, _, _, hgs, hgc⟩ := own_read HO.out (by omega)
        have hsum : SumsAt wr (.slice (some ⟨g, 0, none⟩) 4 cap') stL := by
          refine ⟨g, cap', rfl, hgs, by decide, by decide, fun i x hx => ?_⟩
          have hi4 : i < 4 := (List.getElem?_eq_some_iff.1 hx).1
          obtain ⟨bl, e1, _, e3⟩ := HA.out i hi4
          refine ⟨bl, (hgc i hi4).trans e1, ?_⟩
          match i, hi4 with
          | 0, _ => obtain rfl := Option.some.inj hx; exact e3
          | 1, _ => obtain rfl := Option.some.inj hx; exact e3
          | 2, _ => obtain rfl := Option.some.inj hx; exact e3
          | 3, _ => obtain rfl := Option.some.inj hx; exact e3
        have HSM := Lib.hid hsum
        clear hsum hgc hgs HO HA hi hz0 hz1 hz2
        go_wp2_with fail
        refine (atMost_t _ _ wr HSM.out stL true st_all rfl).mono ?_
        rintro e w7 ⟨v7, rfl, ho7, hb7⟩
        have hB7 := below_on HBW.out hb7
        have HW7 := Lib.hid (below_on HB1.out hB7)
        have HO7 := Lib.hid (show OwnA w7 w.heap.size v7 stL from own_mono ho7 (by have := HB1.out.size; omega))
        have HR7 := Lib.hid (readsA_on HR1.out hB7)
        have hs7 := HW7.out.size
        obtain ⟨hi1, hz10, hz11, hz12⟩ := HI1.out
        clear ho7 hb7 hB7
        have hnews := rdA_news HR7.out
        go_wp2_with (at_builtin; refine wpList_append_own _ rfl _ _ 24 rfl w.heap.size 49 i1 (.agg #[.int .i64 0, .int .i64 0, .int .i64 0, .int .i64 0, .int .i64 0, .int .i64 0, .int .i64 0]) 7 56 Try.underlying24 hi1 hz10 hz11 hz12 rfl (by decide) _ _ _ rfl HO7.out ⟨b, 0, none⟩ n _ (AL L) rfl (by rw [al_len, HN.out]) ?d1 ?d2 ?d3 ?d4 ?d5 ?_)
        case d1 => exact hnews
        case d2 => exact al_intsS L
        case d3 => unfold maxLen; simp [stL]; omega
        case d4 => simp [stL]; omega
        case d5 => exact hs7
        · intro v' w4 hown4 hgrow hnil
          have hown4' : OwnA w4 w.heap.size v' (stL ++ L) := by
            show w4.ownsRow _ _ _ _ _ _
            rw [al_app, List.length_append, HN.out]
            exact hown4
          have HO4 := Lib.hid hown4'
          have HB4 := Lib.hid (show Below w.heap.size w w4 from HW7.out.trans (grown_lowM HO7.out (Nat.le_refl _) hs7 hgrow))
          clear hown4 hown4' hgrow hnil hnews
          go_wp2
          go_ret2
          exact ⟨_, rfl, HO4.out, HB4.out⟩

end Go.Proofs.Ytaiajdeognnndaa
