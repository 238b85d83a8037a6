/- Reading a term's text, the model: l1Parts. -/
import Derived.Test.YtjgmoledhkikcaaDoorPtU
namespace Go.Proofs.YtjgmoledhkikcaaDoor
open Go.RowKit

theorem rn_part {P : Program} {t : TypeId} (ht : P.underlying t = some .string) {l x : List UInt8} {i j : Nat} (hij : i ≤ j) (hj : j ≤ l.length) (hx : (l.drop i).take (j - i) = x) (k1 k2 : IntKind) (w : World) :
    (Instr.slice t (.string (bs l)) (some (.int k1 i)) (some (.int k2 j)) none).run P w = .ok (.string (bs x)) w := by
  have hs := bs_size l
  rw [run_slice_string w t (bs l) k1 k2 i j ht (by omega) (by omega) (by omega), bs_ext, ← hx, Int.toNat_natCast, Int.toNat_natCast]

def LpR (s : List UInt8) (n : Nat) (w : World) (v f i : Value) (wr : World) : Prop :=
  ∃ (P : List (List UInt8)) (fN iN : Nat), f = .int .i64 fN ∧ i = .int .i64 iN ∧ OwnT wr w.heap.size v P ∧ Below w.heap.size w wr ∧ P.flatten = s.take fN ∧ GdL P ∧ fN < iN ∧ iN ≤ n + 1 ∧ (iN = n + 1 → fN = n) ∧
    (∀ (j : Nat) (x : UInt8), fN < j → j < iN → s[j]? = some x → isS x = false) ∧ (P ≠ [] → ∀ x, s[fN]? = some x → isS x = true) ∧ P.length ≤ fN ∧ (P = [] → fN = 0)
def LpT (s : List UInt8) (w : World) (e : Ending) (w' : World) : Prop :=
  ∃ (P : List (List UInt8)) (v : Value), e = .returned v ∧ OwnT w' w.heap.size v P ∧ P.flatten = s ∧ GdL P ∧ P.length ≤ s.length ∧ Below w.heap.size w w'

/-- One part more. -/
theorem lp_cut {s : List UInt8} {P : List (List UInt8)} {f i : Nat} (hf : P.flatten = s.take f) (hg : GdL P) (hfi : f < i) (hi : i ≤ s.length) (hns : ∀ (j : Nat) (x : UInt8), f < j → j < i → s[j]? = some x → isS x = false)
    (hsg : P ≠ [] → ∀ x, s[f]? = some x → isS x = true) : (P ++ [(s.drop f).take (i - f)]).flatten = s.take i ∧ GdL (P ++ [(s.drop f).take (i - f)]) := by
  have hcons : (s.drop f).take (i - f) = s[f]'(by omega) :: (s.drop (f + 1)).take (i - f - 1) := by
    rw [List.drop_eq_getElem_cons (by omega), show i - f = (i - f - 1) + 1 by omega, List.take_succ_cons]
    rfl
  refine ⟨?_, gd_snoc hg ⟨?_, fun x hx => ?_⟩ (fun hP => ?_)⟩
  · rw [List.flatten_append, hf, List.flatten_singleton, ← List.take_append_drop f (s.take i), List.take_take, Nat.min_eq_left (by omega), List.drop_take]
  · rw [hcons]; simp
  · rw [hcons, List.tail_cons] at hx
    obtain ⟨j, hj, hx'⟩ := List.mem_iff_getElem.1 hx
    rw [List.length_take, List.length_drop] at hj
    rw [List.getElem_take, List.getElem_drop] at hx'
    exact hns (f + 1 + j) x (by omega) (by omega) (by rw [List.getElem?_eq_getElem (by omega), hx'])
  · rw [hcons]
    exact ⟨_, _, rfl, hsg hP _ (List.getElem?_eq_getElem (by omega))⟩

set_option maxRecDepth 10000 in
set_option maxHeartbeats 4000000 in
theorem l1Parts_any (s : List UInt8) (w : World) (hl : s.length ≤ 1048576) : Calls Tryd.prog 66 #[.string (bs s)] w (LpT s w) := by
  obtain ⟨i0, hi, hz0, hz1, hz2⟩ := info_parts Tryd.infoStr
  have hsz := bs_size
  have hl0 := bs_list
  obtain ⟨n, hn⟩ : ∃ n, s.length = n := ⟨_, rfl⟩
  have HN := Lib.hid hn
  have hlen : (s.length : Int) = n := by rw [hn]
  rw [hn] at hl
  clear hn
  go_enter Tryd.func66, Tryd.ntmps66
  go_wp2_with fail
  generalize hW : World.alloc _ _ = W
  have HST := Lib.hid (show LpR s n w (.slice (some ⟨w.heap.size, 0, none⟩) 0 0) (.int .i64 0) (.int .i64 1) W from ⟨[], 0, 1, rfl, rfl, by subst hW; exact World.ownsRow_lit w #[] 0 (Nat.le_refl _) (by decide) rfl, by subst hW; go_grown, rfl, ⟨fun _ h => (by cases h), fun _ h => (by cases h)⟩, by omega, by omega, fun h => by omega, fun j x h1 h2 => by omega, fun h => absurd rfl h, Nat.zero_le _, fun _ => rfl⟩)
  clear hW
  go_loopw [3, 4, 5] (fun v f i wr => LpR s n w v f i wr) (fun _ _ i _ => n + 1 - (intOf i).toNat)
  case atStart => exact HST.out
  case round =>
    obtain ⟨P, fN, iN, rfl, rfl, hown, hbw, hfl, hgd, hfi, hin, hend, hns, hsg, hPl, hP0⟩ := hrel
    clear HST
    have HB := Lib.hid hbw
    have HFL := Lib.hid hfl
    have HGD := Lib.hid hgd
    have HNS := Lib.hid hns
    have HSG := Lib.hid hsg
    have HP0 := Lib.hid hP0
    have HEND := Lib.hid hend
    have hs3 : w.heap.size ≤ wr.heap.size := hbw.size
    clear hbw hfl hgd hns hsg hP0 hend
    by_cases hlt : iN ≤ n
    · have hk' : (iN : Int) ≤ (n : Int) := by omega
      by_cases hie : iN = n
      · have hq : ((iN : Int) == n) = true := by rw [beq_iff_eq]; omega
        have HIE := Lib.hid hie
        clear hie
        obtain ⟨T, hT⟩ : ∃ T, (s.drop fN).take (iN - fN) = T := ⟨_, rfl⟩
        have hpt := fun W => rn_part (P := Tryd.prog) Tryd.underlying9 (l := s) (i := fN) (j := iN) (x := T) (by omega) (by rw [HN.out]; omega) hT .i64 .i64 W
        have HCT := Lib.hid (by have := lp_cut HFL.out HGD.out (by omega) (by rw [HN.out]; omega) HNS.out HSG.out; rw [hT] at this; exact this)
        clear hT
        go_wp2_with (at_builtin; refine wpList_append_own _ rfl _ _ 33 rfl w.heap.size 9 i0 (.string ⟨#[]⟩) 1 16 Tryd.underlying33 hi hz0 hz1 hz2 rfl (by decide) _ _ _ rfl (hown.alloc _) ⟨wr.heap.size, 0, none⟩ 1 1 [.string (bs T)] rfl rfl ?c1 ?c2 ?c3 ?c4 ?c5 ?_)
        case c1 =>
          intro j u hj
          match j, hj with
          | 0, hj => simp at hj; subst hj; simp [Addr.add]
        case c2 => intro u hu; simp at hu; subst hu; rfl
        case c3 => unfold maxLen; omega
        case c4 => omega
        case c5 => simp; omega
        · intro v' w4 hown4 hgrow hnone
          have hbA : Below wr.heap.size wr (wr.alloc (.cells #[.string (bs T)] 9)) := by go_grown
          have hownA := own_below hown hbA
          have hlow : Below w.heap.size wr w4 := (hbA.mono hs3).trans (grown_lowT hownA (Nat.le_refl _) (by have := hbA.size; omega) hgrow)
          have HN4 : Hid (OwnT w4 w.heap.size v' (P ++ [T])) := by
            show w4.ownsRow _ _ _ _ _ _
            simpa [stV] using hown4
          have HB4 := Lib.hid (HB.out.trans hlow)
          clear hown hown4 hgrow hbA hownA hlow hnone
          go_wp2
          go_roundw
          case rel => exact ⟨P ++ [T], iN, iN + 1, rfl, by go_num, HN4.out, HB4.out, HCT.out.1, HCT.out.2, by omega, by omega, fun _ => HIE.out, fun j x h1 h2 _ => by omega, fun _ x hx => by have := (List.getElem?_eq_some_iff.1 hx).1; rw [HN.out] at this; have := HIE.out; omega, by simp; omega, fun h => by simp at h⟩
          case measure => simp [intOf]; omega
      · have hq : ((iN : Int) == n) = false := by rw [beq_eq_false_iff_ne]; omega
        have hin2 : iN < n := by omega
        obtain ⟨y, hy⟩ : ∃ y, s[iN]? = some y := ⟨_, List.getElem?_eq_getElem (by rw [HN.out]; exact hin2)⟩
        have hix := fun W => run_at (P := Tryd.prog) Tryd.underlying9 hy .i64 W
        obtain ⟨z, hz⟩ : ∃ z : Int, (y.toNat : Int) = z := ⟨_, rfl⟩
        have h43 : (z == 43) = (y == 43) := by rw [← hz]; exact u8_eq y 43
        have h45 : (z == 45) = (y == 45) := by rw [← hz]; exact u8_eq y 45
        rw [hz] at hix
        have HY := Lib.hid hy
        clear hz hy hie
        rcases q43 : (y == 43) with _ | _
        · rcases q45 : (y == 45) with _ | _
          · have HSF := Lib.hid (show isS y = false from by unfold isS; rw [q43, q45]; rfl)
            rw [q43] at h43
            rw [q45] at h45
            have HO := Lib.hid hown
            clear q43 q45 hown
            go_wp2
            go_roundw
            case rel => exact ⟨P, fN, iN + 1, rfl, by go_num, HO.out, HB.out, HFL.out, HGD.out, by omega, by omega, fun h => by omega, fun j x h1 h2 h3 => by
              by_cases hj : j = iN
              · subst hj; rw [HY.out] at h3; obtain rfl := Option.some.inj h3; exact HSF.out
              · exact HNS.out j x h1 (by omega) h3, HSG.out, hPl, HP0.out⟩
            case measure => simp [intOf]; omega
          · have HSF := Lib.hid (show isS y = true from by unfold isS; rw [q43, q45]; rfl)
            rw [q43] at h43
            rw [q45] at h45
            clear q43 q45
            obtain ⟨T, hT⟩ : ∃ T, (s.drop fN).take (iN - fN) = T := ⟨_, rfl⟩
            have hpt := fun W => rn_part (P := Tryd.prog) Tryd.underlying9 (l := s) (i := fN) (j := iN) (x := T) (by omega) (by rw [HN.out]; omega) hT .i64 .i64 W
            have HCT := Lib.hid (by have := lp_cut HFL.out HGD.out (by omega) (by rw [HN.out]; omega) HNS.out HSG.out; rw [hT] at this; exact this)
            clear hT
            go_wp2_with (at_builtin; refine wpList_append_own _ rfl _ _ 33 rfl w.heap.size 9 i0 (.string ⟨#[]⟩) 1 16 Tryd.underlying33 hi hz0 hz1 hz2 rfl (by decide) _ _ _ rfl (hown.alloc _) ⟨wr.heap.size, 0, none⟩ 1 1 [.string (bs T)] rfl rfl ?c1 ?c2 ?c3 ?c4 ?c5 ?_)
            case c1 =>
              intro j u hj
              match j, hj with
              | 0, hj => simp at hj; subst hj; simp [Addr.add]
            case c2 => intro u hu; simp at hu; subst hu; rfl
            case c3 => unfold maxLen; omega
            case c4 => omega
            case c5 => simp; omega
            · intro v' w4 hown4 hgrow hnone
              have hbA : Below wr.heap.size wr (wr.alloc (.cells #[.string (bs T)] 9)) := by go_grown
              have hownA := own_below hown hbA
              have hlow : Below w.heap.size wr w4 := (hbA.mono hs3).trans (grown_lowT hownA (Nat.le_refl _) (by have := hbA.size; omega) hgrow)
              have HN4 : Hid (OwnT w4 w.heap.size v' (P ++ [T])) := by
                show w4.ownsRow _ _ _ _ _ _
                simpa [stV] using hown4
              have HB4 := Lib.hid (HB.out.trans hlow)
              clear hown hown4 hgrow hbA hownA hlow hnone
              go_wp2
              go_roundw
              case rel => exact ⟨P ++ [T], iN, iN + 1, rfl, by go_num, HN4.out, HB4.out, HCT.out.1, HCT.out.2, by omega, by omega, fun _ => by omega, fun j x h1 h2 _ => by omega, fun _ x hx => by rw [HY.out] at hx; obtain rfl := Option.some.inj hx; exact HSF.out, by simp; omega, fun h => by simp at h⟩
              case measure => simp [intOf]; omega
        · have HSF := Lib.hid (show isS y = true from by unfold isS; rw [q43]; rfl)
          rw [q43] at h43
          clear q43 h45
          obtain ⟨T, hT⟩ : ∃ T, (s.drop fN).take (iN - fN) = T := ⟨_, rfl⟩
          have hpt := fun W => rn_part (P := Tryd.prog) Tryd.underlying9 (l := s) (i := fN) (j := iN) (x := T) (by omega) (by rw [HN.out]; omega) hT .i64 .i64 W
          have HCT := Lib.hid (by have := lp_cut HFL.out HGD.out (by omega) (by rw [HN.out]; omega) HNS.out HSG.out; rw [hT] at this; exact this)
          clear hT
          go_wp2_with (at_builtin; refine wpList_append_own _ rfl _ _ 33 rfl w.heap.size 9 i0 (.string ⟨#[]⟩) 1 16 Tryd.underlying33 hi hz0 hz1 hz2 rfl (by decide) _ _ _ rfl (hown.alloc _) ⟨wr.heap.size, 0, none⟩ 1 1 [.string (bs T)] rfl rfl ?c1 ?c2 ?c3 ?c4 ?c5 ?_)
          case c1 =>
            intro j u hj
            match j, hj with
            | 0, hj => simp at hj; subst hj; simp [Addr.add]
          case c2 => intro u hu; simp at hu; subst hu; rfl
          case c3 => unfold maxLen; omega
          case c4 => omega
          case c5 => simp; omega
          · intro v' w4 hown4 hgrow hnone
            have hbA : Below wr.heap.size wr (wr.alloc (.cells #[.string (bs T)] 9)) := by go_grown
            have hownA := own_below hown hbA
            have hlow : Below w.heap.size wr w4 := (hbA.mono hs3).trans (grown_lowT hownA (Nat.le_refl _) (by have := hbA.size; omega) hgrow)
            have HN4 : Hid (OwnT w4 w.heap.size v' (P ++ [T])) := by
              show w4.ownsRow _ _ _ _ _ _
              simpa [stV] using hown4
            have HB4 := Lib.hid (HB.out.trans hlow)
            clear hown hown4 hgrow hbA hownA hlow hnone
            go_wp2
            go_roundw
            case rel => exact ⟨P ++ [T], iN, iN + 1, rfl, by go_num, HN4.out, HB4.out, HCT.out.1, HCT.out.2, by omega, by omega, fun _ => by omega, fun j x h1 h2 _ => by omega, fun _ x hx => by rw [HY.out] at hx; obtain rfl := Option.some.inj hx; exact HSF.out, by simp; omega, fun h => by simp at h⟩
            case measure => simp [intOf]; omega
    · have hk' : ¬ (iN : Int) ≤ (n : Int) := by omega
      have HF2 := Lib.hid (show P.flatten = s from by rw [HFL.out, HEND.out (by omega), List.take_of_length_le (by rw [HN.out]; exact Nat.le_refl _)])
      have HO := Lib.hid hown
      clear hown
      go_wp2
      go_ret
      exact ⟨P, _, rfl, HO.out, HF2.out, HGD.out, by rw [HN.out]; omega, HB.out⟩

end Go.Proofs.YtjgmoledhkikcaaDoor
