/- The text of a formula, the program. -/
import Derived.Test.YtbppcpaodfjpkaaDoorFtB
import Derived.Test.YtbppcpaodfjpkaaDoorJnT
namespace Go.Proofs.YtbppcpaodfjpkaaDoor
open Go.RowKit

theorem ot_of {h : FH} {w : World} {x : Value} {t : List UInt8} (he : owT h = t) (H : Calls Tryd.prog 48 #[x] w fun e w' => e = .returned (.string (bs t)) ∧ Below w.heap.size w w') : Calls Tryd.prog 48 #[x] w (OtT h w) := by
  rw [← he] at H
  exact H

theorem ownText_any (h : FH) (s : Fo) (w : World) (ho : ownB h s.len = true) (hw : Words w) (hT : Tab w) : Calls Tryd.prog 48 #[nd1 h s.nds] w (OtT h w) := by
  have hq : qB h.k = true → ∃ u : Nat, h.v = (u : Int) ∧ u ≤ 3 := by
    intro hqb
    have hv : varB h.v = true := by
      have := ho
      unfold ownB at this
      simp only [hqb, Bool.and_eq_true, if_true] at this
      exact this.1.2
    simp [varB] at hv
    exact ⟨h.v.toNat, by omega, by omega⟩
  rcases own_kind ho with ⟨hl, hk⟩ | ⟨hl, hk⟩ | ⟨hl, hk⟩
  · obtain rfl : s = .nil := Fo.len_zero hl
    rcases hk with hk | hk | hk
    · rw [show nd1 h Fo.nil.nds = .iface 131 (.agg #[.bool true]) by simp [nd1, hk]]
      exact ot_of (by simp [owT, hk]) (ownText_0 w hw)
    · rw [show nd1 h Fo.nil.nds = .iface 131 (.agg #[.bool false]) by simp [nd1, hk]]
      exact ot_of (by simp [owT, hk]) (ownText_1 w hw)
    · rw [show nd1 h Fo.nil.nds = .iface 114 (.agg #[.int .i64 h.ak, .int .i64 h.am, .int .i64 h.a, .int .i64 h.b, .int .i64 h.c, .int .i64 h.d, .int .i64 h.n]) by simp [nd1, hk]]
      exact ot_of (by simp [owT, hk]) (ownText_2 h.ak h.am h.a h.b h.c h.d h.n w hw hT)
  · cases s with
    | nil => simp [Fo.len] at hl
    | cons h1 s1 r =>
      obtain rfl : r = .nil := Fo.len_zero (by simp [Fo.len] at hl; omega)
      obtain ⟨t, y, e1⟩ := nd1_iface h1 s1.nds
      rw [show (Fo.cons h1 s1 .nil).nds = [.iface t y] by simp [Fo.nds, e1]]
      rcases hk with hk | hk | hk
      · rw [show nd1 h [.iface t y] = .iface 133 (.agg #[.iface t y]) by simp [nd1, hk]]
        exact ot_of (by simp [owT, hk]) (ownText_3 t y w hw)
      · obtain ⟨u, hu, hu3⟩ := hq (by simp [qB, hk])
        rw [show nd1 h [.iface t y] = .iface 116 (.agg #[.bool true, .int .i64 (u : Int), .iface t y]) by simp [nd1, hk, hu]]
        exact ot_of (by simp [owT, hk, hu]) (ownText_6 t y u hu3 w hw)
      · obtain ⟨u, hu, hu3⟩ := hq (by simp [qB, hk])
        rw [show nd1 h [.iface t y] = .iface 116 (.agg #[.bool false, .int .i64 (u : Int), .iface t y]) by simp [nd1, hk, hu]]
        exact ot_of (by simp [owT, hk, hu]) (ownText_7 t y u hu3 w hw)
  · cases s with
    | nil => simp [Fo.len] at hl
    | cons h1 s1 r =>
      cases r with
      | nil => simp [Fo.len] at hl
      | cons h2 s2 r2 =>
        obtain rfl : r2 = .nil := Fo.len_zero (by simp [Fo.len] at hl; omega)
        obtain ⟨t, y, e1⟩ := nd1_iface h1 s1.nds
        obtain ⟨t', y', e2⟩ := nd1_iface h2 s2.nds
        rw [show (Fo.cons h1 s1 (.cons h2 s2 .nil)).nds = [.iface t y, .iface t' y'] by simp [Fo.nds, e1, e2]]
        rcases hk with hk | hk
        · rw [show nd1 h [.iface t y, .iface t' y'] = .iface 135 (.agg #[.bool true, .iface t y, .iface t' y']) by simp [nd1, hk]]
          exact ot_of (by simp [owT, hk]) (ownText_4 t y t' y' w hw)
        · rw [show nd1 h [.iface t y, .iface t' y'] = .iface 135 (.agg #[.bool false, .iface t y, .iface t' y']) by simp [nd1, hk]]
          exact ot_of (by simp [owT, hk]) (ownText_5 t y t' y' w hw)

theorem fl2_good (f : Fo) : f.okB = true → ∀ p ∈ f.fl2, ∃ s : Fo, p.2 = s.nds ∧ ownB p.1 s.len = true := by
  induction f with
  | nil => intro _ p hp; cases hp
  | cons h s r ih1 ih2 =>
    intro hok p hp
    simp only [Fo.okB, Bool.and_eq_true] at hok
    simp only [Fo.fl2, List.mem_cons, List.mem_append] at hp
    rcases hp with rfl | hp | hp
    · exact ⟨s, rfl, hok.1.1⟩
    · exact ih1 hok.1.2 p hp
    · exact ih2 hok.2 p hp

def FfR (P : List (FH × List Value)) (B : Nat) (w2 : World) (v i : Value) (wr : World) : Prop :=
  ∃ k : Nat, i = .int .i64 k ∧ k ≤ P.length ∧ OwnT wr B v ((P.take k).map fwK) ∧ Below B w2 wr

set_option maxRecDepth 10000 in
set_option maxHeartbeats 2000000 in
theorem FormatFormula_any (h : FH) (f : Fo) (w : World) (lo : Nat) (s : Value) (hs : FS w lo f s) (hw0 : Words w) (hT0 : Tab w) :
    Calls Tryd.prog 26 #[.agg #[.int .i64 h.k, .int .i64 h.ak, .int .i64 h.am, .int .i64 h.a, .int .i64 h.b, .int .i64 h.c, .int .i64 h.d, .int .i64 h.n, .int .i64 h.v, s]] w fun e w' => e = .returned (.string (bs (fmT h f))) ∧ Below w.heap.size w w' := by
  have HC := Lib.hid (fun W hW => nodeOf_any h f W lo s (FS.below (w := w) hW (Nat.le_refl _) hs))
  have HWD := Lib.hid hw0
  have HTB := Lib.hid hT0
  obtain ⟨sa, sn, sc, rfl⟩ := hs.slice
  clear hs hw0 hT0
  cases hv : vfB h f with
  | false =>
    have HI := Lib.hid (show fmT h f = [] by unfold fmT; rw [if_neg (by rw [hv]; simp)])
    have HV := Lib.hid (show ndV h f = .tuple #[.nilIface, .bool false] by unfold ndV; rw [if_neg (by rw [hv]; simp)])
    clear hv
    go_enter Tryd.func26, Tryd.ntmps26
    go_wp2_with fail
    refine (HC.out _ (by go_grown)).mono ?_
    rintro e w1 ⟨rfl, hb1⟩
    rw [HV.out]
    go_wp2
    go_ret
    exact ⟨by rw [HI.out]; rfl, below_on (by go_grown) hb1⟩
  | true =>
    obtain ⟨h1, h2, h3⟩ := vf_parts hv
    obtain ⟨P, hP⟩ : ∃ P, P = (h, f.nds) :: f.fl2 := ⟨_, rfl⟩
    have hlen : P.length = f.size + 1 := by
      have := flat_len f
      rw [fl2_flat, List.length_map] at this
      rw [hP, List.length_cons, this]
    have hL : nd1 h f.nds :: f.flat = P.map ndP := by rw [hP, fl2_flat]; rfl
    have HN := Lib.hid (fun W => nodesIn_any _ _ W (by simp [flat_len]; omega) (an_any f.size h f (Nat.le_refl _) h1 h2))
    rw [hL] at HN
    have hfl := txF_len h f
    have HI := Lib.hid (show fmT h f = Lib.join (P.map fwK) [32] by unfold fmT; rw [if_pos hv, hP, join_tx])
    have HJ := Lib.hid (fun W v (hv : OwnT W w.heap.size v (P.map fwK)) => join_is v w.heap.size (P.map fwK) [32] W hv (by rw [hP]; simp) (by rw [List.length_map]; omega) (by rw [hP, join_tx]; omega))
    have HG := Lib.hid (show ∀ p ∈ P, ∃ s : Fo, p.2 = s.nds ∧ ownB p.1 s.len = true by
      rw [hP]
      intro p hp
      rcases List.mem_cons.1 hp with rfl | hp
      · exact ⟨f, rfl, h1⟩
      · exact fl2_good f h2 p hp)
    have HV := Lib.hid (show ndV h f = .tuple #[nd1 h f.nds, .bool true] by unfold ndV; rw [if_pos hv])
    obtain ⟨i0, hi, hz0, hz1, hz2⟩ := info_parts Tryd.infoStr
    have HII := Lib.hid (And.intro hi (And.intro hz0 (And.intro hz1 hz2)))
    have hPl : P.length ≤ 1000 := by omega
    have hP0 : 0 < P.length := by omega
    have h32 : ({ data := #[32] } : ByteArray) = bs [32] := rfl
    clear hv h1 h2 h3 hL hP hlen hi hz0 hz1 hz2 hfl
    go_enter Tryd.func26, Tryd.ntmps26
    go_wp2_with fail
    refine (HC.out _ (by go_grown)).mono ?_
    rintro e w1 ⟨rfl, hb1⟩
    rw [HV.out]
    have hw1 : Below w.heap.size w w1 := below_on (by go_grown) hb1
    clear hb1
    go_wp2_with fail
    refine (HN.out _).mono ?_
    rintro e w2 ⟨v2, rfl, ho2, hb2⟩
    rw [List.length_map] at ho2
    have hw2 := below_on hw1 hb2
    obtain ⟨g, cap, rfl, hcap1, hcap2, hg0, hg, hcells⟩ := own_read ho2 hP0
    obtain ⟨N, hN⟩ : ∃ N, N = P.length := ⟨_, rfl⟩
    rw [← hN] at hPl hcap1 hcells ⊢
    have HNN := Lib.hid hN
    have HCL := Lib.hid hcells
    have HB2 := Lib.hid hw2
    unfold maxLen at hcap2
    have hs2 := hw2.size
    clear ho2 hN hcells hb2 hP0 hw1
    go_wp2_with fail
    go_loopw [5, 18] (fun v i wr => FfR P w2.heap.size w2 v i wr) (fun _ i _ => N - (intOf i).toNat)
    case atStart => exact ⟨0, rfl, by omega, ⟨rfl, .inl ⟨rfl, rfl⟩⟩, Below.refl _ _⟩
    case round =>
      obtain ⟨k, rfl, hk, hown, hbw⟩ := hrel
      have hk' : k ≤ N := by rw [HNN.out]; exact hk
      have HO := Lib.hid hown
      have HB := Lib.hid (below_on HB2.out hbw)
      have HBW := Lib.hid hbw
      have hsw := hbw.size
      clear hk hown
      by_cases hlt : k < N
      · have hkN : (k : Int) < (N : Int) := by omega
        have hk0 : (0 : Int) ≤ k := by omega
        obtain ⟨p, hp⟩ : ∃ p, P[k]? = some p := ⟨_, List.getElem?_eq_getElem (by rw [← HNN.out]; exact hlt)⟩
        have hcell := (hbw.cell (p := ⟨g, k, none⟩) hg).trans (HCL.out k hlt)
        rw [List.getElem?_map, hp, Option.map_some] at hcell
        have HX := Lib.hid (show (P.take (k + 1)).map fwK = (P.take k).map fwK ++ [fwK p] by rw [List.take_add_one, hp]; simp)
        obtain ⟨q, hq, hoq⟩ := HG.out p (List.mem_of_getElem? hp)
        have HF := Lib.hid (fun W h1 h2 => ownText_any p.1 q W hoq h1 h2)
        have hnd : ndP p = nd1 p.1 q.nds := by unfold ndP; rw [hq]
        rw [hnd] at hcell
        obtain ⟨x, hx⟩ : ∃ x, nd1 p.1 q.nds = x := ⟨_, rfl⟩
        rw [hx] at hcell HF
        obtain ⟨T, hT⟩ : ∃ T, owT p.1 = T := ⟨_, rfl⟩
        unfold OtT at HF
        rw [hT] at HF
        rw [show fwK p = T from hT] at HX
        obtain ⟨Q, hQ⟩ : ∃ Q, (P.take k).map fwK = Q := ⟨_, rfl⟩
        have hQl : Q.length ≤ 1000 := by rw [← hQ]; simp; omega
        rw [hQ] at HX HO
        clear hp hbw hq hoq hnd hx hT hQ
        go_wp2_with fail
        refine (HF.out _ (words_on HWD.out HB.out) (tab_on HTB.out HB.out)).mono ?_
        rintro e w3 ⟨rfl, hb3⟩
        have hown3 := own_below HO.out hb3
        have HB3 := Lib.hid ((HBW.out).trans (hb3.mono hsw))
        have hs3 : w2.heap.size ≤ w3.heap.size := HB3.out.size
        clear hcell hb3
        obtain ⟨hi, hz0, hz1, hz2⟩ := HII.out
        go_wp2_with (at_builtin; refine wpList_append_own _ rfl _ _ 66 rfl w2.heap.size 9 i0 (.string ⟨#[]⟩) 1 16 Tryd.underlying66 hi hz0 hz1 hz2 rfl (by decide) _ _ _ rfl (hown3.alloc _) ⟨w3.heap.size, 0, none⟩ 1 1 [.string (bs T)] rfl rfl ?c1 ?c2 ?c3 ?c4 ?c5 ?_)
        case c1 =>
          intro j u hj
          match j, hj with
          | 0, hj => simp at hj; subst hj; simp [Addr.add]
        case c2 => intro u hu; simp at hu; subst hu; rfl
        case c3 => unfold maxLen; omega
        case c4 => omega
        case c5 => simp; omega
        · intro v' w4 hown4 hgrow hnone
          have hbA : Below w3.heap.size w3 (w3.alloc (.cells #[.string (bs T)] 9)) := by go_grown
          have hownA := own_below hown3 hbA
          have hlow : Below w2.heap.size w3 w4 := (hbA.mono hs3).trans (grown_lowT hownA (Nat.le_refl _) (by have := hbA.size; omega) hgrow)
          have HN4 : Hid (OwnT w4 w2.heap.size v' (Q ++ [T])) := by
            show w4.ownsRow _ _ _ _ _ _
            simpa [stV] using hown4
          have HB4 := Lib.hid (HB3.out.trans hlow)
          clear hown3 hown4 hgrow hbA hownA hlow hnone hi hz0 hz1 hz2
          go_wp2
          go_roundw
          case rel => exact ⟨k + 1, by go_num, by rw [← HNN.out]; omega, by rw [HX.out]; exact HN4.out, HB4.out⟩
          case measure => simp [intOf]; omega
      · have hkN : ¬ (k : Int) < (N : Int) := by omega
        have HOE : Hid (OwnT wr w.heap.size _ (P.map fwK)) := Lib.hid (by
          have := HO.out
          rw [show P.take k = P from List.take_of_length_le (by rw [← HNN.out]; omega)] at this
          exact own_mono this hs2)
        clear hbw
        go_wp2_with fail
        refine (HJ.out _ _ HOE.out).mono ?_
        rintro e w3 ⟨rfl, hb3⟩
        go_wp2
        go_ret
        exact ⟨by rw [HI.out]; rfl, below_on HB.out hb3⟩

end Go.Proofs.YtbppcpaodfjpkaaDoor
