/- Contracts of AtomsOf of the model and of the program. -/
import Derived.Test.YtcgolbkpfncgpaaFormR
import Derived.Test.YtcgolbkpfncgpaaFormN
namespace Go.Proofs.Ytcgolbkpfncgpaa
open Go.RowKit

def atL (h : FH) (f : Fo) : List AtD := if vfB h f = true then atF h f else []
/-- A new list of atoms, nil or not. -/
def AtqT (L : List AtD) (w : World) (e : Ending) (w' : World) : Prop := ∃ v, e = .returned v ∧ OwnA w' w.heap.size v L ∧ Below w.heap.size w w'

/-- The nodes with what they are made of. -/
def Fo.fl2 : Fo → List (FH × List Value)
  | .nil => []
  | .cons h s r => (h, s.nds) :: (s.fl2 ++ r.fl2)
def ndP (p : FH × List Value) : Value := nd1 p.1 p.2
theorem fl2_flat (f : Fo) : f.flat = f.fl2.map ndP := by
  induction f with
  | nil => rfl
  | cons h s r ih1 ih2 => simp only [Fo.flat, Fo.fl2, List.map_cons, List.map_append, ih1, ih2]; rfl
def atK (p : FH × List Value) : List AtD := if p.1.k = 0 ∨ p.1.k = 1 ∨ p.1.k = 3 ∨ p.1.k = 4 ∨ p.1.k = 5 ∨ p.1.k = 6 ∨ p.1.k = 7 then [] else [atD p.1]
theorem atK_cases (p : FH × List Value) : (atK p = [] ∧ ∃ t y, ndP p = .iface t y ∧ (t = 165 ∨ t = 179 ∨ t = 167 ∨ t = 148)) ∨
    (atK p = [atD p.1] ∧ ndP p = .iface 146 (.agg #[.int .i64 p.1.ak, .int .i64 p.1.am, .int .i64 p.1.a, .int .i64 p.1.b, .int .i64 p.1.c, .int .i64 p.1.d, .int .i64 p.1.n])) := by
  unfold atK ndP nd1
  by_cases h : p.1.k = 0 ∨ p.1.k = 1 ∨ p.1.k = 3 ∨ p.1.k = 4 ∨ p.1.k = 5 ∨ p.1.k = 6 ∨ p.1.k = 7
  · rw [if_pos h]
    refine .inl ⟨rfl, ?_⟩
    rcases h with h | h | h | h | h | h | h <;> rw [h] <;> simp
  · rw [if_neg h]
    refine .inr ⟨rfl, ?_⟩
    repeat rw [if_neg (by omega)]
theorem fl2_ats : ∀ (f : Fo), f.okB = true → f.fl2.flatMap atK = f.ats := by
  intro f
  induction f with
  | nil => intro _; rfl
  | cons h s r ih1 ih2 =>
    intro hok
    simp only [Fo.okB, Bool.and_eq_true] at hok
    simp only [Fo.fl2, Fo.ats, List.flatMap_cons, List.flatMap_append, ih1 hok.1.2, ih2 hok.2]
    rcases own_kind hok.1.1 with ⟨hl, hk⟩ | ⟨hl, hk⟩ | ⟨hl, hk⟩
    · obtain rfl := Fo.len_zero hl
      rcases hk with hk | hk | hk
      · simp [atK, hk, Fo.ats]
      · simp [atK, hk, Fo.ats]
      · simp [atK, hk, Fo.ats]
    · rw [if_neg (by omega)]
      rcases hk with hk | hk | hk <;> simp [atK, hk]
    · rw [if_neg (by omega)]
      rcases hk with hk | hk <;> simp [atK, hk]
theorem fl2_atF {h : FH} {f : Fo} (ho : ownB h f.len = true) (hok : f.okB = true) : ((h, f.nds) :: f.fl2).flatMap atK = atF h f := by
  have := fl2_ats (.cons h f .nil) (by simp only [Fo.okB, Bool.and_true, Bool.and_eq_true]; exact ⟨ho, hok⟩)
  simpa [Fo.fl2, Fo.ats, atF] using this
theorem atK_len (P : List (FH × List Value)) : (P.flatMap atK).length ≤ P.length := by
  induction P with
  | nil => exact Nat.le_refl _
  | cons p r ih =>
    simp only [List.flatMap_cons, List.length_append, List.length_cons]
    rcases atK_cases p with ⟨e, _⟩ | ⟨e, _⟩ <;> rw [e] <;> simp only [List.length_nil, List.length_cons] <;> omega

theorem Try.ta_atom (k m a b c d n : Int) (w : World) : (Instr.typeAssert (.iface 146 (.agg #[.int .i64 k, .int .i64 m, .int .i64 a, .int .i64 b, .int .i64 c, .int .i64 d, .int .i64 n])) 120 146 true).run Try.prog w = .ok (.tuple #[.agg #[.int .i64 k, .int .i64 m, .int .i64 a, .int .i64 b, .int .i64 c, .int .i64 d, .int .i64 n], .bool true]) w := by kernel_rfl
theorem Try.ta_other (t : TypeId) (y : Value) (h : t = 165 ∨ t = 179 ∨ t = 167 ∨ t = 148) (w : World) : (Instr.typeAssert (.iface t y) 120 146 true).run Try.prog w = .ok (.tuple #[.agg #[.int .i64 0, .int .i64 0, .int .i64 0, .int .i64 0, .int .i64 0, .int .i64 0, .int .i64 0], .bool false]) w := by
  rcases h with rfl | rfl | rfl | rfl
  · kernel_rfl
  · kernel_rfl
  · kernel_rfl
  · kernel_rfl

def AoR (P : List (FH × List Value)) (B : Nat) (w2 : World) (v i : Value) (wr : World) : Prop :=
  ∃ (k : Nat) (D : List AtD), i = .int .i64 k ∧ k ≤ P.length ∧ D = (P.take k).flatMap atK ∧ OwnA wr B v D ∧ Below B w2 wr

set_option maxRecDepth 10000 in
set_option maxHeartbeats 2000000 in
theorem AtomsOf_any (h : FH) (f : Fo) (w : World) (lo : Nat) (s : Value) (hs : FS w lo f s) :
    Calls Try.prog 82 #[.agg #[.int .i64 h.k, .int .i64 h.ak, .int .i64 h.am, .int .i64 h.a, .int .i64 h.b, .int .i64 h.c, .int .i64 h.d, .int .i64 h.n, .int .i64 h.v, s]] w (AtqT (atL h f) w) := by
  have HC := Lib.hid (fun W hW => nodeOf_any h f W lo s (FS.below (w := w) hW (Nat.le_refl _) hs))
  obtain ⟨sa, sn, sc, rfl⟩ := hs.slice
  clear hs
  cases hv : vfB h f with
  | false =>
    have HI := Lib.hid (show atL h f = [] by unfold atL; rw [if_neg (by rw [hv]; simp)])
    have HV := Lib.hid (show ndV h f = .tuple #[.nilIface, .bool false] by unfold ndV; rw [if_neg (by rw [hv]; simp)])
    clear hv
    go_enter Try.func82, Try.ntmps82
    go_wp2_with fail
    refine (HC.out _ (by go_grown)).mono ?_
    rintro e w1 ⟨rfl, hb1⟩
    rw [HV.out]
    go_wp2
    go_ret
    exact ⟨_, rfl, by rw [HI.out]; exact World.ownsRow_nil _ _ _ _, below_on (by go_grown) hb1⟩
  | true =>
    obtain ⟨h1, h2, h3⟩ := vf_parts hv
    obtain ⟨P, hP⟩ : ∃ P, P = (h, f.nds) :: f.fl2 := ⟨_, rfl⟩
    have hlen : P.length = f.size + 1 := by
      have := flat_len f
      rw [fl2_flat, List.length_map] at this
      rw [hP, List.length_cons, this]
    have hL : nd1 h f.nds :: f.flat = P.map ndP := by rw [hP, fl2_flat]; rfl
    have HN := Lib.hid (fun W => nodesIn_any _ _ W (by simp [flat_len]; omega) (an_any f.size h f (Nat.le_refl _) h1 h2))
    rw [hL] at HN
    have HI := Lib.hid (show atL h f = P.flatMap atK by unfold atL; rw [if_pos hv, hP, fl2_atF h1 h2])
    have HV := Lib.hid (show ndV h f = .tuple #[nd1 h f.nds, .bool true] by unfold ndV; rw [if_pos hv])
    obtain ⟨i0, hi, hz0, hz1, hz2⟩ := info_parts Try.infoAtom3
    have HII := Lib.hid (And.intro hi (And.intro hz0 (And.intro hz1 hz2)))
    have hPl : P.length ≤ 1000 := by omega
    have hP0 : 0 < P.length := by omega
    clear hv h1 h2 h3 hL hP hlen hi hz0 hz1 hz2
    go_enter Try.func82, Try.ntmps82
    go_wp2_with fail
    refine (HC.out _ (by go_grown)).mono ?_
    rintro e w1 ⟨rfl, hb1⟩
    rw [HV.out]
    have hw1 : Below w.heap.size w w1 := below_on (by go_grown) hb1
    clear hb1
    go_wp2_with fail
    refine (HN.out _).mono ?_
    rintro e w2 ⟨v2, rfl, ho2, hb2⟩
    rw [List.length_map] at ho2
    have hw2 := below_on hw1 hb2
    obtain ⟨g, cap, rfl, hcap1, hcap2, hg0, hg, hcells⟩ := own_read ho2 hP0
    obtain ⟨N, hN⟩ : ∃ N, N = P.length := ⟨_, rfl⟩
    rw [← hN] at hPl hcap1 hcells ⊢
    have HNN := Lib.hid hN
    have HCL := Lib.hid hcells
    unfold maxLen at hcap2
    have hs2 := hw2.size
    clear ho2 hN hcells hb2 hP0
    go_wp2_with fail
    go_loopw [5, 20] (fun v i wr => AoR P w2.heap.size w2 v i wr) (fun _ i _ => N - (intOf i).toNat)
    case atStart => exact ⟨0, [], rfl, by omega, rfl, World.ownsRow_nil _ _ _ _, Below.refl _ _⟩
    case round =>
      obtain ⟨k, D, rfl, hk, hD, hown, hbw⟩ := hrel
      have HDD := Lib.hid hD
      have hk' : k ≤ N := by rw [HNN.out]; exact hk
      have HO := Lib.hid hown
      have HB := Lib.hid hbw
      have hsw := hbw.size
      clear hk hown hD
      by_cases hlt : k < N
      · have hkN : (k : Int) < (N : Int) := by omega
        have hk0 : (0 : Int) ≤ k := by omega
        obtain ⟨p, hp⟩ : ∃ p, P[k]? = some p := ⟨_, List.getElem?_eq_getElem (by rw [← HNN.out]; exact hlt)⟩
        have hcell := (hbw.cell (p := ⟨g, k, none⟩) hg).trans (HCL.out k hlt)
        rw [List.getElem?_map, hp, Option.map_some] at hcell
        have HT := Lib.hid (show (P.take (k + 1)).flatMap atK = D ++ atK p by rw [HDD.out, List.take_add_one, hp]; simp)
        have HK := Lib.hid (show k + 1 ≤ P.length by rw [← HNN.out]; omega)
        have hql : D.length ≤ 1000 := by
          have := atK_len (P.take k)
          rw [List.length_take, ← HDD.out] at this
          omega
        clear hp hbw
        rcases atK_cases p with ⟨hn, t, y, he, ht⟩ | ⟨hn, he⟩
        · rw [he] at hcell
          have hta := fun w => Try.ta_other t y ht w
          have HN2 := Lib.hid hn
          have HO2 := Lib.hid (show OwnA wr w2.heap.size _ ((P.take (k + 1)).flatMap atK) by rw [HT.out, hn, List.append_nil]; exact HO.out)
          clear he ht hn
          go_wp2
          have hbn := HB.out
          have HO3 := Lib.hid (show OwnA (wr.alloc (.cells #[.int .i64 0, .int .i64 0, .int .i64 0, .int .i64 0, .int .i64 0, .int .i64 0, .int .i64 0] 146)) w2.heap.size _ ((P.take (k + 1)).flatMap atK) from own_below HO2.out (by go_grown))
          go_roundw
          case rel => exact ⟨k + 1, _, by go_num, HK.out, rfl, HO3.out, by go_grown⟩
          case measure => simp [intOf]; omega
        · rw [he] at hcell
          have hta := fun w => Try.ta_atom p.1.ak p.1.am p.1.a p.1.b p.1.c p.1.d p.1.n w
          have HN2 := Lib.hid hn
          clear he hn
          go_upto_region 10 with fail
          generalize hW : wr.alloc _ = W
          have hx : C7 W wr.heap.size p.1.ak p.1.am p.1.a p.1.b p.1.c p.1.d p.1.n := by subst hW; exact (by refine ⟨?_, ?_, ?_, ?_, ?_, ?_, ?_, ?_⟩ <;> first | (simp [go_sem]; done) | (simp; omega))
          have hbW : Below wr.heap.size wr W := by subst hW; go_grown
          have hownW := own_below (show wr.ownsRow w2.heap.size 44 7 _ D.length (AL D) from HO.out) hbW
          have HBW := Lib.hid (HB.out.trans (hbW.mono (by omega)))
          have hsW := hbW.size
          obtain ⟨x0, x1, x2, x3, x4, x5, x6, x7⟩ := hx
          clear hW hbW hta hcell
          obtain ⟨hi, hz0, hz1, hz2⟩ := HII.out
          go_wp2_with (at_builtin; refine wpList_append_own _ rfl _ _ 114 rfl w2.heap.size 44 i0 (.agg #[.int .i64 0, .int .i64 0, .int .i64 0, .int .i64 0, .int .i64 0, .int .i64 0, .int .i64 0]) 7 56 Try.underlying114 hi hz0 hz1 hz2 rfl (by decide) _ _ _ rfl (hownW.alloc _) ⟨W.heap.size, 0, none⟩ 1 1 (acells (atD p.1)) rfl rfl ?c1 ?c2 ?c3 ?c4 ?c5 ?_)
          case c1 => exact atom_news3 (w := W) (atD p.1)
          case c2 => intro u hu; exact al_ints [atD p.1] u (by simpa [AL] using hu)
          case c3 => unfold maxLen; omega
          case c4 => omega
          case c5 => simp; omega
          · intro v' w4 hown4 hgrow _
            have hbA : Below W.heap.size W (W.alloc (.cells (acells (atD p.1)).toArray 44)) := by go_grown
            have HN4 : Hid (OwnA w4 w2.heap.size v' ((P.take (k + 1)).flatMap atK)) := by
              show w4.ownsRow _ _ _ _ _ _
              rw [HT.out, HN2.out, al_app, List.length_append]
              have e : AL [atD p.1] = acells (atD p.1) := by simp [AL]
              rw [e]
              exact hown4
            have HB4 : Hid (Below w2.heap.size w2 w4) := grown_below3 (HBW.out.trans (hbA.mono (by omega))) (own_below hownW hbA) (Nat.le_refl _) hgrow
            clear hown4 hgrow hbA hownW hi hz0 hz1 hz2 x0 x1 x2 x3 x4 x5 x6 x7
            go_wp2
            go_roundw
            case rel => exact ⟨k + 1, _, by go_num, HK.out, rfl, HN4.out, HB4.out⟩
            case measure => simp [intOf]; omega
      · have hkN : ¬ (k : Int) < (N : Int) := by omega
        obtain rfl : k = N := by omega
        have HO2 := Lib.hid (show OwnA wr w.heap.size _ (P.flatMap atK) by have := HO.out; rw [HDD.out, HNN.out, List.take_length] at this; exact own_mono this hs2)
        go_wp2
        go_ret
        exact ⟨_, rfl, by rw [HI.out]; exact HO2.out, below_on hw2 HB.out⟩

theorem atL_len (h : FH) (f : Fo) : (atL h f).length ≤ 600 := by
  unfold atL
  split
  · rename_i hv
    have := atF_len h f
    have := (vf_parts hv).2.2
    omega
  · simp

end Go.Proofs.Ytcgolbkpfncgpaa
