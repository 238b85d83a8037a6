/- The atoms of a formula: contracts of the model's l3Atoms and AtomsOf. -/
import Derived.Test.YtcgolbkpfncgpaaFormI
import Derived.Test.YtcgolbkpfncgpaaAtM
import Derived.Laws.AppendOwn
namespace Go.Proofs.Ytcgolbkpfncgpaa
open Go.RowKit

def atD (h : FH) : AtD := ⟨h.ak, h.am, h.a, h.b, h.c, h.d, h.n⟩
/-- The atoms of the formulas of a list. -/
def Fo.ats : Fo → List AtD
  | .nil => []
  | .cons h s r => (if h.k = 2 then [atD h] else s.ats) ++ r.ats
def atF (h : FH) (f : Fo) : List AtD := if h.k = 2 then [atD h] else f.ats
theorem ats_len (f : Fo) : f.ats.length ≤ f.size := by
  induction f with
  | nil => exact Nat.le_refl _
  | cons h s r ih1 ih2 =>
    simp only [Fo.ats, Fo.size, List.length_append]
    split
    · simp only [List.length_cons, List.length_nil]; omega
    · omega
theorem atF_len (h : FH) (f : Fo) : (atF h f).length ≤ f.size + 1 := by
  unfold atF
  have := ats_len f
  split
  · simp only [List.length_cons, List.length_nil]; omega
  · omega

theorem al_ints (L : List AtD) : ∀ u ∈ AL L, u.oneCell' = true := by
  induction L with
  | nil => intro u hu; simp [AL] at hu
  | cons x r ih =>
    intro u hu
    simp only [AL, List.mem_append] at hu
    rcases hu with hu | hu
    · simp only [acells, List.mem_cons, List.not_mem_nil, or_false] at hu
      rcases hu with rfl | rfl | rfl | rfl | rfl | rfl | rfl <;> rfl
    · exact ih u hu

/-- A new list of atoms that is not nil. -/
def AtnT (L : List AtD) (w : World) (e : Ending) (w' : World) : Prop := ∃ g cap, e = .returned (.slice (some ⟨g, 0, none⟩) L.length cap) ∧ OwnA w' w.heap.size (.slice (some ⟨g, 0, none⟩) L.length cap) L ∧ Below w.heap.size w w'

theorem own_some {w : World} {B e size n : Nat} {v : Value} {xs : List Value} (h : w.ownsRow B e size v n xs) (hv : ¬ v = .slice none 0 0) : ∃ g cap, v = .slice (some ⟨g, 0, none⟩) n cap := by
  rcases h.2 with ⟨e, _⟩ | ⟨g, cap, _, e, _⟩
  · exact absurd e hv
  · exact ⟨g, cap, e⟩

theorem grown_below3 {w W W' : World} {v : Value} {B e size n : Nat} {xs : List Value} (hb : Below w.heap.size w W) (hown : W.ownsRow B e size v n xs) (hB : w.heap.size ≤ B) (hg : W.grownBy W' v.ownBlock) : Below w.heap.size w W' :=
  ⟨hg.os.trans hb.os, hg.tape.trans hb.tape, hg.output.trans hb.output, Nat.le_trans hb.size hg.size, fun i hi =>
    (hg.block i (Nat.lt_of_lt_of_le hi hb.size) (fun e => by have := hown.lt i e.symm; omega)).trans (hb.block i hi)⟩
theorem grown_lt3 {W W' : World} {B e size n : Nat} {v : Value} {xs : List Value} (hown : W.ownsRow B e size v n xs) (hg : W.grownBy W' v.ownBlock) {k : Nat} (hk : k < W.heap.size) (hkB : k < B) : W'.heap[k]? = W.heap[k]? :=
  hg.block k hk (fun e => by have := hown.lt k e.symm; omega)

theorem Try.infoAtom3 : (Try.prog.info? 44).map (fun i => (i.zero, i.size, i.bytes)) = some (some (.agg #[.int .i64 0, .int .i64 0, .int .i64 0, .int .i64 0, .int .i64 0, .int .i64 0, .int .i64 0]), 7, 56) := by kernel_rfl

theorem atom_news3 {w : World} (x : AtD) : ∀ j u, (acells x)[j]? = some u → (w.alloc (.cells (acells x).toArray 44)).cell? ((⟨w.heap.size, 0, none⟩ : Addr).add j) = some u := by
  intro j u hj
  match j, hj with
  | 0, hj => simp [acells] at hj; subst hj; simp [Addr.add, acells]
  | 1, hj => simp [acells] at hj; subst hj; simp [Addr.add, acells]
  | 2, hj => simp [acells] at hj; subst hj; simp [Addr.add, acells]
  | 3, hj => simp [acells] at hj; subst hj; simp [Addr.add, acells]
  | 4, hj => simp [acells] at hj; subst hj; simp [Addr.add, acells]
  | 5, hj => simp [acells] at hj; subst hj; simp [Addr.add, acells]
  | 6, hj => simp [acells] at hj; subst hj; simp [Addr.add, acells]
  | j + 7, hj => simp [acells] at hj

def L3A (h : FH) (f : Fo) : Prop := ∀ (w : World) (lo : Nat) (s : Value), f.size ≤ 1000000 → FS w lo f s → Calls Try.prog 116 #[.agg #[.int .i64 h.k, .int .i64 h.ak, .int .i64 h.am, .int .i64 h.a, .int .i64 h.b, .int .i64 h.c, .int .i64 h.d, .int .i64 h.n, .int .i64 h.v, s]] w (AtnT (atF h f) w)

def L3R (h : FH) (f : Fo) (b o lo : Nat) (w : World) (s out i : Value) (wr : World) : Prop :=
  ∃ (k g cap : Nat) (r : Fo) (done : List AtD), i = .int .i64 k ∧ out = .slice (some ⟨g, 0, none⟩) done.length cap ∧ k + r.len = f.len ∧ r.size ≤ f.size ∧ done ++ r.ats = f.ats ∧ OwnA wr (w.heap.size + 1) (.slice (some ⟨g, 0, none⟩) done.length cap) done ∧ FEl w lo r b (o + k * 10) ∧ Below w.heap.size w wr ∧ C10 wr w.heap.size h s

set_option maxRecDepth 10000 in
set_option maxHeartbeats 2000000 in
theorem l3a_of {h : FH} {f : Fo} (HF : ∀ h s, s.size < f.size → L3A h s) : L3A h f := by
  intro w lo s hz hs
  have H := Lib.hid HF
  have HS := Lib.hid hs
  clear HF
  obtain ⟨sa, sn, sc, rfl⟩ := hs.slice
  clear hs
  obtain ⟨i0, hi, hz0, hz1, hz2⟩ := info_parts Try.infoAtom3
  have HI := Lib.hid (And.intro hi (And.intro hz0 (And.intro hz1 hz2)))
  clear hi hz0 hz1 hz2
  by_cases hk : h.k = 2
  · have hk2 : (h.k == 2) = true := by simpa using hk
    have HA := Lib.hid (show atF h f = [atD h] by unfold atF; rw [if_pos hk])
    clear hk
    go_enter Try.func116, Try.ntmps116
    go_upto_region 3 with fail
    generalize hW : World.alloc _ _ = W
    have hx : C10 W w.heap.size h (.slice sa sn sc) := by subst hW; exact (by refine ⟨?_, ?_, ?_, ?_, ?_, ?_, ?_, ?_, ?_, ?_, ?_⟩ <;> first | (simp [go_sem]; done) | (simp; omega))
    have hw : Below w.heap.size w W := by subst hW; go_grown
    have ho : W.ownsRow (w.heap.size + 1) 44 7 (.slice (some ⟨w.heap.size + 1, 0, none⟩) 0 0) 0 [] := by
      subst hW
      have := World.ownsRow_lit (base := w.heap.size + 1) (e := 44) (size := 7) (w.alloc (.cells #[.int .i64 h.k, .int .i64 h.ak, .int .i64 h.am, .int .i64 h.a, .int .i64 h.b, .int .i64 h.c, .int .i64 h.d, .int .i64 h.n, .int .i64 h.v, .slice sa sn sc] 56)) #[] 0 (by simp) (Nat.zero_le _) rfl
      simpa using this
    have hsW : w.heap.size + 1 < W.heap.size := by subst hW; simp
    clear hW
    obtain ⟨x0, c0, c1, c2, c3, c4, c5, c6, c7, c8, c9⟩ := id hx
    obtain ⟨hi, hz0, hz1, hz2⟩ := HI.out
    go_wp2_with (at_builtin; refine wpList_append_own _ rfl _ _ 114 rfl (w.heap.size + 1) 44 i0 (.agg #[.int .i64 0, .int .i64 0, .int .i64 0, .int .i64 0, .int .i64 0, .int .i64 0, .int .i64 0]) 7 56 Try.underlying114 hi hz0 hz1 hz2 rfl (by decide) _ _ _ rfl (ho.alloc _) ⟨W.heap.size, 0, none⟩ 1 1 (acells (atD h)) rfl rfl ?c1 ?c2 ?c3 ?c4 ?c5 ?_)
    case c1 => exact atom_news3 (w := W) (atD h)
    case c2 => intro u hu; exact al_ints [atD h] u (by simpa [AL] using hu)
    case c3 => unfold maxLen; omega
    case c4 => omega
    case c5 => simp; omega
    · intro v' w4 hown4 hgrow hnil
      have hbA : Below W.heap.size W (W.alloc (.cells (acells (atD h)).toArray 44)) := by go_grown
      obtain ⟨g, cap, rfl⟩ := own_some hown4 hnil
      have hb4 : Below w.heap.size w w4 := grown_below3 (hw.trans (hbA.mono (by omega))) (own_below ho hbA) (by omega) hgrow
      have HO := Lib.hid (show OwnA w4 w.heap.size (.slice (some ⟨g, 0, none⟩) [atD h].length cap) [atD h] from own_mono (by simpa [AL] using hown4) (by omega))
      clear hown4 hgrow hnil hbA ho hi hz0 hz1 hz2
      go_wp2
      go_ret
      exact ⟨g, cap, by rw [HA.out]; rfl, by rw [HA.out]; exact HO.out, hb4⟩
  · have hk2 : (h.k == 2) = false := by simpa using hk
    have HA := Lib.hid (show atF h f = f.ats by unfold atF; rw [if_neg hk])
    clear hk
    go_enter Try.func116, Try.ntmps116
    go_wp2_with fail
    generalize hW : World.alloc _ _ = W
    have hx : C10 W w.heap.size h (.slice sa sn sc) := by subst hW; exact (by refine ⟨?_, ?_, ?_, ?_, ?_, ?_, ?_, ?_, ?_, ?_, ?_⟩ <;> first | (simp [go_sem]; done) | (simp; omega))
    have hw : Below w.heap.size w W := by subst hW; go_grown
    have ho : W.ownsRow (w.heap.size + 1) 44 7 (.slice (some ⟨w.heap.size + 1, 0, none⟩) 0 0) 0 [] := by
      subst hW
      have := World.ownsRow_lit (base := w.heap.size + 1) (e := 44) (size := 7) (w.alloc (.cells #[.int .i64 h.k, .int .i64 h.ak, .int .i64 h.am, .int .i64 h.a, .int .i64 h.b, .int .i64 h.c, .int .i64 h.d, .int .i64 h.n, .int .i64 h.v, .slice sa sn sc] 56)) #[] 0 (by simp) (Nat.zero_le _) rfl
      simpa using this
    clear hW
    rcases HS.out with ⟨h0, x, cap0, e, _, _⟩ | ⟨h0, b, o, cap0, e, hc1, hc2, hlo, hb, hel⟩
    · obtain rfl : f = .nil := Fo.len_zero h0
      injection e with e1 e2 e3
      subst e1 e2 e3
      have HO := Lib.hid (show OwnA W w.heap.size (.slice (some ⟨w.heap.size + 1, 0, none⟩) ([] : List AtD).length 0) [] from own_mono ho (by omega))
      obtain ⟨x0, c0, c1, c2, c3, c4, c5, c6, c7, c8, c9⟩ := id hx
      clear ho h0
      refine wp_loop_rounds 1 ?_
      rw [rounds_succ]
      go_wp2
      go_ret
      exact ⟨_, _, by rw [HA.out]; rfl, by rw [HA.out]; exact HO.out, hw⟩
    · injection e with e1 e2 e3
      subst e1 e2 e3
      have HST := Lib.hid (show L3R h f b o lo w (.slice (some ⟨b, o, none⟩) f.len sc) (.slice (some ⟨w.heap.size + 1, 0, none⟩) 0 0) (.int .i64 0) W from ⟨0, _, _, f, [], rfl, rfl, by omega, Nat.le_refl _, rfl, ho, by simpa using hel, hw, hx⟩)
      unfold maxLen at hc2
      clear hel ho hx hw HS
      go_loopw [3, 4] (fun out i wr => L3R h f b o lo w (.slice (some ⟨b, o, none⟩) f.len sc) out i wr) (fun _ i _ => f.len - (intOf i).toNat)
      case atStart => exact HST.out
      case round =>
        obtain ⟨k, g, cap, r, done, rfl, rfl, hk, hdr, hdone, hown, hr, hbw, hx2⟩ := hrel
        have HD := Lib.hid hdone
        have hdl : done.length ≤ f.size := by have := ats_len f; rw [← hdone, List.length_append] at this; omega
        clear hdone HST
        obtain ⟨x0, c0, c1, c2, c3, c4, c5, c6, c7, c8, c9⟩ := id hx2
        cases r with
        | nil =>
          simp only [Fo.len] at hk
          have hkl : ¬ k < f.len := by omega
          have e : done = f.ats := by have := HD.out; simpa [Fo.ats] using this
          have HO := Lib.hid (show OwnA wr w.heap.size _ done from own_mono hown (by omega))
          have HE := Lib.hid (show atF h f = done by rw [HA.out, e])
          clear hown e
          go_wp2
          go_ret
          exact ⟨_, _, by rw [HE.out]; rfl, by rw [HE.out]; exact HO.out, hbw⟩
        | cons h' s' r' =>
          simp only [Fo.len] at hk
          simp only [Fo.size] at hdr
          have hkl : k < f.len := by omega
          have HR := Lib.hid hr.2
          obtain ⟨⟨sl, hrow, hsl⟩, _⟩ := FEl.below hbw (Nat.le_refl _) hlo hb hr
          clear hr
          have HC := Lib.hid (H.out h' s' (by omega) wr lo sl (by omega) hsl)
          have HB := Lib.hid hbw
          have HX := Lib.hid hx2
          have HO := Lib.hid hown
          obtain ⟨L2, hL2⟩ : ∃ L2, L2 = atF h' s' := ⟨_, rfl⟩
          have hl2 : L2.length ≤ s'.size + 1 := by rw [hL2]; exact atF_len h' s'
          have HD2 := Lib.hid (show (done ++ L2) ++ r'.ats = f.ats by rw [← HD.out, hL2]; simp [Fo.ats, atF])
          rw [← hL2] at HC
          obtain ⟨d0, d1, d2, d3, d4, d5, d6, d7, d8, d9⟩ := hrow
          clear hsl hbw hx2 hown hL2
          go_wp2_with fail
          refine HC.out.mono ?_
          rintro e w2 ⟨g2, cap2, rfl, ho2, hb2⟩
          have HB2 := Lib.hid (below_on HB.out hb2)
          have HX2 := Lib.hid (c10_on HX.out hb2)
          have hown2 := own_below (show wr.ownsRow (w.heap.size + 1) 44 7 _ done.length (AL done) from HO.out) hb2
          have hnews : ∀ j u, (AL L2)[j]? = some u → w2.cell? ((⟨g2, 0, none⟩ : Addr).add j) = some u := ho2.cells (g := g2) rfl
          have hs2 : w.heap.size + 1 ≤ w2.heap.size := HX2.out.1
          clear c0 c1 c2 c3 c4 c5 c6 c7 c8 c9 d0 d1 d2 d3 d4 d5 d6 d7 d8 d9 hb2 ho2
          obtain ⟨hi, hz0, hz1, hz2⟩ := HI.out
          go_wp2_with (at_builtin; refine wpList_append_own _ rfl _ _ 114 rfl (w.heap.size + 1) 44 i0 (.agg #[.int .i64 0, .int .i64 0, .int .i64 0, .int .i64 0, .int .i64 0, .int .i64 0, .int .i64 0]) 7 56 Try.underlying114 hi hz0 hz1 hz2 rfl (by decide) _ _ _ rfl hown2 ⟨g2, 0, none⟩ L2.length cap2 (AL L2) rfl (al_len L2) ?d1 ?d2 ?d3 ?d4 ?d5 ?_)
          case d1 => exact hnews
          case d2 => exact al_ints L2
          case d3 => unfold maxLen; omega
          case d4 => omega
          case d5 => exact hs2
          · intro v' w4 hown4 hgrow hnil
            obtain ⟨g4, cap4, rfl⟩ := own_some hown4 hnil
            have HB4 := Lib.hid (grown_below3 HB2.out hown2 (by omega) hgrow)
            have HX4 := Lib.hid (c10_block hgrow.size (grown_lt3 hown2 hgrow HX2.out.1 (by omega)) HX2.out)
            have HO4 := Lib.hid (show OwnA w4 (w.heap.size + 1) (.slice (some ⟨g4, 0, none⟩) (done ++ L2).length cap4) (done ++ L2) by
              show w4.ownsRow _ _ _ _ _ _
              rw [al_app, List.length_append]
              exact hown4)
            have HLN := Lib.hid (show done.length + L2.length = (done ++ L2).length by rw [List.length_append])
            rw [HLN.out]
            clear hown2 hown4 hgrow hnil hnews hi hz0 hz1 hz2
            go_wp2
            go_roundw
            case rel => exact ⟨k + 1, g4, cap4, r', done ++ L2, by go_num, rfl, by omega, by omega, HD2.out, HO4.out, by rw [show o + (k + 1) * 10 = o + k * 10 + 10 by omega]; exact HR.out, HB4.out, HX4.out⟩
            case measure => simp [intOf]; omega

theorem l3a_any (h : FH) (f : Fo) : L3A h f := by
  have key : ∀ N (h : FH) (f : Fo), f.size ≤ N → L3A h f := by
    intro N
    induction N with
    | zero => intro h f hf; exact l3a_of fun h s hs => absurd hs (by omega)
    | succ N ih => intro h f hf; exact l3a_of fun h s hs => ih h s (by omega)
  exact key f.size h f (Nat.le_refl _)

end Go.Proofs.Ytcgolbkpfncgpaa
