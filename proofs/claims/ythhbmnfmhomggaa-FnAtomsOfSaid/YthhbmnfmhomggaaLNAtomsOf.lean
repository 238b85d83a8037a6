/- The walk of the law on the atoms of a formula. -/
import Derived.Test.YthhbmnfmhomggaaLNNodes
import Derived.Laws.AppendOwnNone
namespace Go.Proofs.Ythhbmnfmhomggaa
open Go.RowKit

theorem Try.neq_same (k m a b c d n : Int) (w : World) :
    (binOp .neq 26 (.agg #[.int .i64 k, .int .i64 m, .int .i64 a, .int .i64 b, .int .i64 c, .int .i64 d, .int .i64 n]) (.agg #[.int .i64 k, .int .i64 m, .int .i64 a, .int .i64 b, .int .i64 c, .int .i64 d, .int .i64 n])).run Try.prog w = .ok (.bool false) w := by
  go_simp

set_option maxRecDepth 10000 in
set_option maxHeartbeats 1000000 in
theorem pbAtoms_same (v u : Value) (L : List AtD) (w : World) (h1 : RdA w v L) (h2 : RdA w u L) (hL : L.length ≤ 1000000) :
    Calls Try.prog 21 #[v, u] w fun e w' => e = .returned (.bool true) ∧ Below w.heap.size w w' := by
  obtain ⟨sp, cap, rfl, hc⟩ := h1
  obtain ⟨sp', cap', rfl, hc'⟩ := h2
  obtain ⟨N, hN⟩ : ∃ N, N = L.length := ⟨_, rfl⟩
  rw [← hN] at hL hc hc' ⊢
  have HN := Lib.hid hN
  have HC := Lib.hid hc
  have HC' := Lib.hid hc'
  clear hN hc hc'
  go_enter Try.func21, Try.ntmps21
  go_wp2
  go_loopw [5] (fun i wr => ∃ k : Nat, i = .int .i64 k ∧ k ≤ N ∧ Below w.heap.size w wr) (fun i _ => N - (intOf i).toNat)
  case atStart => exact ⟨0, rfl, by omega, Below.refl _ _⟩
  case round =>
    obtain ⟨k, rfl, hk, hbw⟩ := hrel
    by_cases hlt : k < N
    · have hk' : (k : Int) < (N : Int) := by omega
      have hk0 : (0 : Int) ≤ k := by omega
      obtain ⟨y, hy⟩ : ∃ y, L[k]? = some y := ⟨_, List.getElem?_eq_getElem (by rw [← HN.out]; exact hlt)⟩
      obtain ⟨b, rfl, hbl, hcell⟩ := HC.out.resolve_left (by omega)
      obtain ⟨b', rfl, hbl', hcell'⟩ := HC'.out.resolve_left (by omega)
      have f : ∀ o, wr.cell? ⟨b, o, none⟩ = w.cell? ⟨b, o, none⟩ := fun o => hbw.cell (p := ⟨b, o, none⟩) hbl
      have f' : ∀ o, wr.cell? ⟨b', o, none⟩ = w.cell? ⟨b', o, none⟩ := fun o => hbw.cell (p := ⟨b', o, none⟩) hbl'
      have r1 : ARow wr b (k * 7) y := by have := hcell k y hy; simpa only [ARow, f] using this
      have r2 : ARow wr b' (k * 7) y := by have := hcell' k y hy; simpa only [ARow, f'] using this
      obtain ⟨c0, c1, c2, c3, c4, c5, c6⟩ := r1
      obtain ⟨d0, d1, d2, d3, d4, d5, d6⟩ := r2
      have hne := fun W => Try.neq_same y.k y.m y.a y.b y.c y.d y.n W
      have HB := Lib.hid hbw
      clear hcell hcell' hy f f' hbw
      go_wp2_with fail
      go_region
      all_goals
        go_wp2
        go_roundw
        case rel => exact ⟨k + 1, by go_num, by omega, by have hbw := HB.out; go_grown⟩
        case measure => simp [intOf]; omega
    · have hk' : ¬ (k : Int) < (N : Int) := by omega
      go_wp2
      go_ret
      exact ⟨rfl, hbw⟩

def NaR (f : Fo) (b o lo : Nat) (W w5 : World) (all i : Value) (wr : World) : Prop :=
  ∃ (k g cap : Nat) (r : Fo) (D : List AtD), i = .int .i64 k ∧ all = .slice (some ⟨g, 0, none⟩) D.length cap ∧ k + r.len = f.len ∧ r.okB = true ∧ r.size ≤ f.size ∧ D ++ r.ats = f.ats ∧ OwnA wr w5.heap.size (.slice (some ⟨g, 0, none⟩) D.length cap) D ∧ FEl W lo r b (o + k * 10) ∧ Below w5.heap.size w5 wr

theorem ats_cons {h' : FH} {s' r' : Fo} (hv : vfB h' s' = true) : (Fo.cons h' s' r').ats = atL h' s' ++ r'.ats := by
  unfold atL
  rw [if_pos hv]
  rfl
theorem ownA_shape {w : World} {B : Nat} {v : Value} {L : List AtD} (h : OwnA w B v L) : (v = .slice none 0 0 ∧ L = []) ∨ ∃ g cap, v = .slice (some ⟨g, 0, none⟩) L.length cap := by
  rcases h.2 with ⟨rfl, h0⟩ | ⟨g, cap, cur, rfl, _⟩
  · exact .inl ⟨rfl, List.length_eq_zero_iff.1 h0⟩
  · exact .inr ⟨g, cap, rfl⟩

set_option maxRecDepth 10000 in
set_option maxHeartbeats 4000000 in
theorem atomsOf_walk (sp : Option Addr) (n cap : Nat) (w : World) (hcode : Code w sp n cap) :
    Calls Try.prog 5 #[.slice sp n cap] w fun e w' => e = .returned (.bool true) ∧ Below w.heap.size w w' := by
  have hc1 := hcode.1
  have hc2 := hcode.2.1
  have H := Lib.hid hcode
  clear hcode
  obtain ⟨i0, hi, hz0, hz1, hz2⟩ := info_parts Try.infoAtom3
  have HI := Lib.hid (And.intro hi (And.intro hz0 (And.intro hz1 hz2)))
  clear hi hz0 hz1 hz2
  by_cases hn : n ≤ 1048576
  · have hn' : ¬ (1048576 : Int) < (n : Int) := by omega
    go_enter Try.func5, Try.ntmps5
    go_wp2_with fail
    refine (DrawAtomsOf_t sp n cap w H.out).mono ?_
    rintro e w1 ⟨h, f, s, rfl, hs, hb1⟩
    have HS := Lib.hid hs
    obtain ⟨sa, sn, sc, rfl⟩ := hs.slice
    clear hs
    go_wp2_with fail
    generalize hW : World.alloc _ _ = W
    have hx : C10 W w1.heap.size h (.slice sa sn sc) := by subst hW; exact (by refine ⟨?_, ?_, ?_, ?_, ?_, ?_, ?_, ?_, ?_, ?_, ?_⟩ <;> first | (simp [go_sem]; done) | (simp; omega))
    have hbW : Below w1.heap.size w1 W := by subst hW; go_grown
    have hw0 := below_on hb1 hbW
    have HSW := Lib.hid (FS.below hbW (Nat.le_refl _) HS.out)
    have HF := Lib.hid (fun V (hV : Below W.heap.size W V) => FS.below hV (Nat.le_refl _) HSW.out)
    clear hW hb1 hbW
    have hal := atL_len h f
    obtain ⟨L, hL⟩ : ∃ L, atL h f = L := ⟨_, rfl⟩
    have HL := Lib.hid hL
    have HC := Lib.hid (fun V hV => specAtomsOf_any h f V _ _ (HF.out V hV))
    have HV := Lib.hid (fun V hV => FormulaValid_any h f V _ _ (HF.out V hV))
    have HA0 := Lib.hid (AtomsOf_any h f W _ _ HSW.out)
    rw [hL] at HC hal HA0
    clear hL
    refine HA0.out.mono ?_
    rintro e w2 ⟨v2, rfl, ho2, hb2⟩
    have hr2 := ownA_reads ho2
    obtain ⟨sp2, cap2, rfl, _⟩ := id hr2
    have HR2 := Lib.hid hr2
    clear ho2 hr2
    obtain ⟨x0, c0, c1, c2, c3, c4, c5, c6, c7, c8, c9⟩ := c10_on hx hb2
    go_wp2_with fail
    refine (HC.out _ hb2).mono ?_
    rintro e w3 ⟨v3, rfl, ho3, hb3⟩
    have hr3 := ownA_reads ho3
    obtain ⟨sp3, cap3, rfl, _⟩ := id hr3
    have HR23 := Lib.hid (readsA_on HR2.out hb3)
    have HR3 := Lib.hid hr3
    have hb3 := below_on hb2 hb3
    clear ho3 hr3
    go_wp2_with fail
    refine (pbAtoms_same _ _ L _ HR23.out HR3.out (by omega)).mono ?_
    rintro e w4 ⟨rfl, hb4⟩
    have HR24 := Lib.hid (readsA_on HR23.out hb4)
    have hb4 := below_on hb3 hb4
    obtain ⟨x0, c0, c1, c2, c3, c4, c5, c6, c7, c8, c9⟩ := c10_on hx hb4
    cases hv : vfB h f with
    | false =>
      rw [hv] at HV
      go_wp2_with fail
      refine (HV.out _ hb4).mono ?_
      rintro e w5 ⟨rfl, hb5⟩
      have HR25 := Lib.hid (readsA_on HR24.out hb5)
      have hb5 := below_on hb4 hb5
      obtain ⟨x0, c0, c1, c2, c3, c4, c5, c6, c7, c8, c9⟩ := c10_on hx hb5
      go_wp2_with fail
      refine (HC.out _ hb5).mono ?_
      rintro e w6 ⟨v6, rfl, ho6, hb6⟩
      have hr6 := ownA_reads ho6
      obtain ⟨sp6, cap6, rfl, _⟩ := id hr6
      have HR26 := Lib.hid (readsA_on HR25.out hb6)
      have HR6 := Lib.hid hr6
      have hb6 := below_on hb5 hb6
      clear ho6 hr6
      go_wp2_with fail
      refine (pbAtoms_same _ _ L _ HR26.out HR6.out (by omega)).mono ?_
      rintro e w7 ⟨rfl, hb7⟩
      go_wp2
      go_ret
      exact ⟨rfl, below_on hw0 (below_on hb6 hb7)⟩
    | true =>
      obtain ⟨hown, hok, h6⟩ := vf_parts hv
      have HK := Lib.hid (own_kind hown)
      have HAF := Lib.hid (show atF h f = L by rw [← HL.out]; unfold atL; rw [if_pos hv])
      have HOK := Lib.hid hok
      rw [hv] at HV
      clear hown hok hv
      go_wp2_with fail
      refine (HV.out _ hb4).mono ?_
      rintro e w5 ⟨rfl, hb5⟩
      have HR25 := Lib.hid (readsA_on HR24.out hb5)
      have hb5 := below_on hb4 hb5
      have hx5 := c10_on hx hb5
      obtain ⟨x0, c0, c1, c2, c3, c4, c5, c6, c7, c8, c9⟩ := id hx5
      have hats := ats_len f
      go_upto_region 8 with fail
      generalize hW6 : World.alloc _ _ = W6
      have ho6 : W6.ownsRow w5.heap.size 26 7 (.slice (some ⟨w5.heap.size, 0, none⟩) 0 0) 0 [] := by
        subst hW6
        have := World.ownsRow_lit (base := w5.heap.size) (e := 26) (size := 7) w5 #[] 0 (Nat.le_refl _) (Nat.zero_le _) rfl
        simpa using this
      have hb6 : Below w5.heap.size w5 W6 := by subst hW6; go_grown
      clear hW6 x0 c0 c1 c2 c3 c4 c5 c6 c7 c8 c9
      have HB5 := Lib.hid hb5
      rcases HSW.out with ⟨h0, y, cp, e, _, _⟩ | ⟨h0, b, o, cp, e, hcp1, hcp2, hlo, hb, hel⟩
      · obtain rfl : f = .nil := Fo.len_zero h0
        injection e with e1 e2 e3
        subst e1 e2 e3
        obtain ⟨x0, c0, c1, c2, c3, c4, c5, c6, c7, c8, c9⟩ := c10_on hx5 hb6
        have HO6 := Lib.hid ho6
        have HR26 := Lib.hid (readsA_on HR25.out hb6)
        clear ho6
        by_cases hk2 : h.k = 2
        · have hl1 : [atD h] = L := by rw [← HAF.out]; unfold atF; rw [if_pos hk2]
          have hk2b : (h.k == 2) = true := by simpa using hk2
          subst hl1
          clear hk2
          go_upto_region 12 with fail
          refine wp_loop_rounds 1 ?_
          rw [rounds_succ]
          go_upto_region 13 with fail
          obtain ⟨hi, hz0, hz1, hz2⟩ := HI.out
          go_wp2_with (at_builtin; refine wpList_append_own _ rfl _ _ 33 rfl w5.heap.size 26 i0 (.agg #[.int .i64 0, .int .i64 0, .int .i64 0, .int .i64 0, .int .i64 0, .int .i64 0, .int .i64 0]) 7 56 Try.underlying33 hi hz0 hz1 hz2 rfl (by decide) _ _ _ rfl (HO6.out.alloc _) ⟨W6.heap.size, 0, none⟩ 1 1 (acells (atD h)) rfl rfl ?c1 ?c2 ?c3 ?c4 ?c5 ?_)
          case c1 => exact atom_news3 (w := W6) (atD h)
          case c2 => intro u hu; exact al_ints [atD h] u (by simpa [AL] using hu)
          case c3 => unfold maxLen; omega
          case c4 => omega
          case c5 => have := hb6.size; simp; omega
          · intro v7 w7 ho7 hg7 _
            have hbA : Below w5.heap.size w5 (W6.alloc (.cells (acells (atD h)).toArray 26)) := below_on hb6 (by go_grown)
            have hb7 : Below w5.heap.size w5 w7 := grown_below3 hbA (HO6.out.alloc _) (Nat.le_refl _) hg7
            have hr7 := ownA_reads (show OwnA w7 w5.heap.size v7 [atD h] by
              show w7.ownsRow _ _ _ _ _ _
              simpa [AL] using ho7)
            have HR7 := Lib.hid hr7
            have HR27 := Lib.hid (readsA_on HR25.out hb7)
            obtain ⟨sp7, cap7, rfl, _⟩ := hr7
            clear ho7 hg7 hi hz0 hz1 hz2
            go_wp2_with fail
            refine (pbAtoms_same _ _ [atD h] _ HR7.out HR27.out (by omega)).mono ?_
            rintro e w8 ⟨rfl, hb8⟩
            go_wp2
            go_ret
            exact ⟨rfl, below_on hw0 (below_on HB5.out (below_on hb7 hb8))⟩
        · have hl1 : ([] : List AtD) = L := by rw [← HAF.out]; unfold atF; rw [if_neg hk2]; rfl
          have hk2b : (h.k == 2) = false := by simpa using hk2
          subst hl1
          have HR7 := Lib.hid (ownA_reads (show OwnA W6 w5.heap.size (.slice (some ⟨w5.heap.size, 0, none⟩) 0 0) [] from HO6.out))
          go_upto_region 12 with fail
          refine wp_loop_rounds 1 ?_
          rw [rounds_succ]
          go_wp2_with fail
          refine (pbAtoms_same _ _ [] _ HR7.out HR26.out (by simp)).mono ?_
          rintro e w8 ⟨rfl, hb8⟩
          go_wp2
          go_ret
          exact ⟨rfl, below_on hw0 (below_on HB5.out (below_on hb6 hb8))⟩
      · injection e with e1 e2 e3
        subst e1 e2 e3
        have hk2 : ¬ h.k = 2 := by
          intro h2
          rcases HK.out with ⟨hl, _⟩ | ⟨_, hk⟩ | ⟨_, hk⟩ <;> omega
        have hl1 : f.ats = L := by rw [← HAF.out]; unfold atF; rw [if_neg hk2]
        have hk2b : (h.k == 2) = false := by simpa using hk2
        have HLL := Lib.hid hl1
        have HST := Lib.hid (show NaR f b o w.heap.size W w5 (.slice (some ⟨w5.heap.size, 0, none⟩) 0 0) (.int .i64 0) W6 from ⟨0, _, _, f, [], rfl, rfl, by omega, HOK.out, Nat.le_refl _, rfl, ho6, by simpa using hel, hb6⟩)
        unfold maxLen at hcp2
        clear hel ho6 hk2 hl1 hb5 hb4 hb3 hb2 hb6
        go_wp2_with fail
        go_loopw [5, 6] (fun all i wr => NaR f b o w.heap.size W w5 all i wr) (fun _ i _ => f.len - (intOf i).toNat)
        case atStart => exact HST.out
        case round =>
          obtain ⟨k, g, cap0, r, D, rfl, rfl, hk, hrok, hdr, hD, hownD, hr, hbw⟩ := hrel
          clear HST
          have HD := Lib.hid hD
          have HO := Lib.hid hownD
          have hDl : D.length ≤ 600 := by
            have h1 := congrArg List.length hD
            rw [List.length_append] at h1
            omega
          have hx2 := c10_on hx5 hbw
          have HB := Lib.hid hbw
          obtain ⟨x0, c0, c1, c2, c3, c4, c5, c6, c7, c8, c9⟩ := id hx2
          clear hD hownD
          cases r with
          | nil =>
            simp only [Fo.len] at hk
            have hkl : ¬ k < f.len := by omega
            obtain rfl : D = L := by have h1 := HD.out; have h2 := HLL.out; simp only [Fo.ats, List.append_nil] at h1; rw [h1, h2]
            have HR7 := Lib.hid (ownA_reads HO.out)
            have HR27 := Lib.hid (readsA_on HR25.out HB.out)
            go_wp2_with fail
            refine (pbAtoms_same _ _ D _ HR7.out HR27.out (by omega)).mono ?_
            rintro e w8 ⟨rfl, hb8⟩
            go_wp2
            go_ret
            exact ⟨rfl, below_on hw0 (below_on HB5.out (below_on HB.out hb8))⟩
          | cons h' s' r' =>
            simp only [Fo.len] at hk
            simp only [Fo.size] at hdr
            have hkl : k < f.len := by omega
            have hz' : s'.size + 1 ≤ 600 := by omega
            obtain ⟨hv', hok'⟩ := sub_valid hrok hz'
            have HR := Lib.hid hr.2
            have HK' := Lib.hid hok'
            obtain ⟨⟨sl, hrow, hsl⟩, _⟩ := FEl.below (below_on HB5.out hbw) (Nat.le_refl _) hlo hb hr
            obtain ⟨L2, hL2⟩ : ∃ L2, atL h' s' = L2 := ⟨_, rfl⟩
            have hl2 : L2.length ≤ 600 := by rw [← hL2]; exact atL_len h' s'
            have HD2 := Lib.hid (show (D ++ L2) ++ r'.ats = f.ats by rw [← HD.out, ats_cons hv', hL2, List.append_assoc])
            have HC' := Lib.hid (AtomsOf_any h' s' wr w.heap.size sl hsl)
            rw [hL2] at HC'
            obtain ⟨d0, d1, d2, d3, d4, d5, d6, d7, d8, d9⟩ := hrow
            clear hr hsl hbw hx2 hv' hok' hrok hL2
            go_wp2_with fail
            refine HC'.out.mono ?_
            rintro e w7 ⟨v7, rfl, ho7, hb7⟩
            have HB7 := Lib.hid (below_on HB.out hb7)
            have hown7 := own_below (show wr.ownsRow w5.heap.size 26 7 (.slice (some ⟨g, 0, none⟩) D.length cap0) D.length (AL D) from HO.out) hb7
            have hs7 : w5.heap.size ≤ w7.heap.size := HB7.out.size
            clear x0 c0 c1 c2 c3 c4 c5 c6 c7 c8 c9 d0 d1 d2 d3 d4 d5 d6 d7 d8 d9 hb7
            obtain ⟨hi, hz0, hz1, hz2⟩ := HI.out
            rcases ownA_shape ho7 with ⟨rfl, rfl⟩ | ⟨g7, cap7, rfl⟩
            · have HO7 := Lib.hid (show OwnA w7 w5.heap.size (.slice (some ⟨g, 0, none⟩) D.length cap0) D from hown7)
              go_wp2_with (at_builtin; refine wpList_append_own_none rfl _ _ 33 rfl w5.heap.size 26 i0 7 Try.underlying33 hi _ _ _ rfl hown7 rfl ?_)
              clear hown7 ho7 hi hz0 hz1 hz2
              go_roundw
              case rel => exact ⟨k + 1, g, cap0, r', D, by go_num, rfl, by omega, HK'.out, by omega, by have := HD2.out; simpa using this, HO7.out, by rw [show o + (k + 1) * 10 = o + k * 10 + 10 by omega]; exact HR.out, HB7.out⟩
              case measure => simp [intOf]; omega
            · have hnews : ∀ j u, (AL L2)[j]? = some u → w7.cell? ((⟨g7, 0, none⟩ : Addr).add j) = some u := World.ownsRow.cells (g := g7) ho7 rfl
              go_wp2_with (at_builtin; refine wpList_append_own _ rfl _ _ 33 rfl w5.heap.size 26 i0 (.agg #[.int .i64 0, .int .i64 0, .int .i64 0, .int .i64 0, .int .i64 0, .int .i64 0, .int .i64 0]) 7 56 Try.underlying33 hi hz0 hz1 hz2 rfl (by decide) _ _ _ rfl hown7 ⟨g7, 0, none⟩ L2.length cap7 (AL L2) rfl (al_len L2) ?d1 ?d2 ?d3 ?d4 ?d5 ?_)
              case d1 => exact hnews
              case d2 => exact al_ints L2
              case d3 => unfold maxLen; omega
              case d4 => omega
              case d5 => exact hs7
              · intro v8 w8 hown8 hgrow hnil
                obtain ⟨g8, cap8, rfl⟩ := own_some hown8 (by first | exact hnil | (intro e; have h1 := hnil.1 e; simp at h1))
                have HB8 := Lib.hid (grown_below3 HB7.out hown7 (Nat.le_refl _) hgrow)
                have HO8 := Lib.hid (show OwnA w8 w5.heap.size (.slice (some ⟨g8, 0, none⟩) (D ++ L2).length cap8) (D ++ L2) by
                  show w8.ownsRow _ _ _ _ _ _
                  rw [al_app, List.length_append]
                  exact hown8)
                have HLN := Lib.hid (show D.length + L2.length = (D ++ L2).length by rw [List.length_append])
                rw [HLN.out]
                clear hown7 hown8 hgrow hnil hnews ho7 hi hz0 hz1 hz2
                go_wp2
                go_roundw
                case rel => exact ⟨k + 1, g8, cap8, r', D ++ L2, by go_num, rfl, by omega, HK'.out, by omega, HD2.out, HO8.out, by rw [show o + (k + 1) * 10 = o + k * 10 + 10 by omega]; exact HR.out, HB8.out⟩
                case measure => simp [intOf]; omega
  · have hn' : (1048576 : Int) < (n : Int) := by omega
    go_enter Try.func5, Try.ntmps5
    go_wp2
    go_ret
    exact ⟨rfl, Below.refl _ _⟩

end Go.Proofs.Ythhbmnfmhomggaa
