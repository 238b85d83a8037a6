/- PeriodOf of the program. -/
import Derived.Test.YtcgolbkpfncgpaaPerI
namespace Go.Proofs.Ytcgolbkpfncgpaa
open Go.RowKit

theorem Try.infoInt2 : (Try.prog.info? 3).map (fun i => (i.zero, i.size, i.bytes)) = some (some (.int .i64 0), 1, 8) := by kernel_rfl

theorem at_len (k : Nat) (L : List AtD) (hk : k ≤ L.length) : (L.take k).length = k := by rw [List.length_take]; omega

set_option maxRecDepth 10000 in
set_option maxHeartbeats 2000000 in
theorem PeriodOf_any (v : Int) (h : FH) (f : Fo) (w : World) (lo : Nat) (s : Value) (hs : FS w lo f s) :
    Calls Try.prog 37 #[.agg #[.int .i64 h.k, .int .i64 h.ak, .int .i64 h.am, .int .i64 h.a, .int .i64 h.b, .int .i64 h.c, .int .i64 h.d, .int .i64 h.n, .int .i64 h.v, s], .int .i64 v] w (IntT (perI v h f) w) := by
  have HO := Lib.hid (fun W hW => isUnified_any v h f W lo s (FS.below (w := w) hW (Nat.le_refl _) hs))
  have HN := Lib.hid (fun W hW => AtomsOf_any h f W lo s (FS.below (w := w) hW (Nat.le_refl _) hs))
  obtain ⟨sa, sn, sc, rfl⟩ := hs.slice
  clear hs
  cases ho : onB v h f with
  | false =>
    have HI := Lib.hid (show perI v h f = -1 by unfold perI; rw [if_neg (by rw [ho]; decide)])
    rw [ho] at HO
    clear ho
    go_enter Try.func37, Try.ntmps37
    go_wp2_with fail
    refine (HO.out _ (by go_grown)).mono ?_
    rintro e w1 ⟨rfl, hb1⟩
    go_wp2
    go_ret
    exact ⟨ret_int HI.out.symm, below_on (by go_grown) hb1⟩
  | true =>
    obtain ⟨hv, _, ha⟩ := on_parts ho
    have hav := atF_valid hv
    have HPI := Lib.hid (lcm_prI v h f ho)
    have hLe : atL h f = atF h f := by unfold atL; rw [if_pos hv]
    have hlen : (atF h f).length ≤ 1000 := by have := atF_len h f; have := (vf_parts hv).2.2; omega
    rw [ho] at HO
    rw [hLe] at HN
    obtain ⟨p, hp⟩ : ∃ p, perI v h f = p := ⟨_, rfl⟩
    obtain ⟨L, hL⟩ : ∃ L, atF h f = L := ⟨_, rfl⟩
    rw [hp]
    rw [hp, hL] at HPI
    rw [hL] at HN hlen
    obtain ⟨n, hn⟩ : ∃ n, L.length = n := ⟨_, rfl⟩
    rw [hn] at hlen
    have HNN := Lib.hid hn
    obtain ⟨i0, hi, hz0, hz1, hz2⟩ := info_parts Try.infoInt2
    have HII := Lib.hid (And.intro hi (And.intro hz0 (And.intro hz1 hz2)))
    clear ho hv ha hav hLe hp hL hn hi hz0 hz1 hz2
    go_enter Try.func37, Try.ntmps37
    go_wp2_with fail
    generalize hW : World.alloc _ _ = W
    have hx : C10 W w.heap.size h (.slice sa sn sc) := by subst hW; exact (by refine ⟨?_, ?_, ?_, ?_, ?_, ?_, ?_, ?_, ?_, ?_, ?_⟩ <;> first | (simp [go_sem]; done) | (simp; omega))
    have hw : Below w.heap.size w W := by subst hW; go_grown
    clear hW
    refine (HO.out _ hw).mono ?_
    rintro e w1 ⟨rfl, hb1⟩
    have hw1 := below_on hw hb1
    obtain ⟨x0, c0, c1, c2, c3, c4, c5, c6, c7, c8, c9⟩ := c10_on hx hb1
    clear hx hw hb1
    go_wp2_with fail
    refine (HN.out _ hw1).mono ?_
    rintro e w3 ⟨u, rfl, ho3, hb3⟩
    have hw3 := below_on hw1 hb3
    have HR3 := Lib.hid (ownA_reads ho3)
    obtain ⟨sp, cap, rfl, hcA⟩ := ownA_reads ho3
    rw [HNN.out]
    clear ho3 hb3 hw1 hcA x0 c0 c1 c2 c3 c4 c5 c6 c7 c8 c9
    go_wp2_with fail
    go_loopw [5, 15] (fun u i wr => PiR v L w3.heap.size w3 u i wr) (fun _ i _ => n - (intOf i).toNat)
    case atStart => exact ⟨0, [], rfl, Nat.zero_le _, rfl, Nat.le_refl _, World.ownsRow_nil _ _ _ _, Below.refl _ _⟩
    case round =>
      obtain ⟨k, D, rfl, hk, hD, hDk, hown, hbw⟩ := hrel
      have hk2 : k ≤ n := by rw [← HNN.out]; exact hk
      have HDD := Lib.hid hD
      have HK := Lib.hid hk
      have HO2 := Lib.hid hown
      have HB := Lib.hid hbw
      clear hk hown hD
      by_cases hlt : k < n
      · have hk' : (k : Int) < (n : Int) := by omega
        have hk0 : (0 : Int) ≤ k := by omega
        obtain ⟨y, hy⟩ : ∃ y, L[k]? = some y := ⟨_, List.getElem?_eq_getElem (by rw [HNN.out]; exact hlt)⟩
        have HT := Lib.hid (show L.take (k + 1) = L.take k ++ [y] by rw [List.take_add_one, hy]; rfl)
        have HK2 := Lib.hid (show k + 1 ≤ L.length by rw [HNN.out]; omega)
        obtain ⟨sp', cp, e, hc⟩ := HR3.out
        injection e with e1 e2 e3
        subst e1 e3
        obtain ⟨b, rfl, hbl, hcell⟩ := hc.resolve_left (by rw [HNN.out]; omega)
        have f : ∀ o, wr.cell? ⟨b, o, none⟩ = w3.cell? ⟨b, o, none⟩ := fun o => hbw.cell (p := ⟨b, o, none⟩) hbl
        have r1 : ARow wr b (k * 7) y := by have := hcell k y hy; simpa only [ARow, f] using this
        obtain ⟨c0, c1, c2, c3, c4, c5, c6⟩ := r1
        clear hcell f hy hbw hc e2
        obtain ⟨q, hq⟩ : ∃ q, sel y.a y.b y.c y.d v 0 = q := ⟨_, rfl⟩
        have HQ := Lib.hid (show cfA v y = q from hq)
        have HC := Lib.hid fun W => CoefOf_any y.a y.b y.c y.d y.n v W
        rw [hq] at HC
        clear hq
        cases h0 : y.k == 0 with
        | true =>
          have hn0 : (y.k != 0) = false := by simpa using h0
          have HE := Lib.hid (show pmL v (L.take (k + 1)) = D by rw [HT.out, pm_no (.inl h0), HDD.out])
          go_wp2
          have HO3 := Lib.hid (show World.ownsRow (wr.alloc (.cells #[.int .i64 y.k, .int .i64 y.m, .int .i64 y.a, .int .i64 y.b, .int .i64 y.c, .int .i64 y.d, .int .i64 y.n] 44)) w3.heap.size 3 1 _ D.length (D.map (Value.int .i64)) from own_below HO2.out (by go_grown))
          go_roundw
          case rel => exact ⟨k + 1, D, by go_num, HK2.out, HE.out.symm, by omega, HO3.out, below_on HB.out (by go_grown)⟩
          case measure => simp [intOf]; omega
        | false =>
          have hn0 : (y.k != 0) = true := by simpa using h0
          go_wp2_with fail
          generalize hW : wr.alloc _ = W
          have hxA : C7 W wr.heap.size y.k y.m y.a y.b y.c y.d y.n := by subst hW; exact (by refine ⟨?_, ?_, ?_, ?_, ?_, ?_, ?_, ?_⟩ <;> first | (simp [go_sem]; done) | (simp; omega))
          have hbW : Below wr.heap.size wr W := by subst hW; go_grown
          clear hW c0 c1 c2 c3 c4 c5 c6
          refine (HC.out _).mono ?_
          rintro e w4 ⟨rfl, hb4⟩
          have hb4' := below_on hbW hb4
          have hx4 := c7_on hxA hb4
          have HB4 := Lib.hid (below_on HB.out hb4')
          have hown4 := own_below (show wr.ownsRow w3.heap.size 3 1 _ D.length (D.map (Value.int .i64)) from HO2.out) hb4'
          have hsz4 := hb4'.size
          have hsz3 := HB4.out.size
          clear hxA hbW hb4 hb4'
          obtain ⟨x0, x1, x2, x3, x4, x5, x6, x7⟩ := hx4
          cases hq0 : q == 0 with
          | true =>
            have hn1 : (q != 0) = false := by simpa using hq0
            have HE := Lib.hid (show pmL v (L.take (k + 1)) = D by rw [HT.out, pm_no (.inr (by rw [HQ.out]; exact hq0)), HDD.out])
            have HO3 := Lib.hid hown4
            clear hown4
            go_wp2
            go_roundw
            case rel => exact ⟨k + 1, D, by go_num, HK2.out, HE.out.symm, by omega, HO3.out, HB4.out⟩
            case measure => simp [intOf]; omega
          | false =>
            have hn1 : (q != 0) = true := by simpa using hq0
            have HE := Lib.hid (show pmL v (L.take (k + 1)) = D ++ [y.m] by rw [HT.out, pm_yes h0 (by rw [HQ.out]; exact hq0), HDD.out])
            obtain ⟨hi, hz0, hz1, hz2⟩ := HII.out
            go_wp2_with (at_builtin; refine wpList_append_own _ rfl _ _ 74 rfl w3.heap.size 3 i0 (.int .i64 0) 1 8 Try.underlying74 hi hz0 hz1 hz2 rfl (by decide) _ _ _ rfl (hown4.alloc _) ⟨w4.heap.size, 0, none⟩ 1 1 [.int .i64 y.m] rfl rfl ?c1 ?c2 ?c3 ?c4 ?c5 ?_)
            case c1 =>
              intro j u hj
              match j, hj with
              | 0, hj => simp at hj; subst hj; simp [Addr.add]
            case c2 => intro u hu; simp at hu; subst hu; rfl
            case c3 => unfold maxLen; omega
            case c4 => omega
            case c5 => simp; omega
            · intro v' w5 hown5 hgrow _
              have hbA : Below w4.heap.size w4 (w4.alloc (.cells #[.int .i64 y.m] 3)) := by go_grown
              have HO5 : Hid (w5.ownsRow w3.heap.size 3 1 v' (D ++ [y.m]).length ((D ++ [y.m]).map (Value.int .i64))) := by
                show w5.ownsRow _ _ _ _ _ _
                simpa using hown5
              have HB5 : Hid (Below w3.heap.size w3 w5) := grown_below3 (HB4.out.trans (hbA.mono (by omega))) (own_below hown4 hbA) (Nat.le_refl _) hgrow
              clear hown4 hown5 hgrow hbA hi hz0 hz1 hz2 x0 x1 x2 x3 x4 x5 x6 x7
              go_wp2
              go_roundw
              case rel => exact ⟨k + 1, D ++ [y.m], by go_num, HK2.out, HE.out.symm, by simp; omega, HO5.out, HB5.out⟩
              case measure => simp [intOf]; omega
      · have hk' : ¬ (k : Int) < (n : Int) := by omega
        obtain rfl : k = n := by omega
        have HE := Lib.hid (show D = pmL v L by rw [HDD.out, ← HNN.out, List.take_length])
        have HJ := Lib.hid (own_rdJ HO2.out)
        have hdl : D.length ≤ 1048576 := by omega
        clear hbw
        go_wp2_with fail
        refine (periodOfAll_any _ D _ hdl HJ.out).mono ?_
        rintro e w6 ⟨rfl, hb6⟩
        go_wp2
        go_ret
        exact ⟨ret_int (by rw [HE.out, HPI.out]), below_on hw3 (below_on HB.out hb6)⟩

end Go.Proofs.Ytcgolbkpfncgpaa
