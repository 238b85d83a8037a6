/- Which formulas have a period, and PeriodOf, of the program. -/
import Derived.Test.YtcgolbkpfncgpaaPerS
import Derived.Laws.EntriesVeiled
namespace Go.Proofs.Ytcgolbkpfncgpaa
open Go.RowKit

theorem cf_in {v : Int} {x : AtD} (h : avZ x = true) : -100 ≤ cfA v x ∧ cfA v x ≤ 100 := by
  obtain ⟨_, ht⟩ := avB_cases h
  simp only [tvB, wlB, Bool.and_eq_true, decide_eq_true_eq] at ht
  unfold cfA sel
  split
  · omega
  · split
    · omega
    · split
      · omega
      · split <;> omega
theorem on_size (q : Int) : decide (1 < ((q.natAbs : Nat) : Int)) = !inB q (-1) 1 := by
  unfold inB
  by_cases h : (-1 : Int) ≤ q ∧ q ≤ 1
  · rw [decide_eq_true h, decide_eq_false (by omega)]; rfl
  · rw [decide_eq_false h, decide_eq_true (by omega)]; rfl

set_option maxHeartbeats 400000 in
theorem un1_any (v : Int) (x : AtD) (vb : Nat) (w : World) (hx : avZ x = true) (hb : vb < w.heap.size) (hv : w.cell? ⟨vb, 0, none⟩ = some (.int .i64 v)) :
    Calls Try.prog 121 #[.agg #[.int .i64 x.k, .int .i64 x.m, .int .i64 x.a, .int .i64 x.b, .int .i64 x.c, .int .i64 x.d, .int .i64 x.n], .pointer (some ⟨vb, 0, none⟩)] w (BoolT (!on1 v x) w) := by
  obtain ⟨c0, c1⟩ := cf_in (v := v) hx
  obtain ⟨q, hq⟩ : ∃ q, cfA v x = q := ⟨_, rfl⟩
  have HC := Lib.hid fun W => CoefOf_any x.a x.b x.c x.d x.n v W
  have HQ := Lib.hid hq
  have hq' : sel x.a x.b x.c x.d v 0 = q := hq
  rw [hq'] at HC
  rw [hq] at c0 c1
  have HS := Lib.hid fun W => size_any q W (by omega) (by omega)
  obtain ⟨z, hz⟩ : ∃ z : Int, ((q.natAbs : Nat) : Int) = z := ⟨_, rfl⟩
  have HO := Lib.hid (show decide (1 < z) = !inB q (-1) 1 by rw [← hz]; exact on_size q)
  rw [hz] at HS
  clear hq hq' hz c0 c1 hx
  by_cases h1 : x.k = 1
  · have e1 : (x.k == 1) = true := by simpa using h1
    have HF := Lib.hid (show on1 v x = false by unfold on1; rw [e1]; rfl)
    clear h1
    go_enter Try.func121, Try.ntmps121
    go_wp2
    go_ret
    exact ⟨va_bool (by rw [HF.out]; rfl), by go_grown⟩
  · have e1 : (x.k == 1) = false := by simpa using h1
    have HF := Lib.hid (show on1 v x = inB q (-1) 1 by unfold on1; rw [e1, HQ.out]; rfl)
    clear h1
    go_enter Try.func121, Try.ntmps121
    go_wp2_with fail
    refine (HC.out _).mono ?_
    rintro e w1 ⟨rfl, hb1⟩
    have hw1 : Below w.heap.size w w1 := below_on (by go_grown) hb1
    clear hb1
    go_wp2_with fail
    refine (HS.out _).mono ?_
    rintro e w' ⟨rfl, rfl⟩
    go_wp2
    go_ret
    exact ⟨va_bool (by rw [HF.out, ← HO.out]), hw1⟩

/-- The box of a captured variable. -/
def VbAt (w : World) (vb : Nat) (v : Int) : Prop := vb < w.heap.size ∧ w.cell? ⟨vb, 0, none⟩ = some (.int .i64 v)
theorem vb_on {w w' : World} {vb : Nat} {v : Int} (h : VbAt w vb v) (hb : Below w.heap.size w w') : VbAt w' vb v :=
  ⟨Nat.lt_of_lt_of_le h.1 hb.size, (hb.cell (p := ⟨vb, 0, none⟩) h.1).trans h.2⟩

set_option maxHeartbeats 1000000 in
theorem unidx_any (v : Int) (vb : Nat) (u : Value) (L : List AtD) (w : World) (hL : ∀ x ∈ L, avZ x = true) (h : RdA w u L) (hvb : VbAt w vb v) (hlen : L.length ≤ 1000) :
    Calls Try.prog 147 #[u, .func (.func 121) #[] #[.pointer (some ⟨vb, 0, none⟩)]] w (IdxT (!L.all (on1 v)) w) := by
  obtain ⟨sp, cap, rfl, hc⟩ := h
  obtain ⟨N, hN⟩ : ∃ N, L.length = N := ⟨_, rfl⟩
  have HN := Lib.hid hN
  have HCL := Lib.hid hc
  have HV := Lib.hid hvb
  have HL := Lib.hid hL
  rw [hN] at hlen ⊢
  clear hN hc hvb hL
  go_enter Try.func147, Try.ntmps147
  go_wp2
  go_loopw [8] (fun i wr => ∃ k : Nat, i = .int .i64 k ∧ k ≤ N ∧ Below w.heap.size w wr ∧ ∀ (i : Nat) (x : AtD), i < k → L[i]? = some x → on1 v x = true) (fun i _ => N - (intOf i).toNat)
  case atStart => exact ⟨0, rfl, Nat.zero_le _, Below.refl _ _, fun i x h0 => absurd h0 (by omega)⟩
  case round =>
    obtain ⟨k, rfl, hk, hbw, hall⟩ := hrel
    have HA := Lib.hid hall
    have HB := Lib.hid hbw
    clear hall
    by_cases hlt : k < N
    · have hk' : (k : Int) < (N : Int) := by omega
      obtain ⟨y, hy⟩ : ∃ y, L[k]? = some y := ⟨_, List.getElem?_eq_getElem (by rw [HN.out]; exact hlt)⟩
      have HY := Lib.hid hy
      have HAV := Lib.hid (HL.out y (List.mem_of_getElem? hy))
      obtain ⟨b, rfl, hbl, hcell⟩ := HCL.out.resolve_left (by rw [HN.out]; omega)
      have f : ∀ o, wr.cell? ⟨b, o, none⟩ = w.cell? ⟨b, o, none⟩ := fun o => hbw.cell (p := ⟨b, o, none⟩) hbl
      have r1 : ARow wr b (k * 7) y := by have := hcell k y hy; simpa only [ARow, f] using this
      obtain ⟨c0, c1, c2, c3, c4, c5, c6⟩ := r1
      have HV2 := Lib.hid (vb_on HV.out hbw)
      obtain ⟨t, ht⟩ : ∃ t, on1 v y = t := ⟨_, rfl⟩
      have HT := Lib.hid ht
      have HC := Lib.hid (fun W (hW : VbAt W vb v) => un1_any v y vb W HAV.out hW.1 hW.2)
      rw [ht] at HC
      clear hcell f hy hbw ht
      go_wp2_with fail
      refine (HC.out _ (vb_on HV2.out (by go_grown))).mono ?_
      rintro e w2 ⟨rfl, hb2⟩
      have HB2 := Lib.hid (below_on HB.out (below_on (w := wr) (by go_grown) hb2))
      clear c0 c1 c2 c3 c4 c5 c6 hb2
      cases t with
      | false =>
        go_wp2
        go_ret
        exact ⟨_, rfl, by rw [on_at HY.out HT.out]; exact decide_eq_true (by omega), HB2.out⟩
      | true =>
        go_wp2
        go_roundw
        case rel => exact ⟨k + 1, by go_num, by omega, HB2.out, on_next HY.out HT.out HA.out⟩
        case measure => simp [intOf]; omega
    · have hk' : ¬ (k : Int) < (N : Int) := by omega
      obtain rfl : k = N := by omega
      go_wp2
      go_ret
      exact ⟨_, rfl, by rw [on_of (fun i x h1 h2 => HA.out i x (by rw [← HN.out]; exact h1) h2)]; rfl, hbw⟩

theorem uncon_any (v : Int) (vb : Nat) (u : Value) (L : List AtD) (w : World) (hL : ∀ x ∈ L, avZ x = true) (h : RdA w u L) (hvb : VbAt w vb v) (hlen : L.length ≤ 1000) :
    Calls Try.prog 120 #[u, .func (.func 121) #[] #[.pointer (some ⟨vb, 0, none⟩)]] w (BoolT (!L.all (on1 v)) w) := by
  have H := Lib.hid (unidx_any v vb u L w hL h hvb hlen)
  obtain ⟨sp, cap, rfl, _⟩ := h
  go_enter Try.func120, Try.ntmps120
  go_wp2_with fail
  refine H.out.mono ?_
  rintro e w1 ⟨r, rfl, hr, hb⟩
  go_wp2
  go_ret
  exact ⟨rfl, hb⟩

set_option maxRecDepth 10000 in
set_option maxHeartbeats 1000000 in
theorem isUnified_any (v : Int) (h : FH) (f : Fo) (w : World) (lo : Nat) (s : Value) (hs : FS w lo f s) :
    Calls Try.prog 81 #[.agg #[.int .i64 h.k, .int .i64 h.ak, .int .i64 h.am, .int .i64 h.a, .int .i64 h.b, .int .i64 h.c, .int .i64 h.d, .int .i64 h.n, .int .i64 h.v, s], .int .i64 v] w (BoolT (onB v h f) w) := by
  have HO := Lib.hid (fun W hW => IsOpen_any h f W lo s (FS.below (w := w) hW (Nat.le_refl _) hs))
  have HG := Lib.hid (fun W hW => IsNegNormal_any h f W lo s (FS.below (w := w) hW (Nat.le_refl _) hs))
  have HN := Lib.hid (fun W hW => AtomsOf_any h f W lo s (FS.below (w := w) hW (Nat.le_refl _) hs))
  obtain ⟨sa, sn, sc, rfl⟩ := hs.slice
  clear hs
  go_enter Try.func81, Try.ntmps81
  go_wp2_with fail
  generalize hW : World.alloc _ _ = W
  have hx : C10 W w.heap.size h (.slice sa sn sc) := by subst hW; exact (by refine ⟨?_, ?_, ?_, ?_, ?_, ?_, ?_, ?_, ?_, ?_, ?_⟩ <;> first | (simp [go_sem]; done) | (simp; omega))
  have hvb : VbAt W (w.heap.size + 1) v := by subst hW; exact ⟨by simp, by simp [go_sem]⟩
  have hw : Below w.heap.size w W := by subst hW; go_grown
  clear hW
  cases hv : varB v with
  | false =>
    have HV := Lib.hid hv
    clear hv
    refine (isVar_is v false _ HV.out).mono ?_
    rintro e w' ⟨rfl, rfl⟩
    go_wp2
    go_ret
    exact ⟨va_bool (by unfold onB; rw [HV.out]; simp), hw⟩
  | true =>
    have HV := Lib.hid hv
    clear hv
    refine (isVar_is v true _ HV.out).mono ?_
    rintro e w' ⟨rfl, rfl⟩
    obtain ⟨x0, c0, c1, c2, c3, c4, c5, c6, c7, c8, c9⟩ := id hx
    go_wp2_with fail
    refine (HO.out _ hw).mono ?_
    rintro e w1 ⟨rfl, hb1⟩
    have hw1 := below_on hw hb1
    have hvb1 := vb_on hvb hb1
    have hx1 := c10_on hx hb1
    clear hw hvb hb1 hx x0 c0 c1 c2 c3 c4 c5 c6 c7 c8 c9
    cases ho : opB h f with
    | false =>
      go_wp2
      go_ret
      exact ⟨va_bool (by unfold onB; rw [ho]; rfl), hw1⟩
    | true =>
      have hv6 : vfB h f = true := by
        unfold opB at ho
        rw [Bool.and_eq_true] at ho
        exact ho.1
      have HOP := Lib.hid ho
      have HVF := Lib.hid hv6
      clear ho hv6
      obtain ⟨x0, c0, c1, c2, c3, c4, c5, c6, c7, c8, c9⟩ := id hx1
      go_wp2_with fail
      refine (HG.out _ hw1).mono ?_
      rintro e w2 ⟨rfl, hb2⟩
      have hw2 := below_on hw1 hb2
      have hvb2 := vb_on hvb1 hb2
      have hx2 := c10_on hx1 hb2
      clear hw1 hvb1 hb2 hx1 x0 c0 c1 c2 c3 c4 c5 c6 c7 c8 c9
      cases hg : ngB h f with
      | false =>
        go_wp2
        go_ret
        exact ⟨va_bool (by unfold onB; rw [hg, HOP.out]; rfl), hw2⟩
      | true =>
        have HR := Lib.hid (show onB v h f = (atF h f).all (on1 v) by unfold onB; rw [hg, HOP.out, HV.out]; rfl)
        have HL := Lib.hid (show atL h f = atF h f by unfold atL; rw [if_pos HVF.out])
        have HLen := Lib.hid (show (atF h f).length ≤ 1000 by have := atF_len h f; have := (vf_parts HVF.out).2.2; omega)
        have HAV := Lib.hid (atF_valid HVF.out)
        clear hg
        obtain ⟨x0, c0, c1, c2, c3, c4, c5, c6, c7, c8, c9⟩ := id hx2
        go_wp2_with fail
        refine (HN.out _ hw2).mono ?_
        rintro e w3 ⟨u, rfl, ho3, hb3⟩
        rw [HL.out] at ho3
        have hw3 := below_on hw2 hb3
        have HR3 := Lib.hid (ownA_reads ho3)
        have hvb3 := vb_on hvb2 hb3
        clear ho3 hb3 hw2 hvb2 hx2 x0 c0 c1 c2 c3 c4 c5 c6 c7 c8 c9
        go_wp2_with fail
        refine (uncon_any v _ u _ _ HAV.out HR3.out hvb3 HLen.out).mono ?_
        rintro e w4 ⟨rfl, hb4⟩
        go_wp2
        go_ret
        exact ⟨va_bool HR.out.symm, below_on hw3 hb4⟩

theorem own_rdJ {w : World} {B : Nat} {u : Value} {L : List Int} (h : w.ownsRow B 3 1 u L.length (L.map (Value.int .i64))) : RdJ w u L := by
  rcases h.2 with ⟨rfl, hn⟩ | ⟨g, cap, cur, rfl, hb, hg, h1, h2, _⟩
  · exact ⟨none, 0, by rw [hn], by omega, by decide, .inl hn⟩
  · refine ⟨some ⟨g, 0, none⟩, cap, rfl, h1, h2, .inr ⟨g, 0, rfl, (h.lt g rfl).2, fun i x hx => ?_⟩⟩
    have hi : i < L.length := (List.getElem?_eq_some_iff.1 hx).1
    rw [Nat.zero_add, h.cellAt i (by omega)]
    simp [hx]

def PiR (v : Int) (L : List AtD) (B : Nat) (w : World) (u i : Value) (wr : World) : Prop :=
  ∃ (k : Nat) (D : List Int), i = .int .i64 k ∧ k ≤ L.length ∧ D = pmL v (L.take k) ∧ D.length ≤ k ∧ wr.ownsRow B 3 1 u D.length (D.map (Value.int .i64)) ∧ Below B w wr

theorem pm_len (v : Int) (L : List AtD) : (pmL v L).length ≤ L.length := by
  unfold pmL
  rw [List.length_map]
  exact List.length_filter_le _ _

theorem lcm_prI (v : Int) (h : FH) (f : Fo) (ho : onB v h f = true) : prI (lcT (pmL v (atF h f))) = perI v h f := by
  obtain ⟨hv, _, ha⟩ := on_parts ho
  unfold perI
  rw [if_pos ho]
  exact pd_lc _ 1 (by omega) (by omega) (pm_in (atF_valid hv) ha)

theorem periodOfAll_any (u : Value) (L : List Int) (w : World) (hL : L.length ≤ 1048576) (h : RdJ w u L) :
    Calls Try.prog 85 #[u] w (IntT (prI (lcT L)) w) := by
  have HL := Lib.hid (LcmOf_is u L w hL h)
  obtain ⟨sp, n, cp, rfl⟩ := h.slice
  obtain ⟨p, hp⟩ : ∃ p, lcT L = p := ⟨_, rfl⟩
  rw [hp] at HL ⊢
  clear hp h
  by_cases h6 : 60 < p
  · have HF := Lib.hid (show prI p = -1 by unfold prI; rw [if_pos h6])
    go_enter Try.func85, Try.ntmps85
    go_wp2_with fail
    refine HL.out.mono ?_
    rintro e w1 ⟨rfl, hb⟩
    go_wp2
    go_ret
    exact ⟨ret_int HF.out.symm, hb⟩
  · have HF := Lib.hid (show prI p = p by unfold prI; rw [if_neg h6])
    go_enter Try.func85, Try.ntmps85
    go_wp2_with fail
    refine HL.out.mono ?_
    rintro e w1 ⟨rfl, hb⟩
    go_wp2
    go_ret
    exact ⟨ret_int HF.out.symm, hb⟩

end Go.Proofs.Ytcgolbkpfncgpaa
