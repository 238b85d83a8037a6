/- Lists of ints as arguments; the least common multiple, of both sides; the walk of its exact law. -/
import Derived.Test.YtpiaefodhjafmaaNbU
import Derived.Test.YtpiaefodhjafmaaOwn
import Derived.Laws.OwnMore
import Derived.Deep.RegionWith
namespace Go.Proofs.Ytpiaefodhjafmaa
open Go.RowKit

/-- The slice v reads as the ints L. -/
def RdJ (w : World) (v : Value) (L : List Int) : Prop :=
  ∃ sp cap, v = .slice sp L.length cap ∧ L.length ≤ cap ∧ cap ≤ maxLen ∧ (L.length = 0 ∨ ∃ b o, sp = some ⟨b, o, none⟩ ∧ b < w.heap.size ∧ ∀ i x, L[i]? = some x → w.cell? ⟨b, o + i, none⟩ = some (.int .i64 x))
theorem rdJ_on {w w' : World} {v : Value} {L : List Int} (h : RdJ w v L) (hb : Below w.heap.size w w') : RdJ w' v L := by
  obtain ⟨sp, cap, hv, h1, h2, hc⟩ := h
  refine ⟨sp, cap, hv, h1, h2, ?_⟩
  rcases hc with h0 | ⟨b, o', he, hlt, hc⟩
  · exact Or.inl h0
  · exact Or.inr ⟨b, o', he, Nat.lt_of_lt_of_le hlt hb.size, fun i x hx => (hb.cell (p := ⟨b, o' + i, none⟩) hlt).trans (hc i x hx)⟩
theorem RdJ.slice {w : World} {v : Value} {L : List Int} (h : RdJ w v L) : ∃ a n c, v = .slice a n c := by
  obtain ⟨sp, cap, e, _⟩ := h
  exact ⟨_, _, _, e⟩

set_option maxHeartbeats 400000 in
theorem eqIntJ_same (v u : Value) (L : List Int) (w : World) (h1 : RdJ w v L) (h2 : RdJ w u L) (hL : L.length ≤ 1048576) :
    Calls Try.prog 23 #[v, u] w fun e w' => e = .returned (.bool true) ∧ Below w.heap.size w w' := by
  obtain ⟨sp, cap, rfl, g1, g2, hc⟩ := h1
  obtain ⟨sp', cap', rfl, g1', g2', hc'⟩ := h2
  obtain ⟨N, hN⟩ : ∃ N, N = L.length := ⟨_, rfl⟩
  rw [← hN] at hL hc hc' g1 g1' ⊢
  unfold maxLen at g2 g2'
  have HN := Lib.hid hN
  have HC := Lib.hid hc
  have HC' := Lib.hid hc'
  clear hN hc hc'
  go_enter Try.func23, Try.ntmps23
  go_wp2
  go_loopw [5] (fun i wr => ∃ k q : Nat, i = .int .i64 k ∧ k ≤ N ∧ wr = w.drewN q) (fun i _ => N - (intOf i).toNat)
  case atStart => exact ⟨0, 0, rfl, by omega, rfl⟩
  case round =>
    obtain ⟨k, q, rfl, hk, rfl⟩ := hrel
    by_cases hlt : k < N
    · have hk' : (k : Int) < (N : Int) := by omega
      obtain ⟨y, hy⟩ : ∃ y, L[k]? = some y := ⟨_, List.getElem?_eq_getElem (by rw [← HN.out]; exact hlt)⟩
      obtain ⟨b, o, rfl, _, hcell⟩ := HC.out.resolve_left (by omega)
      obtain ⟨b', o', rfl, _, hcell'⟩ := HC'.out.resolve_left (by omega)
      have c1 := hcell k y hy
      have c2 := hcell' k y hy
      clear hcell hcell' hy
      go_wp2
      go_quiet (fail)
      go_wp2
      go_roundw
      case rel => exact ⟨k + 1, _, by go_num, by omega, rfl⟩
      case measure => simp [intOf]; omega
    · have hk' : ¬ (k : Int) < (N : Int) := by omega
      go_wp2
      go_ret
      exact ⟨rfl, below_dq _ _⟩

theorem cell_put (w : World) (b i j : Nat) (v : Value) (h : i ≠ j) : (w.setCell ⟨b, j, none⟩ v).cell? ⟨b, i, none⟩ = w.cell? ⟨b, i, none⟩ := World.cell?_setCell_other w ⟨b, j, none⟩ ⟨b, i, none⟩ v (fun e => h (by simpa using (congrArg Addr.off e).symm))

theorem Try.infoInt1 : (Try.prog.info? 3).map (fun i => (i.zero, i.size, i.bytes)) = some (some (.int .i64 0), 1, 8) := by kernel_rfl

def TiR (L : List Int) (w : World) (i : Value) (wr : World) : Prop :=
  ∃ (k : Nat) (xs : List Value), i = .int .i64 k ∧ k ≤ L.length ∧ (∀ i x, i < k → L[i]? = some x → wr.cell? ⟨w.heap.size, i, none⟩ = some (.int .i64 x)) ∧
    wr.ownsRow w.heap.size 3 1 (.slice (some ⟨w.heap.size, 0, none⟩) L.length L.length) L.length xs ∧ Below w.heap.size w wr

set_option maxHeartbeats 1000000 in
theorem toIntS_is (v : Value) (L : List Int) (w : World) (hL : L.length ≤ 1048576) (h : RdJ w v L) :
    Calls Try.prog 21 #[v] w fun e w' => ∃ s, e = .returned s ∧ RdJ w' s L ∧ Below w.heap.size w w' := by
  obtain ⟨i0, hi, hz0, hz1, hz2⟩ := info_parts Try.infoInt1
  obtain ⟨sp, cap, rfl, hc1, hc2, hel⟩ := h
  unfold maxLen at hc2
  obtain ⟨n, hn⟩ : ∃ n, L.length = n := ⟨_, rfl⟩
  have HN := Lib.hid hn
  have HE := Lib.hid hel
  rw [hn] at hL hc1
  rw [hn]
  obtain ⟨w1, hr, hown, hg⟩ := run_make_full (P := Try.prog) w w.heap.size 30 3 i0 _ 1 Try.underlying30 hi hz0 hz1 .i64 .i64 n (by rw [hz2]; omega) (by unfold maxLen; omega) (Nat.le_refl _)
  have hbw1 : Below w.heap.size w w1 := (Below.refl _ _).grown hg (Nat.le_refl _) (by simp)
  have HST := Lib.hid (show TiR L w (.int .i64 0) w1 from ⟨0, _, rfl, Nat.zero_le _, fun i x h0 => absurd h0 (by omega), by rw [HN.out]; exact hown, hbw1⟩)
  clear hown hg hbw1 hi hz0 hz1 hz2 hn hel
  go_enter Try.func21, Try.ntmps21
  go_wp2
  go_loopw [4] (fun i wr => TiR L w i wr) (fun i _ => n - (intOf i).toNat)
  case atStart => exact HST.out
  case round =>
    obtain ⟨k, xs, rfl, hk, hpre, hown, hbw⟩ := hrel
    clear HST
    rw [HN.out] at hk hown
    have HP := Lib.hid hpre
    have HO := Lib.hid hown
    have HB := Lib.hid hbw
    clear hpre
    by_cases hlt : k < n
    · have hk' : (k : Int) < (n : Int) := by omega
      obtain ⟨y, hy⟩ : ∃ y, L[k]? = some y := ⟨_, List.getElem?_eq_getElem (by rw [HN.out]; exact hlt)⟩
      have HY := Lib.hid hy
      obtain ⟨b, o, rfl, hbl, hcell⟩ := HE.out.resolve_left (by rw [HN.out]; omega)
      have r1 : wr.cell? ⟨b, o + k, none⟩ = some (.int .i64 y) := (hbw.cell (p := ⟨b, o + k, none⟩) hbl).trans (hcell k y hy)
      have hl2 := hown.1
      obtain ⟨x0, hx0⟩ : ∃ x, wr.cell? ⟨w.heap.size, k, none⟩ = some x := ⟨_, (hown.cellAt k (by omega)).trans (List.getElem?_eq_getElem (by omega))⟩
      have hfz := fun o => hown.frozenAt o
      clear hcell hy hbw hown hl2
      go_wp2_with fail
      generalize hW2 : World.setCell _ _ _ = W2
      have hst := HO.out.stored k (.int .i64 y)
      rw [hW2] at hst
      refine ⟨⟨k + 1, _, by go_num, by rw [HN.out]; omega, fun i x h1 h2 => ?_, by rw [HN.out]; exact hst.1, ?_⟩, ?_⟩
      · by_cases hik : i < k
        · subst hW2
          rw [cell_put _ _ _ _ _ (by omega)]
          exact HP.out i x hik h2
        · obtain rfl : i = k := by omega
          have e := HY.out
          rw [h2] at e
          obtain rfl := Option.some.inj e
          rw [hst.1.cellAt i (by omega)]
          have := HO.out.1
          simp [List.getElem?_set]
          omega
      · subst hW2
        exact HB.out.setCell (Nat.le_refl _) _
      · simp [intOf]; omega
    · have hk' : ¬ (k : Int) < (n : Int) := by omega
      obtain rfl : k = n := by omega
      have hlt : w.heap.size < wr.heap.size := (hown.lt w.heap.size rfl).2
      go_wp2
      go_ret
      refine ⟨_, rfl, ⟨some ⟨w.heap.size, 0, none⟩, k, by rw [HN.out]; rfl, by rw [HN.out]; omega, by unfold maxLen; omega, .inr ⟨w.heap.size, 0, rfl, hlt, fun i x hx => ?_⟩⟩, HB.out⟩
      rw [Nat.zero_add]
      exact HP.out i x (by rw [← HN.out]; exact (List.getElem?_eq_some_iff.1 hx).1) hx

/-- One number more. -/
def lcS (n x : Int) : Option Int := if modB x = true then (if n * (x / (Int.gcd n x : Nat)) ≤ 10000 then some (n * (x / (Int.gcd n x : Nat))) else none) else none
def lcL : Int → List Int → Int
  | n, [] => n
  | n, x :: r => match lcS n x with
    | some m => lcL m r
    | none => -1
def lcT (L : List Int) : Int := lcL 1 L

theorem lcm_parts {n x : Int} (hn : 0 < n) (hx : 0 < x) : ∃ g q p : Int, ((Int.gcd n x : Nat) : Int) = g ∧ 0 < g ∧ g ≤ n ∧ x.tdiv g = q ∧ x / g = q ∧ 0 < q ∧ q ≤ x ∧ n * q = p ∧ n.tdiv g * x = p ∧ n ≤ p ∧ n.tdiv g ≤ n ∧ 0 < n.tdiv g := by
  obtain ⟨a', b', ea, eb, _, hd⟩ := gcd_parts (a := n) (m := x) (by omega)
  have hg := gcd_pos_r (a := n) (m := x) (by omega)
  obtain ⟨g, hgg⟩ : ∃ g : Int, ((Int.gcd n x : Nat) : Int) = g := ⟨_, rfl⟩
  rw [hgg] at ea eb hd
  have hg0 : 0 < g := by omega
  have hgn : g ≤ n := by
    have h2 : Int.gcd n x ∣ n.natAbs := Nat.gcd_dvd_left _ _
    have := Nat.le_of_dvd (by omega) h2
    omega
  have hpos : ∀ {c d : Int}, 0 < d → d = g * c → 0 < c := fun {c d} h e => by
    rcases Int.lt_trichotomy c 0 with h0 | h0 | h0
    · exfalso; have := Int.mul_neg_of_pos_of_neg hg0 h0; omega
    · subst h0; simp at e; omega
    · exact h0
  have ha' := hpos hn ea
  have hb' := hpos hx eb
  have hxt : x.tdiv g = b' := by rw [Int.tdiv_eq_ediv_of_nonneg (by omega)]; exact hd
  have hnt : n.tdiv g = a' := by
    rw [ea, Int.mul_tdiv_cancel_left _ (by omega)]
  have hbx : b' ≤ x := by
    have := Int.mul_le_mul_of_nonneg_right (show 1 ≤ g by omega) (show 0 ≤ b' by omega)
    omega
  have han : a' ≤ n := by
    have := Int.mul_le_mul_of_nonneg_right (show 1 ≤ g by omega) (show 0 ≤ a' by omega)
    omega
  refine ⟨g, b', n * b', hgg, hg0, hgn, hxt, hd, hb', hbx, rfl, ?_, ?_, by rw [hnt]; exact han, by rw [hnt]; exact ha'⟩
  · rw [hnt]
    conv => lhs; rw [eb]
    conv => rhs; rw [ea]
    grind
  · have := Int.mul_le_mul_of_nonneg_left (show 1 ≤ b' by omega) (show 0 ≤ n by omega)
    omega

def LcR (L : List Int) (w : World) (n i : Value) (wr : World) : Prop := ∃ (k : Nat) (m : Int), n = .int .i64 m ∧ i = .int .i64 k ∧ k ≤ L.length ∧ 1 ≤ m ∧ m ≤ 10000 ∧ lcL m (L.drop k) = lcT L ∧ Below w.heap.size w wr
theorem lc_step {L : List Int} {k : Nat} {m x : Int} (hk : L[k]? = some x) (h : lcL m (L.drop k) = lcT L) : lcL m (x :: L.drop (k + 1)) = lcT L := by
  rw [← h]
  congr 1
  have hlt := (List.getElem?_eq_some_iff.1 hk).1
  rw [List.drop_eq_getElem_cons hlt]
  congr 1
  exact (List.getElem?_eq_some_iff.1 hk).2.symm

set_option maxHeartbeats 1000000 in
theorem LcmOf_is (v : Value) (L : List Int) (w : World) (hL : L.length ≤ 1048576) (h : RdJ w v L) :
    Calls Try.prog 22 #[v] w fun e w' => e = .returned (.int .i64 (lcT L)) ∧ Below w.heap.size w w' := by
  have H := Lib.hid h
  obtain ⟨sp, cap, rfl, hc1, hc2, _⟩ := h
  unfold maxLen at hc2
  obtain ⟨N, hN⟩ : ∃ N, L.length = N := ⟨_, rfl⟩
  have HN := Lib.hid hN
  rw [hN] at hL hc1
  rw [hN]
  clear hN
  go_enter Try.func22, Try.ntmps22
  go_wp2
  go_loopw [3, 8] (fun n i wr => LcR L w n i wr) (fun _ i _ => N - (intOf i).toNat)
  case atStart => exact ⟨0, 1, rfl, rfl, by omega, by omega, by omega, rfl, Below.refl _ _⟩
  case round =>
    obtain ⟨k, m, rfl, rfl, hk, m0, m1, hl, hB⟩ := hrel
    rw [HN.out] at hk
    have HB := Lib.hid hB
    have HL := Lib.hid hl
    clear hl
    by_cases hlt : k < N
    · have hk' : (k : Int) < (N : Int) := by omega
      obtain ⟨y, hy⟩ : ∃ y, L[k]? = some y := ⟨_, List.getElem?_eq_getElem (by rw [HN.out]; exact hlt)⟩
      have HE := Lib.hid (lc_step hy HL.out)
      obtain ⟨sp', cap', hse, _, _, hel⟩ := rdJ_on H.out hB
      injection hse with e1 e2 e3
      subst e1 e3
      obtain ⟨b, o, rfl, hbl, hcell⟩ := hel.resolve_left (by rw [HN.out]; omega)
      have c1 := hcell k y hy
      clear hcell hel hB e2
      rcases hym : modB y with _ | _
      · have HF := Lib.hid (show lcT L = -1 from by rw [← HE.out]; simp [lcL, lcS, hym])
        clear hy
        go_wp2_with (go_at_call 51; refine (isModulus_any _ _).mono ?_; rintro e w' ⟨rfl, rfl⟩)
        go_returns
        exact ⟨by rw [HF.out]; rfl, HB.out⟩
      · obtain ⟨y0, y1⟩ := modB_yes hym
        obtain ⟨g, q, p, hg, g0, g1, hq, hq', q0, q1, hp, _, hnp, _, _⟩ := lcm_parts (n := m) (x := y) (by omega) (by omega)
        have HG := Lib.hid fun W => commonDivisor_any m y W (by omega) (by omega) (by omega) (by omega)
        rw [hg] at HG
        have hpb := mul_bd (a := m) (x := q) (A := 10000) (X := 10000) (by omega) (by omega) (by omega) (by omega) (by omega)
        rw [hp] at hpb
        obtain ⟨p0, p1⟩ := hpb
        have hwq : IntKind.i64.wrap q = q := by rw [IntKind.wrap_i64]; omega
        have hwp : IntKind.i64.wrap p = p := by rw [IntKind.wrap_i64]; omega
        have hgz : ¬ g = 0 := by omega
        rcases hpm : modB p with _ | _
        · have HF := Lib.hid (show lcT L = -1 from by
            have hpn : ¬ p ≤ 10000 := by
              simp only [modB, inB, decide_eq_false_iff_not] at hpm
              omega
            rw [← HE.out]
            simp [lcL, lcS, hym, hg, hq', hp, hpn])
          clear hy hg hq'
          go_wp2_with (go_at_call 51; refine (isModulus_any _ _).mono ?_; rintro e w' ⟨rfl, rfl⟩)
          refine (HG.out _).mono ?_
          rintro e w1 ⟨rfl, hb1⟩
          go_wp2_with (go_at_call 51; refine (isModulus_any _ _).mono ?_; rintro e w' ⟨rfl, rfl⟩)
          go_returns
          exact ⟨by rw [HF.out]; rfl, below_on HB.out hb1⟩
        · have hpn := modB_yes hpm
          have HF := Lib.hid (show lcL p (L.drop (k + 1)) = lcT L from by
            rw [← HE.out]
            simp [lcL, lcS, hym, hg, hq', hp, hpn])
          clear hy hg hq'
          go_wp2_with (go_at_call 51; refine (isModulus_any _ _).mono ?_; rintro e w' ⟨rfl, rfl⟩)
          refine (HG.out _).mono ?_
          rintro e w1 ⟨rfl, hb1⟩
          go_wp2_with (go_at_call 51; refine (isModulus_any _ _).mono ?_; rintro e w' ⟨rfl, rfl⟩)
          go_roundw
          case rel => exact ⟨k + 1, p, rfl, by go_num, by rw [HN.out]; omega, by omega, by omega, HF.out, below_on HB.out hb1⟩
          case measure => simp [intOf]; omega
    · have hk' : ¬ (k : Int) < (N : Int) := by omega
      obtain rfl : k = N := by omega
      have HF := Lib.hid (show m = lcT L from by
        have := HL.out
        rw [← HN.out, List.drop_length] at this
        exact this)
      go_wp2
      go_returns
      exact ⟨by rw [HF.out]; rfl, HB.out⟩

set_option maxHeartbeats 1000000 in
theorem specLcmOf_is (v : Value) (L : List Int) (w : World) (hL : L.length ≤ 1048576) (h : RdJ w v L) :
    Calls Try.prog 20 #[v] w fun e w' => e = .returned (.int .i64 (lcT L)) ∧ Below w.heap.size w w' := by
  have H := Lib.hid h
  obtain ⟨sp, cap, rfl, hc1, hc2, _⟩ := h
  unfold maxLen at hc2
  obtain ⟨N, hN⟩ : ∃ N, L.length = N := ⟨_, rfl⟩
  have HN := Lib.hid hN
  rw [hN] at hL hc1
  rw [hN]
  clear hN
  go_enter Try.func20, Try.ntmps20
  go_wp2
  go_loopw [3, 4] (fun n i wr => LcR L w n i wr) (fun _ i _ => N - (intOf i).toNat)
  case atStart => exact ⟨0, 1, rfl, rfl, by omega, by omega, by omega, rfl, Below.refl _ _⟩
  case round =>
    obtain ⟨k, m, rfl, rfl, hk, m0, m1, hl, hB⟩ := hrel
    rw [HN.out] at hk
    have HB := Lib.hid hB
    have HL := Lib.hid hl
    clear hl
    by_cases hlt : k < N
    · have hk' : (k : Int) < (N : Int) := by omega
      obtain ⟨y, hy⟩ : ∃ y, L[k]? = some y := ⟨_, List.getElem?_eq_getElem (by rw [HN.out]; exact hlt)⟩
      have HE := Lib.hid (lc_step hy HL.out)
      obtain ⟨sp', cap', hse, _, _, hel⟩ := rdJ_on H.out hB
      injection hse with e1 e2 e3
      subst e1 e3
      obtain ⟨b, o, rfl, hbl, hcell⟩ := hel.resolve_left (by rw [HN.out]; omega)
      have c1 := hcell k y hy
      clear hcell hel hB e2
      rcases hym : inB y 1 10000 with _ | _
      · have HF := Lib.hid (show lcT L = -1 from by rw [← HE.out]; simp [lcL, lcS, modB, hym])
        clear hy
        go_wp2_with (go_at_call 50; refine (l1In_any _ _ _ _).mono ?_; rintro e w' ⟨rfl, rfl⟩)
        go_returns
        exact ⟨by rw [HF.out]; rfl, HB.out⟩
      · obtain ⟨y0, y1⟩ := inB_yes hym
        have hym' : modB y = true := hym
        obtain ⟨g, q, p, hg, g0, g1, hq, hq', q0, q1, hp, hnp, hnp', hnq, hnq0⟩ := lcm_parts (n := m) (x := y) (by omega) (by omega)
        have HG := Lib.hid fun W => l1Gcd_any m y W (by omega) (by omega) (by omega) (by omega)
        rw [hg] at HG
        have hpb := mul_bd (a := m) (x := q) (A := 10000) (X := 10000) (by omega) (by omega) (by omega) (by omega) (by omega)
        rw [hp] at hpb
        obtain ⟨p0, p1⟩ := hpb
        obtain ⟨t, ht⟩ : ∃ t, m.tdiv g = t := ⟨_, rfl⟩
        rw [ht] at hnp hnq hnq0
        have hwt : IntKind.i64.wrap t = t := by rw [IntKind.wrap_i64]; omega
        have hwp : IntKind.i64.wrap p = p := by rw [IntKind.wrap_i64]; omega
        have hgz : ¬ g = 0 := by omega
        by_cases hpm : p ≤ 10000
        · have HF := Lib.hid (show lcL p (L.drop (k + 1)) = lcT L from by
            rw [← HE.out]
            simp [lcL, lcS, hym', hg, hq', hp, hpm])
          have hpd : decide (10000 < p) = false := by simp; omega
          clear hy hg hq' hp hq
          go_wp2_with (go_at_call 50; refine (l1In_any _ _ _ _).mono ?_; rintro e w' ⟨rfl, rfl⟩)
          go_quiet ((go_at_call 43; exact Calls.quiet_of_same ((HG.out _).mono fun _ _ h => ⟨h.1, h.2.symm⟩)))
          go_wp2
          go_roundw
          case rel => exact ⟨k + 1, p, rfl, by go_num, by rw [HN.out]; omega, by omega, by omega, HF.out, below_on HB.out (below_dq _ _)⟩
          case measure => simp [intOf]; omega
        · have HF := Lib.hid (show lcT L = -1 from by
            rw [← HE.out]
            simp [lcL, lcS, hym', hg, hq', hp, hpm])
          have hpd : decide (10000 < p) = true := by simp; omega
          clear hy hg hq' hp hq
          go_wp2_with (go_at_call 50; refine (l1In_any _ _ _ _).mono ?_; rintro e w' ⟨rfl, rfl⟩)
          go_quiet ((go_at_call 43; exact Calls.quiet_of_same ((HG.out _).mono fun _ _ h => ⟨h.1, h.2.symm⟩)))
          go_wp2
          go_returns
          exact ⟨by rw [HF.out]; rfl, below_on HB.out (below_dq _ _)⟩
    · have hk' : ¬ (k : Int) < (N : Int) := by omega
      obtain rfl : k = N := by omega
      have HF := Lib.hid (show m = lcT L from by
        have := HL.out
        rw [← HN.out, List.drop_length] at this
        exact this)
      go_wp2
      go_returns
      exact ⟨by rw [HF.out]; rfl, HB.out⟩

set_option maxHeartbeats 1000000 in
theorem exactLcmOf_walk (v : Value) (L : List Int) (w : World) (h : RdJ w v L) :
    Calls Try.prog 5 #[v] w fun e w' => e = .returned (.bool true) ∧ Below w.heap.size w w' := by
  have H := Lib.hid h
  obtain ⟨sp, cap, rfl, hc1, hc2, _⟩ := h
  unfold maxLen at hc2
  by_cases hL : L.length ≤ 1048576
  · have hL' : ¬ (1048576 : Int) < (L.length : Int) := by omega
    go_enter Try.func5, Try.ntmps5
    go_wp2_with fail
    refine (toIntS_is _ L w hL H.out).mono ?_
    rintro e w1 ⟨s1, rfl, hs1, hb1⟩
    have H1 := Lib.hid hs1
    have HR1 := Lib.hid (rdJ_on H.out hb1)
    obtain ⟨a1, n1, c1, rfl⟩ := hs1.slice
    clear hs1
    go_wp2_with fail
    refine (specLcmOf_is _ L w1 hL H1.out).mono ?_
    rintro e w2 ⟨rfl, hb2⟩
    have HB2 := Lib.hid (below_on hb1 hb2)
    have HR2 := Lib.hid (rdJ_on HR1.out hb2)
    clear hb1 hb2
    go_wp2_with fail
    refine (toIntS_is _ L w2 hL HR2.out).mono ?_
    rintro e w3 ⟨s3, rfl, hs3, hb3⟩
    have H3 := Lib.hid hs3
    have HR3 := Lib.hid (rdJ_on HR2.out hb3)
    have HB3 := Lib.hid (below_on HB2.out hb3)
    obtain ⟨a3, n3, c3, rfl⟩ := hs3.slice
    clear hs3 hb3
    go_wp2_with fail
    refine (LcmOf_is _ L w3 hL H3.out).mono ?_
    rintro e w4 ⟨rfl, hb4⟩
    have H4 := Lib.hid (rdJ_on H3.out hb4)
    have HR4 := Lib.hid (rdJ_on HR3.out hb4)
    have HB4 := Lib.hid (below_on HB3.out hb4)
    clear hb4
    go_wp2_with fail
    refine (toIntS_is _ L w4 hL HR4.out).mono ?_
    rintro e w5 ⟨s5, rfl, hs5, hb5⟩
    have H5 := Lib.hid hs5
    have H45 := Lib.hid (rdJ_on H4.out hb5)
    have HB5 := Lib.hid (below_on HB4.out hb5)
    obtain ⟨a5, n5, c5, rfl⟩ := hs5.slice
    clear hs5 hb5
    go_wp2_with fail
    refine (eqIntJ_same _ _ L w5 H45.out H5.out hL).mono ?_
    rintro e w6 ⟨rfl, hb6⟩
    go_wp2
    go_returns
    exact ⟨rfl, below_on HB5.out hb6⟩
  · have hL' : (1048576 : Int) < (L.length : Int) := by omega
    go_enter Try.func5, Try.ntmps5
    go_wp2
    go_returns
    exact ⟨rfl, Below.refl _ _⟩

end Go.Proofs.Ytpiaefodhjafmaa
