/- Lists of ints as arguments; the least common multiple of the program. -/
import Derived.Test.YtcgolbkpfncgpaaNbA
import Derived.Test.YtcgolbkpfncgpaaOwn
import Derived.Laws.OwnMore
import Derived.Deep.RegionWith
namespace Go.Proofs.Ytcgolbkpfncgpaa
open Go.RowKit

/-- The slice v reads as the ints L. -/
def RdJ (w : World) (v : Value) (L : List Int) : Prop :=
  ∃ sp cap, v = .slice sp L.length cap ∧ L.length ≤ cap ∧ cap ≤ maxLen ∧ (L.length = 0 ∨ ∃ b o, sp = some ⟨b, o, none⟩ ∧ b < w.heap.size ∧ ∀ i x, L[i]? = some x → w.cell? ⟨b, o + i, none⟩ = some (.int .i64 x))
theorem rdJ_on {w w' : World} {v : Value} {L : List Int} (h : RdJ w v L) (hb : Below w.heap.size w w') : RdJ w' v L := by
  obtain ⟨sp, cap, hv, h1, h2, hc⟩ := h
  refine ⟨sp, cap, hv, h1, h2, ?_⟩
  rcases hc with h0 | ⟨b, o', he, hlt, hc⟩
  · exact Or.inl h0
  · exact Or.inr ⟨b, o', he, Nat.lt_of_lt_of_le hlt hb.size, fun i x hx => (hb.cell (p := ⟨b, o' + i, none⟩) hlt).trans (hc i x hx)⟩
theorem RdJ.slice {w : World} {v : Value} {L : List Int} (h : RdJ w v L) : ∃ a n c, v = .slice a n c := by
  obtain ⟨sp, cap, e, _⟩ := h
  exact ⟨_, _, _, e⟩

/-- One number more. -/
def lcS (n x : Int) : Option Int := if modB x = true then (if n * (x / (Int.gcd n x : Nat)) ≤ 10000 then some (n * (x / (Int.gcd n x : Nat))) else none) else none
def lcL : Int → List Int → Int
  | n, [] => n
  | n, x :: r => match lcS n x with
    | some m => lcL m r
    | none => -1
def lcT (L : List Int) : Int := lcL 1 L

theorem lcm_parts {n x : Int} (hn : 0 < n) (hx : 0 < x) : ∃ g q p : Int, ((Int.gcd n x : Nat) : Int) = g ∧ 0 < g ∧ g ≤ n ∧ x.tdiv g = q ∧ x / g = q ∧ 0 < q ∧ q ≤ x ∧ n * q = p ∧ n.tdiv g * x = p ∧ n ≤ p ∧ n.tdiv g ≤ n ∧ 0 < n.tdiv g := by
  obtain ⟨a', b', ea, eb, _, hd⟩ := gcd_parts (a := n) (m := x) (by omega)
  have hg := gcd_pos_r (a := n) (m := x) (by omega)
  obtain ⟨g, hgg⟩ : ∃ g : Int, ((Int.gcd n x : Nat) : Int) = g := ⟨_, rfl⟩
  rw [hgg] at ea eb hd
  have hg0 : 0 < g := by omega
  have hgn : g ≤ n := by
    have h2 : Int.gcd n x ∣ n.natAbs := Nat.gcd_dvd_left _ _
    have := Nat.le_of_dvd (by omega) h2
    omega
  have hpos : ∀ {c d : Int}, 0 < d → d = g * c → 0 < c := fun {c d} h e => by
    rcases Int.lt_trichotomy c 0 with h0 | h0 | h0
    · exfalso; have := Int.mul_neg_of_pos_of_neg hg0 h0; omega
    · subst h0; simp at e; omega
    · exact h0
  have ha' := hpos hn ea
  have hb' := hpos hx eb
  have hxt : x.tdiv g = b' := by rw [Int.tdiv_eq_ediv_of_nonneg (by omega)]; exact hd
  have hnt : n.tdiv g = a' := by
    rw [ea, Int.mul_tdiv_cancel_left _ (by omega)]
  have hbx : b' ≤ x := by
    have := Int.mul_le_mul_of_nonneg_right (show 1 ≤ g by omega) (show 0 ≤ b' by omega)
    omega
  have han : a' ≤ n := by
    have := Int.mul_le_mul_of_nonneg_right (show 1 ≤ g by omega) (show 0 ≤ a' by omega)
    omega
  refine ⟨g, b', n * b', hgg, hg0, hgn, hxt, hd, hb', hbx, rfl, ?_, ?_, by rw [hnt]; exact han, by rw [hnt]; exact ha'⟩
  · rw [hnt]
    conv => lhs; rw [eb]
    conv => rhs; rw [ea]
    grind
  · have := Int.mul_le_mul_of_nonneg_left (show 1 ≤ b' by omega) (show 0 ≤ n by omega)
    omega

def LcR (L : List Int) (w : World) (n i : Value) (wr : World) : Prop := ∃ (k : Nat) (m : Int), n = .int .i64 m ∧ i = .int .i64 k ∧ k ≤ L.length ∧ 1 ≤ m ∧ m ≤ 10000 ∧ lcL m (L.drop k) = lcT L ∧ Below w.heap.size w wr
theorem lc_step {L : List Int} {k : Nat} {m x : Int} (hk : L[k]? = some x) (h : lcL m (L.drop k) = lcT L) : lcL m (x :: L.drop (k + 1)) = lcT L := by
  rw [← h]
  congr 1
  have hlt := (List.getElem?_eq_some_iff.1 hk).1
  rw [List.drop_eq_getElem_cons hlt]
  congr 1
  exact (List.getElem?_eq_some_iff.1 hk).2.symm

set_option maxHeartbeats 1000000 in
theorem LcmOf_is (v : Value) (L : List Int) (w : World) (hL : L.length ≤ 1048576) (h : RdJ w v L) :
    Calls Try.prog 126 #[v] w fun e w' => e = .returned (.int .i64 (lcT L)) ∧ Below w.heap.size w w' := by
  have H := Lib.hid h
  obtain ⟨sp, cap, rfl, hc1, hc2, _⟩ := h
  unfold maxLen at hc2
  obtain ⟨N, hN⟩ : ∃ N, L.length = N := ⟨_, rfl⟩
  have HN := Lib.hid hN
  rw [hN] at hL hc1
  rw [hN]
  clear hN
  go_enter Try.func126, Try.ntmps126
  go_wp2
  go_loopw [3, 8] (fun n i wr => LcR L w n i wr) (fun _ i _ => N - (intOf i).toNat)
  case atStart => exact ⟨0, 1, rfl, rfl, by omega, by omega, by omega, rfl, Below.refl _ _⟩
  case round =>
    obtain ⟨k, m, rfl, rfl, hk, m0, m1, hl, hB⟩ := hrel
    rw [HN.out] at hk
    have HB := Lib.hid hB
    have HL := Lib.hid hl
    clear hl
    by_cases hlt : k < N
    · have hk' : (k : Int) < (N : Int) := by omega
      obtain ⟨y, hy⟩ : ∃ y, L[k]? = some y := ⟨_, List.getElem?_eq_getElem (by rw [HN.out]; exact hlt)⟩
      have HE := Lib.hid (lc_step hy HL.out)
      obtain ⟨sp', cap', hse, _, _, hel⟩ := rdJ_on H.out hB
      injection hse with e1 e2 e3
      subst e1 e3
      obtain ⟨b, o, rfl, hbl, hcell⟩ := hel.resolve_left (by rw [HN.out]; omega)
      have c1 := hcell k y hy
      clear hcell hel hB e2
      rcases hym : modB y with _ | _
      · have HF := Lib.hid (show lcT L = -1 from by rw [← HE.out]; simp [lcL, lcS, hym])
        clear hy
        go_wp2_with (go_at_call 150; refine (isModulus_any _ _).mono ?_; rintro e w' ⟨rfl, rfl⟩)
        go_returns
        exact ⟨by rw [HF.out]; rfl, HB.out⟩
      · obtain ⟨y0, y1⟩ := modB_yes hym
        obtain ⟨g, q, p, hg, g0, g1, hq, hq', q0, q1, hp, _, hnp, _, _⟩ := lcm_parts (n := m) (x := y) (by omega) (by omega)
        have HG := Lib.hid fun W => commonDivisor_any m y W (by omega) (by omega) (by omega) (by omega)
        rw [hg] at HG
        have hpb := mul_bd (a := m) (x := q) (A := 10000) (X := 10000) (by omega) (by omega) (by omega) (by omega) (by omega)
        rw [hp] at hpb
        obtain ⟨p0, p1⟩ := hpb
        have hwq : IntKind.i64.wrap q = q := by rw [IntKind.wrap_i64]; omega
        have hwp : IntKind.i64.wrap p = p := by rw [IntKind.wrap_i64]; omega
        have hgz : ¬ g = 0 := by omega
        rcases hpm : modB p with _ | _
        · have HF := Lib.hid (show lcT L = -1 from by
            have hpn : ¬ p ≤ 10000 := by
              simp only [modB, inB, decide_eq_false_iff_not] at hpm
              omega
            rw [← HE.out]
            simp [lcL, lcS, hym, hg, hq', hp, hpn])
          clear hy hg hq'
          go_wp2_with (go_at_call 150; refine (isModulus_any _ _).mono ?_; rintro e w' ⟨rfl, rfl⟩)
          refine (HG.out _).mono ?_
          rintro e w1 ⟨rfl, hb1⟩
          go_wp2_with (go_at_call 150; refine (isModulus_any _ _).mono ?_; rintro e w' ⟨rfl, rfl⟩)
          go_returns
          exact ⟨by rw [HF.out]; rfl, below_on HB.out hb1⟩
        · have hpn := modB_yes hpm
          have HF := Lib.hid (show lcL p (L.drop (k + 1)) = lcT L from by
            rw [← HE.out]
            simp [lcL, lcS, hym, hg, hq', hp, hpn])
          clear hy hg hq'
          go_wp2_with (go_at_call 150; refine (isModulus_any _ _).mono ?_; rintro e w' ⟨rfl, rfl⟩)
          refine (HG.out _).mono ?_
          rintro e w1 ⟨rfl, hb1⟩
          go_wp2_with (go_at_call 150; refine (isModulus_any _ _).mono ?_; rintro e w' ⟨rfl, rfl⟩)
          go_roundw
          case rel => exact ⟨k + 1, p, rfl, by go_num, by rw [HN.out]; omega, by omega, by omega, HF.out, below_on HB.out hb1⟩
          case measure => simp [intOf]; omega
    · have hk' : ¬ (k : Int) < (N : Int) := by omega
      obtain rfl : k = N := by omega
      have HF := Lib.hid (show m = lcT L from by
        have := HL.out
        rw [← HN.out, List.drop_length] at this
        exact this)
      go_wp2
      go_returns
      exact ⟨by rw [HF.out]; rfl, HB.out⟩

end Go.Proofs.Ytcgolbkpfncgpaa
