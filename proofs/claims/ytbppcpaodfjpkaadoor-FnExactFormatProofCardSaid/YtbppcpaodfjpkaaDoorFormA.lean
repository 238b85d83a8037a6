/- Contracts of the small functions on kinds; the size of a list of formulas (szFormulaS, szFormula). -/
import Derived.Test.YtbppcpaodfjpkaaDoorTree
import Derived.Deep.Matrix
import Derived.Laws.Rows
namespace Go.Proofs.YtbppcpaodfjpkaaDoor
open Go.RowKit

theorem ret_int' {k : IntKind} {a b : Int} (h : a = b) : Ending.returned (.int k a) = .returned (.int k b) := by rw [h]

/-- What the sizes of the parts of parts add up to. -/
def Fo.deep : Fo → Nat
  | .nil => 0
  | .cons _ s r => s.size + r.deep
theorem Fo.size_eq (f : Fo) : f.size = f.len + f.deep := by
  induction f with
  | nil => rfl
  | cons h s r _ ih => simp only [Fo.size, Fo.len, Fo.deep]; omega

def szI (n left : Nat) : Int := if n ≤ left then (left : Int) - n else -1

def SzS (f : Fo) : Prop := ∀ (w : World) (lo : Nat) (s : Value) (left : Nat), left ≤ 1048576 → FS w lo f s →
  Calls Tryd.prog 21 #[s, .int .i64 left] w fun e w' => e = .returned (.int .i64 (szI f.size left)) ∧ Below w.heap.size w w'

def SzF (h : FH) (f : Fo) : Prop := ∀ (w : World) (lo : Nat) (s : Value) (left : Nat), left ≤ 1048576 → FS w lo f s →
  Calls Tryd.prog 6 #[.agg #[.int .i64 h.k, .int .i64 h.ak, .int .i64 h.am, .int .i64 h.a, .int .i64 h.b, .int .i64 h.c, .int .i64 h.d, .int .i64 h.n, .int .i64 h.v, s], .int .i64 left] w fun e w' => e = .returned (.int .i64 (szI f.size left)) ∧ Below w.heap.size w w'

set_option maxHeartbeats 400000 in
theorem szF_of {h : FH} {f : Fo} (HS : SzS f) : SzF h f := by
  intro w lo s left hl hs
  obtain ⟨k, ak, am, a, b, c, d, n, v⟩ := h
  dsimp only
  have H := Lib.hid HS
  have HF := Lib.hid hs
  clear HS hs
  by_cases hz : f.size ≤ left
  · obtain ⟨r, hr⟩ : ∃ r : Nat, szI f.size left = (r : Int) := ⟨left - f.size, by unfold szI; rw [if_pos hz]; omega⟩
    rw [hr]
    have HR := Lib.hid hr
    clear hr
    go_enter Tryd.func6, Tryd.ntmps6
    go_wp2_with fail
    generalize hW : w.alloc _ = W
    have hw : Below w.heap.size w W := by subst hW; go_grown
    have HFW := Lib.hid (FS.below hw (Nat.le_refl _) HF.out)
    clear hW
    refine (H.out W lo s left hl HFW.out).mono ?_
    rintro e w1 ⟨rfl, hb⟩
    rw [HR.out]
    go_wp2
    go_ret
    exact ⟨rfl, below_on hw hb⟩
  · have hr : szI f.size left = -1 := by unfold szI; rw [if_neg hz]
    rw [hr]
    have HR := Lib.hid hr
    clear hr
    go_enter Tryd.func6, Tryd.ntmps6
    go_wp2_with fail
    generalize hW : w.alloc _ = W
    have hw : Below w.heap.size w W := by subst hW; go_grown
    have HFW := Lib.hid (FS.below hw (Nat.le_refl _) HF.out)
    clear hW
    refine (H.out W lo s left hl HFW.out).mono ?_
    rintro e w1 ⟨rfl, hb⟩
    rw [HR.out]
    go_wp2
    go_ret
    exact ⟨rfl, below_on hw hb⟩

theorem szI_neg {n left : Nat} (h : left < n) : szI n left = -1 := by unfold szI; rw [if_neg (by omega)]
theorem szI_pos {n left : Nat} (h : n ≤ left) : szI n left = ((left - n : Nat) : Int) := by unfold szI; rw [if_pos h]; omega

theorem szI_step {a b l : Nat} (h : a ≤ l) : szI b (l - a) = szI (a + b) l := by
  unfold szI
  by_cases g : b ≤ l - a
  · rw [if_pos g, if_pos (by omega)]; omega
  · rw [if_neg g, if_neg (by omega)]

def SzR (f : Fo) (left b o lo : Nat) (w : World) (v i : Value) (wr : World) : Prop :=
  ∃ (k l : Nat) (r : Fo), i = .int .i64 k ∧ v = .int .i64 l ∧ k + r.len = f.len ∧ l ≤ 1048576 ∧ r.size ≤ f.size ∧ szI r.deep l = szI f.size left ∧ FEl wr lo r b (o + k * 10) ∧ Below w.heap.size w wr

set_option maxHeartbeats 1000000 in
theorem szS_of {f : Fo} (HF : ∀ h s, s.size < f.size → SzF h s) : SzS f := by
  intro w lo s left hl hs
  have H := Lib.hid HF
  clear HF
  have hlen := Fo.size_eq f
  rcases hs with ⟨h0, x, cap, rfl, _, _⟩ | ⟨h0, b, o, cap, rfl, hc1, hc2, hlo, hb, hel⟩
  · obtain rfl : f = .nil := Fo.len_zero h0
    simp only [Fo.size]
    rw [szI_pos (Nat.zero_le _)]
    simp only [Nat.sub_zero]
    clear hlen h0
    go_enter Tryd.func21, Tryd.ntmps21
    go_wp2
    refine wp_loop_rounds 1 ?_
    rw [rounds_succ]
    go_wp2
    go_ret
    exact ⟨rfl, Below.refl _ _⟩
  · by_cases hd : f.len ≤ left
    · have hd' : ¬ (left : Int) - f.len < 0 := by omega
      have hst : SzR f left b o lo w (.int .i64 ((left : Int) - f.len)) (.int .i64 0) w :=
        ⟨0, left - f.len, f, rfl, by congr 1; omega, by omega, by omega, Nat.le_refl _, by unfold szI; by_cases h : f.size ≤ left; (rw [if_pos h, if_pos (by omega)]; omega); (rw [if_neg h, if_neg (by omega)]), by simpa using hel, Below.refl _ _⟩
      have HST := Lib.hid hst
      unfold maxLen at hc2
      clear hlen hel hst
      go_enter Tryd.func21, Tryd.ntmps21
      go_wp2
      go_loopw [1, 5] (fun v i wr => SzR f left b o lo w v i wr) (fun _ i _ => f.len - (intOf i).toNat)
      case atStart => exact HST.out
      case round =>
        obtain ⟨k, l, r, rfl, rfl, hk, hl2, hdr, hsz, hr, hbw⟩ := hrel
        have HSZ := Lib.hid hsz
        clear hsz HST
        cases r with
        | nil =>
          simp only [Fo.len] at hk
          have hkl : ¬ k < f.len := by omega
          have hv : szI f.size left = l := by rw [← HSZ.out]; exact szI_pos (Nat.zero_le _)
          have HV := Lib.hid hv
          clear hv
          go_wp2
          go_ret
          exact ⟨ret_int' HV.out.symm, hbw⟩
        | cons h' s' r' =>
          simp only [Fo.len] at hk
          simp only [Fo.size] at hdr
          have hkl : k < f.len := by omega
          obtain ⟨⟨sl, hrow, hsl⟩, hrest⟩ := hr
          have HC := Lib.hid (H.out h' s' (by omega) wr lo sl l hl2 hsl)
          have HB := Lib.hid hbw
          have HR := Lib.hid hrest
          obtain ⟨c0, c1, c2, c3, c4, c5, c6, c7, c8, c9⟩ := hrow
          clear hsl hrest hbw
          by_cases hz : s'.size ≤ l
          · have HV := Lib.hid (szI_pos hz)
            have HZ : Hid (szI r'.deep (l - s'.size) = szI f.size left) := by
              show _ = _
              rw [← HSZ.out]
              exact szI_step hz
            go_wp2_with fail
            refine HC.out.mono ?_
            rintro e w1 ⟨rfl, hb1⟩
            rw [HV.out]
            have hlt : ¬ ((l - s'.size : Nat) : Int) < 0 := by omega
            have HR1 := Lib.hid (FEl.below hb1 (Nat.le_refl _) hlo (Nat.lt_of_lt_of_le hb HB.out.size) HR.out)
            have HB1 := Lib.hid (below_on HB.out hb1)
            clear c0 c1 c2 c3 c4 c5 c6 c7 c8 c9 hb1
            go_wp2
            go_roundw
            case rel => exact ⟨k + 1, l - s'.size, r', by go_num, rfl, by omega, by omega, by omega, HZ.out, by rw [show o + (k + 1) * 10 = o + k * 10 + 10 by omega]; exact HR1.out, HB1.out⟩
            case measure => simp [intOf]; omega
          · have HV := Lib.hid (szI_neg (n := s'.size) (left := l) (by omega))
            have hv : szI f.size left = -1 := by rw [← HSZ.out]; exact szI_neg (by simp only [Fo.deep]; omega)
            have HW := Lib.hid hv
            clear hv
            go_wp2_with fail
            refine HC.out.mono ?_
            rintro e w1 ⟨rfl, hb1⟩
            rw [HV.out]
            go_wp2
            go_ret
            exact ⟨ret_int' HW.out.symm, below_on HB.out hb1⟩
    · rw [szI_neg (by omega)]
      have hd' : (left : Int) - f.len < 0 := by omega
      have HL := Lib.hid hlen
      clear hlen
      unfold maxLen at hc2
      go_enter Tryd.func21, Tryd.ntmps21
      go_wp2
      go_ret
      exact ⟨rfl, Below.refl _ _⟩

theorem szS_any (f : Fo) : SzS f := by
  have key : ∀ N (f : Fo), f.size ≤ N → SzS f := by
    intro N
    induction N with
    | zero => intro f hf; exact szS_of fun h s hs => absurd hs (by omega)
    | succ N ih => intro f hf; exact szS_of fun h s hs => szF_of (ih s (by omega))
  exact key f.size f (Nat.le_refl _)
theorem szF_any (h : FH) (f : Fo) : SzF h f := szF_of (szS_any f)

end Go.Proofs.YtbppcpaodfjpkaaDoor
