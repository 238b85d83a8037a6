/- ExactVar, of the program and of the model. -/
import Derived.Test.YtmnppdkoehdplaaSyB
namespace Go.Proofs.Ytmnppdkoehdplaa
open Go.RowKit

def cS (v : Int) (x : AtD) : Int := sel x.a x.b x.c x.d v 0
def geB (v : Int) (x : AtD) : Bool := decide (-1 ≤ cS v x)
def leB (v : Int) (x : AtD) : Bool := decide (cS v x ≤ 1)
def exB (v : Int) (L : List AtD) : Bool := (spB L && varB v) && (L.all (geB v) || L.all (leB v))
def lwF (v : Int) (L : List AtD) : Int := L.foldl (fun l x => min l (cS v x)) 0
def hgF (v : Int) (L : List AtD) : Int := L.foldl (fun l x => max l (cS v x)) 0
theorem lw_all (v : Int) (L : List AtD) : ∀ l : Int, decide (-1 ≤ L.foldl (fun l x => min l (cS v x)) l) = (decide (-1 ≤ l) && L.all (geB v)) := by
  induction L with
  | nil => intro l; rw [List.foldl_nil, List.all_nil, Bool.and_true]
  | cons x L ih =>
    intro l
    have e : decide (-1 ≤ min l (cS v x)) = (decide (-1 ≤ l) && decide (-1 ≤ cS v x)) := by
      by_cases h : -1 ≤ l
      · by_cases g : -1 ≤ cS v x
        · rw [decide_eq_true h, decide_eq_true g, decide_eq_true (by omega)]; rfl
        · rw [decide_eq_true h, decide_eq_false g, decide_eq_false (by omega)]; rfl
      · rw [decide_eq_false h, decide_eq_false (by omega)]; rfl
    rw [List.foldl_cons, List.all_cons, ih, e, Bool.and_assoc]
    rfl
theorem hg_all (v : Int) (L : List AtD) : ∀ l : Int, decide (L.foldl (fun l x => max l (cS v x)) l ≤ 1) = (decide (l ≤ 1) && L.all (leB v)) := by
  induction L with
  | nil => intro l; rw [List.foldl_nil, List.all_nil, Bool.and_true]
  | cons x L ih =>
    intro l
    have e : decide (max l (cS v x) ≤ 1) = (decide (l ≤ 1) && decide (cS v x ≤ 1)) := by
      by_cases h : l ≤ 1
      · by_cases g : cS v x ≤ 1
        · rw [decide_eq_true h, decide_eq_true g, decide_eq_true (by omega)]; rfl
        · rw [decide_eq_true h, decide_eq_false g, decide_eq_false (by omega)]; rfl
      · rw [decide_eq_false h, decide_eq_false (by omega)]; rfl
    rw [List.foldl_cons, List.all_cons, ih, e, Bool.and_assoc]
    rfl
theorem lw_is (v : Int) (L : List AtD) : decide (-1 ≤ lwF v L) = L.all (geB v) := by rw [lwF, lw_all]; rfl
theorem hg_is (v : Int) (L : List AtD) : decide (hgF v L ≤ 1) = L.all (leB v) := by rw [hgF, hg_all]; rfl
theorem lw_snoc {v : Int} {L : List AtD} {k : Nat} {y : AtD} (h : L[k]? = some y) : lwF v (L.take (k + 1)) = min (lwF v (L.take k)) (cS v y) := by rw [take_snoc h]; simp [lwF]
theorem hg_snoc {v : Int} {L : List AtD} {k : Nat} {y : AtD} (h : L[k]? = some y) : hgF v (L.take (k + 1)) = max (hgF v (L.take k)) (cS v y) := by rw [take_snoc h]; simp [hgF]
theorem all_snoc {p : AtD → Bool} {L : List AtD} {k : Nat} {y : AtD} (h : L[k]? = some y) : (L.take (k + 1)).all p = ((L.take k).all p && p y) := by rw [take_snoc h]; simp

theorem exB_off {v : Int} {L : List AtD} (h : (spB L && varB v) = false) : exB v L = false := by unfold exB; rw [h]; rfl
theorem exB_on {v : Int} {L : List AtD} (h : (spB L && varB v) = true) : exB v L = (L.all (geB v) || L.all (leB v)) := by unfold exB; rw [h]; rfl

def XvR (v : Int) (L : List AtD) (n : Nat) (w : World) (i a g : Value) (wr : World) : Prop :=
  ∃ k : Nat, i = .int .i64 k ∧ k ≤ n ∧ a = .int .i64 (lwF v (L.take k)) ∧ g = .int .i64 (hgF v (L.take k)) ∧ Below w.heap.size w wr

set_option maxHeartbeats 2000000 in
theorem ExactVar_any (u : Value) (v : Int) (L : List AtD) (w : World) (h : RdA w u L) (hL : L.length ≤ 1048576) :
    Calls Try.prog 15 #[u, .int .i64 v] w (BlT (exB v L) w) := by
  have HS := Lib.hid (isSplit_any u L w h hL)
  have HR := Lib.hid h
  have HCO := Lib.hid (fun (x : AtD) W => CoefOf_any x.a x.b x.c x.d x.n v W)
  obtain ⟨sp, cap, rfl, hc⟩ := h
  obtain ⟨n, hn⟩ : ∃ n, L.length = n := ⟨_, rfl⟩
  have HN := Lib.hid hn
  have HC := Lib.hid hc
  rw [hn] at hL HS ⊢
  clear hn hc
  go_enter Try.func15, Try.ntmps15
  go_wp2_with fail
  refine HS.out.mono ?_
  rintro e w1 ⟨rfl, hb1⟩
  cases hs : spB L with
  | false =>
    have HF := Lib.hid (show exB v L = false from exB_off (by rw [hs]; rfl))
    clear hs
    go_wp2
    go_ret
    exact ⟨va_bl HF.out.symm, hb1⟩
  | true =>
    cases hv : varB v with
    | false =>
      have HF := Lib.hid (show exB v L = false from exB_off (by rw [hv, hs]; rfl))
      have HV := Lib.hid (isVar_t v false w1 hv)
      clear hs hv
      go_wp2_with fail
      refine HV.out.mono ?_
      rintro e w2 ⟨rfl, rfl⟩
      go_wp2
      go_ret
      exact ⟨va_bl HF.out.symm, hb1⟩
    | true =>
      have HF := Lib.hid (show exB v L = (decide (-1 ≤ lwF v L) || decide (hgF v L ≤ 1)) by rw [exB_on (by rw [hv, hs]; rfl), lw_is, hg_is])
      have HV := Lib.hid (isVar_t v true w1 hv)
      have HST := Lib.hid (show XvR v L n w (.int .i64 0) (.int .i64 0) (.int .i64 0) w1 from ⟨0, rfl, Nat.zero_le _, rfl, rfl, hb1⟩)
      clear hs hv
      go_wp2_with fail
      refine HV.out.mono ?_
      rintro e w2 ⟨rfl, rfl⟩
      clear hb1
      go_wp2_with fail
      go_loopw [19, 5, 6] (fun i a g wr => XvR v L n w i a g wr) (fun i _ _ _ => n - (intOf i).toNat)
      case atStart => exact HST.out
      case round =>
        obtain ⟨k, rfl, hk, rfl, rfl, hbw⟩ := hrel
        clear HST HV
        have HB := Lib.hid hbw
        by_cases hlt : k < n
        · have hk' : (k : Int) < (n : Int) := by omega
          obtain ⟨y, hy⟩ : ∃ y, L[k]? = some y := ⟨_, List.getElem?_eq_getElem (by rw [HN.out]; exact hlt)⟩
          have HY := Lib.hid hy
          obtain ⟨b, rfl, hbl, hcell⟩ := HC.out.resolve_left (by rw [HN.out]; omega)
          have f : ∀ o, wr.cell? ⟨b, o, none⟩ = w.cell? ⟨b, o, none⟩ := fun o => hbw.cell (p := ⟨b, o, none⟩) hbl
          have r1 : ARow wr b (k * 7) y := by have := hcell k y hy; simpa only [ARow, f] using this
          obtain ⟨c0, c1, c2, c3, c4, c5, c6⟩ := r1
          have HA1 := Lib.hid (lw_snoc (v := v) hy)
          have HA2 := Lib.hid (hg_snoc (v := v) hy)
          obtain ⟨p, hp⟩ : ∃ p, lwF v (L.take k) = p := ⟨_, rfl⟩
          obtain ⟨q, hq⟩ : ∃ q, hgF v (L.take k) = q := ⟨_, rfl⟩
          rw [hp] at HA1 ⊢
          rw [hq] at HA2 ⊢
          clear hcell f hy hbw hp hq
          have HCY := Lib.hid (fun W => HCO.out y W)
          obtain ⟨c, hcv⟩ : ∃ c, cS v y = c := ⟨_, rfl⟩
          rw [show sel y.a y.b y.c y.d v 0 = c from hcv] at HCY
          rw [hcv] at HA1 HA2
          clear hcv
          rcases Decidable.em (c < p) with hp1 | hp1
          all_goals
            rcases Decidable.em (q < c) with hq1 | hq1
            all_goals
              have HP1 := Lib.hid hp1
              have HQ1 := Lib.hid hq1
              go_wp2_with fail
              generalize hW : World.alloc _ _ = W
              have hx : C7 W wr.heap.size y.k y.m y.a y.b y.c y.d y.n := by subst hW; exact (by refine ⟨?_, ?_, ?_, ?_, ?_, ?_, ?_, ?_⟩ <;> first | (simp [go_sem]; done) | (simp; omega))
              have hw : Below wr.heap.size wr W := by subst hW; go_grown
              clear hW c0 c1 c2 c3 c4 c5 c6
              obtain ⟨x0, c0, c1, c2, c3, c4, c5, c6⟩ := id hx
              refine (HCY.out _).mono ?_
              rintro e w3 ⟨rfl, hb3⟩
              have hx3 := c7_on hx hb3
              have hw3 := below_on hw hb3
              clear x0 c0 c1 c2 c3 c4 c5 c6 hw hx hb3
              obtain ⟨x0, c0, c1, c2, c3, c4, c5, c6⟩ := hx3
              go_wp2_with fail
              refine (HCY.out _).mono ?_
              rintro e w4 ⟨rfl, hb4⟩
              have HB4 := Lib.hid (below_on HB.out (below_on hw3 hb4))
              clear x0 c0 c1 c2 c3 c4 c5 c6 hw3 hb4
              go_wp2
              go_roundw
              case rel => exact ⟨k + 1, by go_num, by omega, by rw [HA1.out]; exact congrArg _ (by have := HP1.out; omega), by rw [HA2.out]; exact congrArg _ (by have := HQ1.out; omega), HB4.out⟩
              case measure => simp [intOf]; omega
        · have hk' : ¬ (k : Int) < (n : Int) := by omega
          obtain rfl : k = n := by omega
          have HT := Lib.hid (show L.take k = L from List.take_of_length_le (by rw [HN.out]; exact Nat.le_refl _))
          rw [HT.out]
          obtain ⟨p, hp⟩ : ∃ p, lwF v L = p := ⟨_, rfl⟩
          obtain ⟨q, hq⟩ : ∃ q, hgF v L = q := ⟨_, rfl⟩
          rw [hp, hq] at HF ⊢
          clear hp hq
          by_cases hp1 : -1 ≤ p
          · have d1 : decide (-1 ≤ p) = true := decide_eq_true hp1
            go_wp2
            go_ret
            exact ⟨va_bl (by rw [HF.out, decide_eq_true hp1]; rfl), hbw⟩
          · have d1 : decide (-1 ≤ p) = false := decide_eq_false hp1
            have HP := Lib.hid hp1
            go_wp2
            go_ret
            exact ⟨va_bl (by rw [HF.out, decide_eq_false (show ¬ -1 ≤ p by have := HP.out; omega)]; rfl), hbw⟩

def XsR (v : Int) (L : List AtD) (n : Nat) (w : World) (i a g : Value) (wr : World) : Prop :=
  ∃ k : Nat, i = .int .i64 k ∧ k ≤ n ∧ a = .bool ((L.take k).all (geB v)) ∧ g = .bool ((L.take k).all (leB v)) ∧ Below w.heap.size w wr

set_option maxHeartbeats 2000000 in
theorem specExactVar_any (u : Value) (v : Int) (L : List AtD) (w : World) (h : RdA w u L) (hL : L.length ≤ 1048576) :
    Calls Try.prog 14 #[u, .int .i64 v] w (BlT (exB v L) w) := by
  have HM := Lib.hid (fun W hW => l9Most_any u v L W (readsA_on h hW) hL)
  have HCO := Lib.hid (fun (x : AtD) W => specCoefOf_any x.a x.b x.c x.d x.n v W)
  obtain ⟨sp, cap, rfl, hc⟩ := h
  obtain ⟨n, hn⟩ : ∃ n, L.length = n := ⟨_, rfl⟩
  have HN := Lib.hid hn
  have HC := Lib.hid hc
  rw [hn] at hL HM ⊢
  have HST := Lib.hid (show XsR v L n w (.int .i64 0) (.bool true) (.bool true) w from ⟨0, rfl, Nat.zero_le _, rfl, rfl, Below.refl _ _⟩)
  clear hn hc
  go_enter Try.func14, Try.ntmps14
  go_wp2
  go_loopw [7, 5, 6] (fun i a g wr => XsR v L n w i a g wr) (fun i _ _ _ => n - (intOf i).toNat)
  case atStart => exact HST.out
  case round =>
    obtain ⟨k, rfl, hk, rfl, rfl, hbw⟩ := hrel
    clear HST
    have HB := Lib.hid hbw
    by_cases hlt : k < n
    · have hk' : (k : Int) < (n : Int) := by omega
      obtain ⟨y, hy⟩ : ∃ y, L[k]? = some y := ⟨_, List.getElem?_eq_getElem (by rw [HN.out]; exact hlt)⟩
      obtain ⟨b, rfl, hbl, hcell⟩ := HC.out.resolve_left (by rw [HN.out]; omega)
      have f : ∀ o, wr.cell? ⟨b, o, none⟩ = w.cell? ⟨b, o, none⟩ := fun o => hbw.cell (p := ⟨b, o, none⟩) hbl
      have r1 : ARow wr b (k * 7) y := by have := hcell k y hy; simpa only [ARow, f] using this
      have hbl' := Nat.lt_of_lt_of_le hbl hbw.size
      obtain ⟨c0, c1, c2, c3, c4, c5, c6⟩ := r1
      have HA1 := Lib.hid (all_snoc (p := geB v) hy)
      have HA2 := Lib.hid (all_snoc (p := leB v) hy)
      obtain ⟨p, hp⟩ : ∃ p, (L.take k).all (geB v) = p := ⟨_, rfl⟩
      obtain ⟨q, hq⟩ : ∃ q, (L.take k).all (leB v) = q := ⟨_, rfl⟩
      rw [hp] at HA1 ⊢
      rw [hq] at HA2 ⊢
      clear hcell f hy hbw hp hq
      have HCY := Lib.hid (fun W => HCO.out y W)
      obtain ⟨c, hcv⟩ : ∃ c, cS v y = c := ⟨_, rfl⟩
      rw [show sel y.a y.b y.c y.d v 0 = c from hcv] at HCY
      simp only [geB, leB, hcv] at HA1 HA2
      clear hcv
      obtain ⟨g1, hg1⟩ : ∃ g, decide (-1 ≤ c) = g := ⟨_, rfl⟩
      obtain ⟨g2, hg2⟩ : ∃ g, decide (c ≤ 1) = g := ⟨_, rfl⟩
      rw [hg1] at HA1
      rw [hg2] at HA2
      cases p with
      | false =>
        cases q with
        | false =>
          go_wp2
          go_roundw
          case rel => exact ⟨k + 1, by go_num, by omega, by rw [HA1.out]; rfl, by rw [HA2.out]; rfl, HB.out⟩
          case measure => simp [intOf]; omega
        | true =>
          go_wp2_with fail
          refine (HCY.out _).mono ?_
          rintro e w3 ⟨rfl, hb3⟩
          have HB3 := Lib.hid (below_on HB.out hb3)
          clear c0 c1 c2 c3 c4 c5 c6 hb3
          go_wp2
          go_roundw
          case rel => exact ⟨k + 1, by go_num, by omega, by rw [HA1.out]; rfl, by rw [HA2.out]; rfl, HB3.out⟩
          case measure => simp [intOf]; omega
      | true =>
        go_wp2_with fail
        refine (HCY.out _).mono ?_
        rintro e w3 ⟨rfl, hb3⟩
        have HB3 := Lib.hid (below_on HB.out hb3)
        have f : ∀ o, w3.cell? ⟨b, o, none⟩ = wr.cell? ⟨b, o, none⟩ := fun o => (bcell hb3).1 b o hbl'
        have r1 : ARow w3 b (k * 7) y := by simpa only [ARow, f] using (show ARow wr b (k * 7) y from ⟨c0, c1, c2, c3, c4, c5, c6⟩)
        clear c0 c1 c2 c3 c4 c5 c6 hb3 f
        obtain ⟨c0, c1, c2, c3, c4, c5, c6⟩ := r1
        cases q with
        | false =>
          go_wp2
          go_roundw
          case rel => exact ⟨k + 1, by go_num, by omega, by rw [HA1.out]; rfl, by rw [HA2.out]; rfl, HB3.out⟩
          case measure => simp [intOf]; omega
        | true =>
          go_wp2_with fail
          refine (HCY.out _).mono ?_
          rintro e w4 ⟨rfl, hb4⟩
          have HB4 := Lib.hid (below_on HB3.out hb4)
          clear c0 c1 c2 c3 c4 c5 c6 hb4
          go_wp2
          go_roundw
          case rel => exact ⟨k + 1, by go_num, by omega, by rw [HA1.out]; rfl, by rw [HA2.out]; rfl, HB4.out⟩
          case measure => simp [intOf]; omega
    · have hk' : ¬ (k : Int) < (n : Int) := by omega
      obtain rfl : k = n := by omega
      have HT := Lib.hid (show L.take k = L from List.take_of_length_le (by rw [HN.out]; exact Nat.le_refl _))
      rw [HT.out]
      have HMW := Lib.hid (HM.out wr hbw)
      obtain ⟨t, ht⟩ : ∃ t, (spB L && varB v) = t := ⟨_, rfl⟩
      rw [ht] at HMW
      obtain ⟨p, hp⟩ : ∃ p, L.all (geB v) = p := ⟨_, rfl⟩
      obtain ⟨q, hq⟩ : ∃ q, L.all (leB v) = q := ⟨_, rfl⟩
      have HF := Lib.hid (show exB v L = (t && (p || q)) by unfold exB; rw [ht, hp, hq])
      rw [hp, hq]
      clear hp hq ht
      go_wp2_with fail
      refine HMW.out.mono ?_
      rintro e w3 ⟨rfl, hb3⟩
      have HB3 := Lib.hid (below_on HB.out hb3)
      cases t with
      | false =>
        go_wp2
        go_ret
        exact ⟨va_bl (by rw [HF.out]; rfl), HB3.out⟩
      | true =>
        cases p with
        | true =>
          go_wp2
          go_ret
          exact ⟨va_bl (by rw [HF.out]; rfl), HB3.out⟩
        | false =>
          go_wp2
          go_ret
          exact ⟨va_bl (by rw [HF.out]; rfl), HB3.out⟩

end Go.Proofs.Ytmnppdkoehdplaa
