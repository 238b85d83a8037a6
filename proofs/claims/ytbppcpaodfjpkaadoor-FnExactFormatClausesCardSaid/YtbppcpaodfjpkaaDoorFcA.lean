/- The text of a list of clauses, of the program and of the model. -/
import Derived.Test.YtbppcpaodfjpkaaDoorAtY
import Derived.Test.YtbppcpaodfjpkaaDoorSyF
import Derived.Test.YtbppcpaodfjpkaaDoorWd
namespace Go.Proofs.YtbppcpaodfjpkaaDoor
open Go.RowKit

/-- Whether lists of atoms are clauses, and not too many. -/
def ccB (LL : List (List AtD)) : Bool := decide (LL.length ≤ 64) && LL.all cvB
def clT (L : List AtD) : List UInt8 := if L = [] then wdT 0 else jnT L
def jcT (LL : List (List AtD)) : List UInt8 := Lib.join (LL.map clT) [32, 47, 32]
def fcT (LL : List (List AtD)) : List UInt8 := if ccB LL = true then (if LL = [] then wdT 1 else jcT LL) else []
theorem fc_off {LL : List (List AtD)} (h : ccB LL = false) : fcT LL = [] := by unfold fcT; rw [if_neg (by rw [h]; decide)]
theorem fc_nil {LL : List (List AtD)} (h : ccB LL = true) (h0 : LL = []) : fcT LL = wdT 1 := by unfold fcT; rw [if_pos h, if_pos h0]
theorem fc_on {LL : List (List AtD)} (h : ccB LL = true) (h0 : LL ≠ []) : fcT LL = jcT LL := by unfold fcT; rw [if_pos h, if_neg h0]
theorem rt_strC {a b : List UInt8} (h : a = b) : Ending.returned (.string (bs a)) = .returned (.string (bs b)) := by rw [h]
theorem call_at {LL : List (List AtD)} {k : Nat} {L : List AtD} (h : LL[k]? = some L) (hL : cvB L = false) : LL.all cvB = false := by
  rw [List.all_eq_false]
  exact ⟨L, List.mem_of_getElem? h, by simp [hL]⟩
theorem call_of {LL : List (List AtD)} (h : ∀ (i : Nat) (L : List AtD), i < LL.length → LL[i]? = some L → cvB L = true) : LL.all cvB = true := by
  rw [List.all_eq_true]
  intro L hL
  obtain ⟨i, hi, e⟩ := List.mem_iff_getElem.1 hL
  exact h i L hi (by rw [List.getElem?_eq_getElem hi, e])
theorem cc_parts {LL : List (List AtD)} (h : ccB LL = true) : LL.length ≤ 64 ∧ ∀ L ∈ LL, L.length ≤ 600 ∧ ∀ x ∈ L, avF x = true := by
  unfold ccB at h
  rw [Bool.and_eq_true, decide_eq_true_eq] at h
  refine ⟨h.1, fun L hL => ?_⟩
  have h2 := List.all_eq_true.1 h.2 L hL
  unfold cvB at h2
  rw [Bool.and_eq_true, decide_eq_true_eq] at h2
  exact ⟨h2.1, fun x hx => List.all_eq_true.1 h2.2 x hx⟩
theorem cl_len {L : List AtD} (h : L.length ≤ 600) : (clT L).length ≤ 84600 := by
  unfold clT
  split
  · have := wd_len 0; omega
  · have := jnT_len L; omega
theorem cl_ne {L : List AtD} (h : ∀ x ∈ L, avF x = true) : clT L ≠ [] := by
  unfold clT
  split
  · decide
  · rename_i h0; exact jnT_ne h0 h
theorem jc_len {LL : List (List AtD)} (h : ∀ L ∈ LL, L.length ≤ 600) : (jcT LL).length ≤ 84603 * LL.length := by
  have := jn_len (K := 84600) [32, 47, 32] (LL.map clT) (fun x hx => by obtain ⟨y, hy, rfl⟩ := List.mem_map.1 hx; exact cl_len (h y hy))
  simpa [jcT] using this
theorem jc_snoc {LL : List (List AtD)} {k : Nat} {L : List AtD} (h : LL[k]? = some L) (hk : 0 < k) : jcT (LL.take (k + 1)) = jcT (LL.take k) ++ ([32, 47, 32] ++ clT L) := by
  unfold jcT
  rw [take_snoc h, List.map_append, List.map_cons, List.map_nil, jn_snoc _ _ (by
    have hl := (List.getElem?_eq_some_iff.1 h).1
    intro e
    have := congrArg List.length e
    rw [List.length_map, List.length_take, List.length_nil] at this
    omega)]
theorem jc_one {LL : List (List AtD)} {L : List AtD} (h : LL[0]? = some L) : jcT (LL.take 1) = clT L := by
  have := take_snoc h
  rw [show (0 + 1) = 1 from rfl] at this
  unfold jcT
  rw [this]
  simp [Lib.join_one]
theorem jc_ne {LL : List (List AtD)} (h : LL ≠ []) (hv : ∀ L ∈ LL, ∀ x ∈ L, avF x = true) : jcT LL ≠ [] := by
  cases LL with
  | nil => exact absurd rfl h
  | cons x r =>
    unfold jcT
    rw [List.map_cons, Lib.join_cons]
    intro e
    exact cl_ne (hv x (List.mem_cons_self ..)) (List.append_eq_nil_iff.1 e).1

set_option maxHeartbeats 1000000 in
theorem clausesValid_is (v : Value) (LL : List (List AtD)) (w : World) (h : RdAA w v LL) (hz : ssL LL ≤ 1048576) :
    Calls Tryd.prog 33 #[v] w fun e w' => e = .returned (.bool (ccB LL)) ∧ Below w.heap.size w w' := by
  obtain ⟨sp, cap, rfl, hc⟩ := h
  obtain ⟨n, hn⟩ : ∃ n, LL.length = n := ⟨_, rfl⟩
  have hL : n ≤ 1048576 := by rw [← hn]; unfold ssL at hz; omega
  have HZ := Lib.hid (show smL LL ≤ 1048576 by unfold ssL at hz; omega)
  have HN := Lib.hid hn
  have HC := Lib.hid hc
  by_cases h6 : n ≤ 64
  · have HR := Lib.hid (show ccB LL = LL.all cvB by simp [ccB, hn, h6])
    rw [HR.out]
    clear HR
    rw [hn]
    clear hn hc hz
    go_enter Tryd.func33, Tryd.ntmps33
    go_wp2
    go_loopw [10] (fun i wr => ∃ k : Nat, i = .int .i64 k ∧ k ≤ n ∧ Below w.heap.size w wr ∧ ∀ (i : Nat) (L : List AtD), i < k → LL[i]? = some L → cvB L = true) (fun i _ => n - (intOf i).toNat)
    case atStart => exact ⟨0, rfl, Nat.zero_le _, Below.refl _ _, fun i x h0 => absurd h0 (by omega)⟩
    case round =>
      obtain ⟨k, rfl, hk, hbw, hall⟩ := hrel
      have HA := Lib.hid hall
      have HB := Lib.hid hbw
      clear hall
      by_cases hlt : k < n
      · have hk' : (k : Int) < (n : Int) := by omega
        obtain ⟨L, hy⟩ : ∃ L, LL[k]? = some L := ⟨_, List.getElem?_eq_getElem (by rw [HN.out]; exact hlt)⟩
        have HY := Lib.hid hy
        obtain ⟨b, rfl, hbl, hcell⟩ := HC.out.resolve_left (by rw [HN.out]; omega)
        obtain ⟨s, e1, e2⟩ := hcell k L hy
        have c0 : wr.cell? ⟨b, k, none⟩ = some s := (hbw.cell (p := ⟨b, k, none⟩) hbl).trans e1
        have HR := Lib.hid (rdAb_on e2 hbw).rd
        have HLL := Lib.hid (Nat.le_trans (smL_at hy) HZ.out)
        obtain ⟨a', n', c', rfl⟩ := e2.slice
        obtain ⟨t, ht⟩ : ∃ t, cvB L = t := ⟨_, rfl⟩
        have HT := Lib.hid ht
        clear hcell e1 e2 hy hbw ht
        go_wp2_with fail
        refine (ClauseValid_is _ L _ HR.out HLL.out).mono ?_
        rw [HT.out]
        rintro e w2 ⟨rfl, hb2⟩
        have HB2 := Lib.hid (below_on HB.out hb2)
        clear c0 hb2
        cases t with
        | false =>
          go_wp2
          go_ret
          exact ⟨by rw [call_at HY.out HT.out]; rfl, HB2.out⟩
        | true =>
          go_wp2
          go_roundw
          case rel => exact ⟨k + 1, by go_num, by omega, HB2.out, fun i x h1 h2 => by
            by_cases hik : i < k
            · exact HA.out i x hik h2
            · obtain rfl : i = k := by omega
              have e := HY.out
              rw [h2] at e
              obtain rfl := Option.some.inj e
              exact HT.out⟩
          case measure => simp [intOf]; omega
      · have hk' : ¬ (k : Int) < (n : Int) := by omega
        obtain rfl : k = n := by omega
        go_wp2
        go_ret
        exact ⟨by rw [call_of (fun i x h1 h2 => HA.out i x (by rw [← HN.out]; exact h1) h2)]; rfl, hbw⟩
  · have HR := Lib.hid (show ccB LL = false by simp [ccB, hn, h6])
    rw [HR.out]
    clear HR
    rw [hn]
    have h6' : (64 : Int) < n := by omega
    go_enter Tryd.func33, Tryd.ntmps33
    go_wp2
    go_ret
    exact ⟨rfl, Below.refl _ _⟩

set_option maxHeartbeats 1000000 in
theorem l4ClausesValid_is (v : Value) (LL : List (List AtD)) (w : World) (h : RdAA w v LL) (hz : ssL LL ≤ 1048576) :
    Calls Tryd.prog 30 #[v] w fun e w' => e = .returned (.bool (ccB LL)) ∧ Below w.heap.size w w' := by
  obtain ⟨sp, cap, rfl, hc⟩ := h
  obtain ⟨n, hn⟩ : ∃ n, LL.length = n := ⟨_, rfl⟩
  have hL : n ≤ 1048576 := by rw [← hn]; unfold ssL at hz; omega
  have HZ := Lib.hid (show smL LL ≤ 1048576 by unfold ssL at hz; omega)
  have HN := Lib.hid hn
  have HC := Lib.hid hc
  rw [hn]
  clear hn hc hz
  go_enter Tryd.func30, Tryd.ntmps30
  go_wp2
  go_loopw [3] (fun i wr => ∃ k : Nat, i = .int .i64 k ∧ k ≤ n ∧ Below w.heap.size w wr ∧ ∀ (i : Nat) (L : List AtD), i < k → LL[i]? = some L → cvB L = true) (fun i _ => n - (intOf i).toNat)
  case atStart => exact ⟨0, rfl, Nat.zero_le _, Below.refl _ _, fun i x h0 => absurd h0 (by omega)⟩
  case round =>
    obtain ⟨k, rfl, hk, hbw, hall⟩ := hrel
    have HA := Lib.hid hall
    have HB := Lib.hid hbw
    clear hall
    by_cases hlt : k < n
    · have hk' : (k : Int) < (n : Int) := by omega
      obtain ⟨L, hy⟩ : ∃ L, LL[k]? = some L := ⟨_, List.getElem?_eq_getElem (by rw [HN.out]; exact hlt)⟩
      have HY := Lib.hid hy
      obtain ⟨b, rfl, hbl, hcell⟩ := HC.out.resolve_left (by rw [HN.out]; omega)
      obtain ⟨s, e1, e2⟩ := hcell k L hy
      have c0 : wr.cell? ⟨b, k, none⟩ = some s := (hbw.cell (p := ⟨b, k, none⟩) hbl).trans e1
      have HR := Lib.hid (rdAb_on e2 hbw).rd
      have HLL := Lib.hid (Nat.le_trans (smL_at hy) HZ.out)
      obtain ⟨a', n', c', rfl⟩ := e2.slice
      obtain ⟨t, ht⟩ : ∃ t, cvB L = t := ⟨_, rfl⟩
      have HT := Lib.hid ht
      clear hcell e1 e2 hy hbw ht
      go_wp2_with fail
      refine (specClauseValid_is _ L _ HR.out HLL.out).mono ?_
      rw [HT.out]
      rintro e w2 ⟨rfl, hb2⟩
      have HB2 := Lib.hid (below_on HB.out hb2)
      clear c0 hb2
      cases t with
      | false =>
        go_wp2
        go_ret
        exact ⟨by simp [ccB, call_at HY.out HT.out], HB2.out⟩
      | true =>
        go_wp2
        go_roundw
        case rel => exact ⟨k + 1, by go_num, by omega, HB2.out, fun i x h1 h2 => by
          by_cases hik : i < k
          · exact HA.out i x hik h2
          · obtain rfl : i = k := by omega
            have e := HY.out
            rw [h2] at e
            obtain rfl := Option.some.inj e
            exact HT.out⟩
        case measure => simp [intOf]; omega
    · have hk' : ¬ (k : Int) < (n : Int) := by omega
      obtain rfl : k = n := by omega
      have HR := Lib.hid (show ccB LL = decide ((k : Int) ≤ 64) from by
        rw [ccB, call_of (fun i x h1 h2 => HA.out i x (by rw [← HN.out]; exact h1) h2), HN.out, Bool.and_true]
        by_cases g : k ≤ 64
        · rw [decide_eq_true g, decide_eq_true (by omega)]
        · rw [decide_eq_false g, decide_eq_false (by omega)])
      go_wp2
      go_ret
      exact ⟨by rw [HR.out]; rfl, hbw⟩

set_option maxHeartbeats 1000000 in
theorem clauseText_all (u : Value) (L : List AtD) (w : World) (h : RdA w u L) (hlen : L.length ≤ 1000) (ht : Tab w) (hw : Words w) :
    Calls Tryd.prog 34 #[u] w fun e w' => e = .returned (.string (bs (clT L))) ∧ Below w.heap.size w w' := by
  by_cases h0 : L = []
  · subst h0
    obtain ⟨sp, cap, rfl, _⟩ := h
    obtain ⟨B, O, CAP, hw1, hw2, hw3, _, _, hw6⟩ := hw
    have c0 : w.cell? ⟨B, O, none⟩ = some (.string (bs (wdT 0))) := hw6 0 (by decide)
    have hE : clT [] = wdT 0 := rfl
    have HE := Lib.hid hE
    clear hw6 hE ht hlen
    go_enter Tryd.func34, Tryd.ntmps34
    go_wp2
    go_ret
    exact ⟨rt_strC HE.out.symm, Below.refl _ _⟩
  · rw [show clT L = jnT L by unfold clT; rw [if_neg h0]]
    exact clauseText_any u L w h h0 hlen ht

def FcR (LL : List (List AtD)) (n : Nat) (w w1 : World) (v i : Value) (wr : World) : Prop :=
  ∃ k : Nat, i = .int .i64 k ∧ k ≤ n ∧ OwnT wr w1.heap.size v ((LL.take k).map clT) ∧ Below w.heap.size w wr ∧ Below w1.heap.size w1 wr

set_option maxHeartbeats 2000000 in
theorem FormatClauses_any (u : Value) (LL : List (List AtD)) (w : World) (h : RdAA w u LL) (hz : ssL LL ≤ 1048576) (ht : Tab w) (hwd : Words w) :
    Calls Tryd.prog 14 #[u] w fun e w' => e = .returned (.string (bs (fcT LL))) ∧ Below w.heap.size w w' := by
  have HS := Lib.hid (clausesValid_is u LL w h hz)
  have HT := Lib.hid ht
  have HW := Lib.hid hwd
  have hb0 : ({ data := #[] } : ByteArray) = bs [] := rfl
  have hsep : ({ data := #[32, 47, 32] } : ByteArray) = bs [32, 47, 32] := rfl
  obtain ⟨i0, hi, hz0, hz1, hz2⟩ := info_parts Tryd.infoStr
  obtain ⟨sp, cap, rfl, hc⟩ := h
  obtain ⟨n, hn⟩ : ∃ n, LL.length = n := ⟨_, rfl⟩
  have HN := Lib.hid hn
  have HC := Lib.hid hc
  have hL : n ≤ 1048576 := by rw [← hn]; unfold ssL at hz; omega
  have HZ := Lib.hid hz
  rw [hn] at HS ⊢
  clear hc ht hwd hz
  cases hs : ccB LL with
  | false =>
    have HF := Lib.hid (fc_off hs)
    rw [hs] at HS
    clear hs hn
    go_enter Tryd.func14, Tryd.ntmps14
    go_wp2_with fail
    refine HS.out.mono ?_
    rintro e w1 ⟨rfl, hb1⟩
    go_wp2
    go_ret
    exact ⟨rt_strC HF.out.symm, hb1⟩
  | true =>
    obtain ⟨hlen, hcl⟩ := cc_parts hs
    rw [hs] at HS
    by_cases h0 : n = 0
    · have HF := Lib.hid (fc_nil hs (List.length_eq_zero_iff.1 (hn.trans h0)))
      subst h0
      clear hs hn hlen hcl
      go_enter Tryd.func14, Tryd.ntmps14
      go_wp2_with fail
      refine HS.out.mono ?_
      rintro e w1 ⟨rfl, hb1⟩
      obtain ⟨B, O, CAP, hw1, hw2, hw3, _, _, hw6⟩ := words_on HW.out hb1
      have c0 : w1.cell? ⟨B, O + 1, none⟩ = some (.string (bs (wdT 1))) := hw6 1 (by decide)
      have hsz := bs_size (wdT 1)
      clear hw6
      go_wp2
      go_ret
      exact ⟨rt_strC HF.out.symm, hb1⟩
    · have hne : LL ≠ [] := fun e => h0 (by rw [← hn, e]; rfl)
      have HF := Lib.hid (fc_on hs hne)
      have HCL := Lib.hid hcl
      have hq : ((n : Int) == 0) = false := by rw [beq_eq_false_iff_ne]; omega
      have HJ := Lib.hid (fun (W1 W : World) v (hv : OwnT W W1.heap.size v (LL.map clT)) => join_is v W1.heap.size (LL.map clT) [32, 47, 32] W hv (by simpa using hne) (by rw [List.length_map]; omega) (by have := jc_len (fun L hL => (hcl L hL).1); unfold jcT at this; rw [hn] at this; omega))
      rw [hn] at hlen
      clear hs hne hn hcl
      go_enter Tryd.func14, Tryd.ntmps14
      go_wp2_with fail
      refine HS.out.mono ?_
      rintro e w1 ⟨rfl, hb1⟩
      have HST := Lib.hid (show FcR LL n w w1 (.slice none 0 0) (.int .i64 0) w1 from ⟨0, rfl, Nat.zero_le _, ⟨rfl, .inl ⟨rfl, rfl⟩⟩, hb1, Below.refl _ _⟩)
      have hs1 : w.heap.size ≤ w1.heap.size := hb1.size
      clear hb1
      go_wp2_with fail
      go_loopw [3, 17] (fun v i wr => FcR LL n w w1 v i wr) (fun _ i _ => n - (intOf i).toNat)
      case atStart => exact HST.out
      case round =>
        obtain ⟨k, rfl, hk, hown, hbw, hbw1⟩ := hrel
        clear HST
        have HB := Lib.hid hbw
        have HB1 := Lib.hid hbw1
        have HO := Lib.hid hown
        by_cases hlt : k < n
        · have hk' : (k : Int) < (n : Int) := by omega
          obtain ⟨L, hy⟩ : ∃ L, LL[k]? = some L := ⟨_, List.getElem?_eq_getElem (by rw [HN.out]; exact hlt)⟩
          obtain ⟨b, rfl, hbl, hcell⟩ := HC.out.resolve_left (by rw [HN.out]; omega)
          obtain ⟨s, e1, e2⟩ := hcell k L hy
          have c0 : wr.cell? ⟨b, k, none⟩ = some s := (hbw.cell (p := ⟨b, k, none⟩) hbl).trans e1
          have HR := Lib.hid (rdAb_on e2 hbw).rd
          obtain ⟨a', n', c', rfl⟩ := e2.slice
          have HX := Lib.hid (show (LL.take (k + 1)).map clT = (LL.take k).map clT ++ [clT L] by rw [take_snoc hy, List.map_append]; rfl)
          have h600 := (HCL.out L (List.mem_of_getElem? hy)).1
          have HL6 := Lib.hid (show L.length ≤ 1000 by omega)
          obtain ⟨T, hT⟩ : ∃ T, clT L = T := ⟨_, rfl⟩
          have HTT := Lib.hid hT
          rw [hT] at HX
          obtain ⟨P, hP⟩ : ∃ P, (LL.take k).map clT = P := ⟨_, rfl⟩
          have hPl : P.length ≤ 1000 := by rw [← hP]; simp; omega
          rw [hP] at HX HO
          clear hcell e1 e2 hy hbw hbw1 hown hT hP h600
          go_wp2_with fail
          refine (clauseText_all _ L _ HR.out HL6.out (tab_on HT.out HB.out) (words_on HW.out HB.out)).mono ?_
          rw [HTT.out]
          rintro e w3 ⟨rfl, hb3⟩
          have hown3 := own_below HO.out hb3
          have HB3 := Lib.hid (below_on HB.out hb3)
          have HB13 := Lib.hid (below_on HB1.out hb3)
          have hs3 : w1.heap.size ≤ w3.heap.size := HB13.out.size
          clear c0 hb3
          go_wp2_with (at_builtin; refine wpList_append_own _ rfl _ _ 66 rfl w1.heap.size 9 i0 (.string ⟨#[]⟩) 1 16 Tryd.underlying66 hi hz0 hz1 hz2 rfl (by decide) _ _ _ rfl (hown3.alloc _) ⟨w3.heap.size, 0, none⟩ 1 1 [.string (bs T)] rfl rfl ?c1 ?c2 ?c3 ?c4 ?c5 ?_)
          case c1 =>
            intro j u hj
            match j, hj with
            | 0, hj => simp at hj; subst hj; simp [Addr.add]
          case c2 => intro u hu; simp at hu; subst hu; rfl
          case c3 => unfold maxLen; omega
          case c4 => omega
          case c5 => simp; omega
          · intro v' w4 hown4 hgrow hnone
            have hbA : Below w3.heap.size w3 (w3.alloc (.cells #[.string (bs T)] 9)) := by go_grown
            have hownA := own_below hown3 hbA
            have hlow : Below w1.heap.size w3 w4 := (hbA.mono hs3).trans (grown_lowT hownA (Nat.le_refl _) (by have := hbA.size; omega) hgrow)
            have HN4 : Hid (OwnT w4 w1.heap.size v' (P ++ [T])) := by
              show w4.ownsRow _ _ _ _ _ _
              simpa [stV] using hown4
            have HB4 := Lib.hid (HB3.out.trans (hlow.mono hs1))
            have HB14 := Lib.hid (HB13.out.trans hlow)
            clear hown3 hown4 hgrow hbA hownA hlow hnone
            go_wp2
            go_roundw
            case rel => exact ⟨k + 1, by go_num, by omega, by rw [HX.out]; exact HN4.out, HB4.out, HB14.out⟩
            case measure => simp [intOf]; omega
        · have hk' : ¬ (k : Int) < (n : Int) := by omega
          obtain rfl : k = n := by omega
          rw [show LL.take k = LL from List.take_of_length_le (by rw [HN.out]; exact Nat.le_refl _)] at HO
          clear hown hbw1
          go_wp2_with fail
          refine (HJ.out w1 _ _ HO.out).mono ?_
          rintro e w3 ⟨rfl, hb3⟩
          go_wp2
          go_ret
          exact ⟨rt_strC HF.out.symm, below_on hbw hb3⟩

end Go.Proofs.YtbppcpaodfjpkaaDoor
