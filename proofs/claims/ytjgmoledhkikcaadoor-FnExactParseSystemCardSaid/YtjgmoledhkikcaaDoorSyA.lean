/- Systems, of the program and of the model: which lists of atoms are systems, with and without equations; quotients rounded up. -/
import Derived.Test.YtjgmoledhkikcaaDoorAtX
import Derived.Test.YtjgmoledhkikcaaDoorIm
import Derived.Test.YtjgmoledhkikcaaDoorSyM
import Derived.Laws.EntriesVeiled
namespace Go.Proofs.YtjgmoledhkikcaaDoor
open Go.RowKit

/-- An atom that a system may have. -/
def s1 (x : AtD) : Bool := avF x && (x.k == 0 || x.k == 1)
/-- Whether atoms are a system. -/
def syB (L : List AtD) : Bool := L.all s1 && decide (L.length ≤ 40)
def notEq (x : AtD) : Bool := !(x.k == 1)
/-- Whether atoms are a system without equations. -/
def spB (L : List AtD) : Bool := syB L && L.all notEq

theorem pall_at {p : AtD → Bool} {L : List AtD} {k : Nat} {y : AtD} (h : L[k]? = some y) (hy : p y = false) : L.all p = false := by
  rw [List.all_eq_false]
  exact ⟨y, List.mem_of_getElem? h, by simp [hy]⟩
theorem pall_of {p : AtD → Bool} {L : List AtD} (h : ∀ (i : Nat) (x : AtD), i < L.length → L[i]? = some x → p x = true) : L.all p = true := by
  rw [List.all_eq_true]
  intro x hx
  obtain ⟨i, hi, e⟩ := List.mem_iff_getElem.1 hx
  exact h i x hi (by rw [List.getElem?_eq_getElem hi, e])
theorem pall_next {p : AtD → Bool} {L : List AtD} {k : Nat} {y : AtD} (hy : L[k]? = some y) (hp : p y = true) (h : ∀ (i : Nat) (x : AtD), i < k → L[i]? = some x → p x = true) :
    ∀ (i : Nat) (x : AtD), i < k + 1 → L[i]? = some x → p x = true := fun i x h1 h2 => by
  by_cases hik : i < k
  · exact h i x hik h2
  · obtain rfl : i = k := by omega
    rw [h2] at hy
    obtain rfl := Option.some.inj hy
    exact hp
theorem va_bl {a b : Bool} (h : a = b) : Ending.returned (.bool a) = .returned (.bool b) := by rw [h]
theorem s1_av {x : AtD} (h : s1 x = true) : avF x = true := by unfold s1 at h; rw [Bool.and_eq_true] at h; exact h.1
theorem s1_off {x : AtD} (h : avF x = false) : s1 x = false := by unfold s1; rw [h]; rfl
theorem s1_on {x : AtD} (h : avF x = true) : s1 x = (x.k == 0 || x.k == 1) := by unfold s1; rw [h]; rfl
theorem av_kind {x : AtD} (h : avF x = true) : 0 ≤ x.k ∧ x.k ≤ 3 := by
  obtain ⟨hk, _⟩ := avB_cases h
  omega

set_option maxHeartbeats 1000000 in
theorem SystemValid_is (v : Value) (L : List AtD) (w : World) (h : RdA w v L) (hL : L.length ≤ 1048576) :
    Calls Tryd.prog 20 #[v] w fun e w' => e = .returned (.bool (syB L)) ∧ Below w.heap.size w w' := by
  obtain ⟨sp, cap, rfl, hc⟩ := h
  obtain ⟨n, hn⟩ : ∃ n, L.length = n := ⟨_, rfl⟩
  have HN := Lib.hid hn
  have HC := Lib.hid hc
  by_cases h6 : n ≤ 40
  · have HR := Lib.hid (show syB L = L.all s1 by simp [syB, hn, h6])
    rw [HR.out]
    clear HR
    rw [hn] at hL ⊢
    clear hn hc
    go_enter Tryd.func20, Tryd.ntmps20
    go_wp2
    go_loopw [10] (fun i wr => ∃ k : Nat, i = .int .i64 k ∧ k ≤ n ∧ Below w.heap.size w wr ∧ ∀ (i : Nat) (x : AtD), i < k → L[i]? = some x → s1 x = true) (fun i _ => n - (intOf i).toNat)
    case atStart => exact ⟨0, rfl, Nat.zero_le _, Below.refl _ _, fun i x h0 => absurd h0 (by omega)⟩
    case round =>
      obtain ⟨k, rfl, hk, hbw, hall⟩ := hrel
      have HA := Lib.hid hall
      have HB := Lib.hid hbw
      clear hall
      by_cases hlt : k < n
      · have hk' : (k : Int) < (n : Int) := by omega
        obtain ⟨y, hy⟩ : ∃ y, L[k]? = some y := ⟨_, List.getElem?_eq_getElem (by rw [HN.out]; exact hlt)⟩
        have HY := Lib.hid hy
        obtain ⟨b, rfl, hbl, hcell⟩ := HC.out.resolve_left (by rw [HN.out]; omega)
        have f : ∀ o, wr.cell? ⟨b, o, none⟩ = w.cell? ⟨b, o, none⟩ := fun o => hbw.cell (p := ⟨b, o, none⟩) hbl
        have r1 : ARow wr b (k * 7) y := by have := hcell k y hy; simpa only [ARow, f] using this
        obtain ⟨c0, c1, c2, c3, c4, c5, c6⟩ := r1
        clear hcell f hy hbw
        obtain ⟨t, ht⟩ : ∃ t, avF y = t := ⟨_, rfl⟩
        have HT := Lib.hid ht
        clear ht
        go_wp2_with fail
        generalize hW : World.alloc _ _ = W
        have hx : C7 W wr.heap.size y.k y.m y.a y.b y.c y.d y.n := by subst hW; exact (by refine ⟨?_, ?_, ?_, ?_, ?_, ?_, ?_, ?_⟩ <;> first | (simp [go_sem]; done) | (simp; omega))
        have hw : Below wr.heap.size wr W := by subst hW; go_grown
        clear hW c0 c1 c2 c3 c4 c5 c6
        refine (AtomValid_is _ _ _ _ _ _ _ t _ HT.out).mono ?_
        rintro e w2 ⟨rfl, hb2⟩
        obtain ⟨x0, c0, c1, c2, c3, c4, c5, c6⟩ := c7_on hx hb2
        have HB2 := Lib.hid (below_on HB.out (below_on hw hb2))
        clear x0 c1 c2 c3 c4 c5 c6 hx hw hb2
        cases t with
        | false =>
          go_wp2
          go_ret
          exact ⟨by rw [pall_at HY.out (s1_off HT.out)]; rfl, HB2.out⟩
        | true =>
          have HS := Lib.hid (s1_on HT.out)
          rcases h0 : (y.k == 0) with _ | _
          · have n0 : (y.k != 0) = true := by simp [bne, h0]
            rcases h1 : (y.k == 1) with _ | _
            · have n1 : (y.k != 1) = true := by simp [bne, h1]
              have HF := Lib.hid (show s1 y = false by rw [HS.out, h0, h1]; rfl)
              go_wp2
              go_ret
              exact ⟨by rw [pall_at HY.out HF.out]; rfl, HB2.out⟩
            · have n1 : (y.k != 1) = false := by simp [bne, h1]
              have HF := Lib.hid (show s1 y = true by rw [HS.out, h0, h1]; rfl)
              go_wp2
              go_roundw
              case rel => exact ⟨k + 1, by go_num, by omega, HB2.out, pall_next HY.out HF.out HA.out⟩
              case measure => simp [intOf]; omega
          · have n0 : (y.k != 0) = false := by simp [bne, h0]
            have HF := Lib.hid (show s1 y = true by rw [HS.out, h0]; rfl)
            go_wp2
            go_roundw
            case rel => exact ⟨k + 1, by go_num, by omega, HB2.out, pall_next HY.out HF.out HA.out⟩
            case measure => simp [intOf]; omega
      · have hk' : ¬ (k : Int) < (n : Int) := by omega
        obtain rfl : k = n := by omega
        go_wp2
        go_ret
        exact ⟨by rw [pall_of (fun i x h1 h2 => HA.out i x (by rw [← HN.out]; exact h1) h2)]; rfl, hbw⟩
  · have HR := Lib.hid (show syB L = false by simp [syB, hn, h6])
    rw [HR.out]
    clear HR
    rw [hn] at hL ⊢
    have h6' : (40 : Int) < n := by omega
    go_enter Tryd.func20, Tryd.ntmps20
    go_wp2
    go_ret
    exact ⟨rfl, Below.refl _ _⟩

set_option maxHeartbeats 1000000 in
theorem specSystemValid_is (v : Value) (L : List AtD) (w : World) (h : RdA w v L) (hL : L.length ≤ 1048576) :
    Calls Tryd.prog 31 #[v] w fun e w' => e = .returned (.bool (syB L)) ∧ Below w.heap.size w w' := by
  obtain ⟨sp, cap, rfl, hc⟩ := h
  obtain ⟨n, hn⟩ : ∃ n, L.length = n := ⟨_, rfl⟩
  have HN := Lib.hid hn
  have HC := Lib.hid hc
  rw [hn] at hL ⊢
  clear hn hc
  go_enter Tryd.func31, Tryd.ntmps31
  go_wp2
  go_loopw [3] (fun i wr => ∃ k : Nat, i = .int .i64 k ∧ k ≤ n ∧ Below w.heap.size w wr ∧ ∀ (i : Nat) (x : AtD), i < k → L[i]? = some x → s1 x = true) (fun i _ => n - (intOf i).toNat)
  case atStart => exact ⟨0, rfl, Nat.zero_le _, Below.refl _ _, fun i x h0 => absurd h0 (by omega)⟩
  case round =>
    obtain ⟨k, rfl, hk, hbw, hall⟩ := hrel
    have HA := Lib.hid hall
    have HB := Lib.hid hbw
    clear hall
    by_cases hlt : k < n
    · have hk' : (k : Int) < (n : Int) := by omega
      obtain ⟨y, hy⟩ : ∃ y, L[k]? = some y := ⟨_, List.getElem?_eq_getElem (by rw [HN.out]; exact hlt)⟩
      have HY := Lib.hid hy
      obtain ⟨b, rfl, hbl, hcell⟩ := HC.out.resolve_left (by rw [HN.out]; omega)
      have f : ∀ o, wr.cell? ⟨b, o, none⟩ = w.cell? ⟨b, o, none⟩ := fun o => hbw.cell (p := ⟨b, o, none⟩) hbl
      have r1 : ARow wr b (k * 7) y := by have := hcell k y hy; simpa only [ARow, f] using this
      have hbl' := Nat.lt_of_lt_of_le hbl hbw.size
      obtain ⟨c0, c1, c2, c3, c4, c5, c6⟩ := r1
      clear hcell f hy hbw
      obtain ⟨t, ht⟩ : ∃ t, avF y = t := ⟨_, rfl⟩
      have HT := Lib.hid ht
      clear ht
      go_wp2_with fail
      refine (specAtomValid_is _ _ _ _ _ _ _ t _ HT.out).mono ?_
      rintro e w2 ⟨rfl, hb2⟩
      have d0 : w2.cell? ⟨b, k * 7, none⟩ = some (.int .i64 y.k) := ((bcell hb2).1 b _ hbl').trans c0
      have HB2 := Lib.hid (below_on HB.out hb2)
      clear c0 c1 c2 c3 c4 c5 c6 hb2
      cases t with
      | false =>
        go_wp2
        go_ret
        exact ⟨by simp [syB, pall_at HY.out (s1_off HT.out)], HB2.out⟩
      | true =>
        obtain ⟨k0, k1⟩ := av_kind HT.out
        have HS := Lib.hid (s1_on HT.out)
        by_cases h1 : y.k ≤ 1
        · have g1 : ¬ (1 : Int) < y.k := by omega
          have HF := Lib.hid (show s1 y = true by rw [HS.out]; have : y.k = 0 ∨ y.k = 1 := by omega
                                                  rcases this with e | e <;> rw [e] <;> rfl)
          go_wp2
          go_roundw
          case rel => exact ⟨k + 1, by go_num, by omega, HB2.out, pall_next HY.out HF.out HA.out⟩
          case measure => simp [intOf]; omega
        · have g1 : (1 : Int) < y.k := by omega
          have HF := Lib.hid (show s1 y = false by rw [HS.out, beq_false_of_ne (by omega), beq_false_of_ne (by omega)]; rfl)
          go_wp2
          go_ret
          exact ⟨by simp [syB, pall_at HY.out HF.out], HB2.out⟩
    · have hk' : ¬ (k : Int) < (n : Int) := by omega
      obtain rfl : k = n := by omega
      have HR := Lib.hid (show syB L = decide ((k : Int) ≤ 40) from by
        rw [syB, pall_of (fun i x h1 h2 => HA.out i x (by rw [← HN.out]; exact h1) h2), HN.out, Bool.true_and]
        by_cases g : k ≤ 40
        · rw [decide_eq_true g, decide_eq_true (by omega)]
        · rw [decide_eq_false g, decide_eq_false (by omega)])
      go_wp2
      go_ret
      exact ⟨by rw [HR.out]; rfl, hbw⟩

end Go.Proofs.YtjgmoledhkikcaaDoor
