/- Systems without equations: isSplit with its closure, l9Most; ExactVar of both. -/
import Derived.Test.YtaiajdeognnndaaSyA
import Derived.Test.YtaiajdeognnndaaImplV
namespace Go.Proofs.Ytaiajdeognnndaa
open Go.RowKit

def BlT (b : Bool) (w : World) (e : Ending) (w' : World) : Prop := e = .returned (.bool b) ∧ Below w.heap.size w w'
def IxT (b : Bool) (w : World) (e : Ending) (w' : World) : Prop := ∃ r : Int, e = .returned (.int .i64 r) ∧ decide (r ≥ 0) = b ∧ Below w.heap.size w w'
def isM (x : AtD) : Bool := x.k == 0
theorem spB_alt (L : List AtD) : spB L = (L.all isM && syB L) := by
  unfold spB
  cases h : syB L with
  | false => simp
  | true =>
    have hs : L.all s1 = true := by unfold syB at h; rw [Bool.and_eq_true] at h; exact h.1
    rw [Bool.true_and, Bool.and_true]
    have e : ∀ x ∈ L, notEq x = isM x := fun x hx => by
      have := List.all_eq_true.1 hs x hx
      unfold s1 at this
      rw [Bool.and_eq_true, Bool.or_eq_true, beq_iff_eq, beq_iff_eq] at this
      rcases this.2 with g | g <;> simp [notEq, isM, g]
    cases h2 : L.all isM with
    | true =>
      rw [List.all_eq_true] at h2 ⊢
      exact fun x hx => by rw [e x hx]; exact h2 x hx
    | false =>
      rw [List.all_eq_false] at h2 ⊢
      obtain ⟨x, hx, g⟩ := h2
      exact ⟨x, hx, by rw [e x hx]; exact g⟩
theorem sp_av {L : List AtD} (h : spB L = true) : ∀ x ∈ L, avF x = true := fun x hx => by
  unfold spB syB at h
  simp only [Bool.and_eq_true] at h
  exact s1_av (List.all_eq_true.1 h.1.1 x hx)
theorem sp_len {L : List AtD} (h : spB L = true) : L.length ≤ 40 := by
  unfold spB syB at h
  simp only [Bool.and_eq_true, decide_eq_true_eq] at h
  exact h.1.2

set_option maxHeartbeats 400000 in
theorem spClo_any (x : AtD) (w : World) :
    Calls Try.prog 56 #[.agg #[.int .i64 x.k, .int .i64 x.m, .int .i64 x.a, .int .i64 x.b, .int .i64 x.c, .int .i64 x.d, .int .i64 x.n]] w (BlT (!notEq x) w) := by
  have HF := Lib.hid (show (!notEq x) = (x.k == 1) by unfold notEq; simp)
  rw [HF.out]
  clear HF
  go_enter Try.func56, Try.ntmps56
  go_wp2
  go_ret
  exact ⟨rfl, by go_grown⟩

set_option maxHeartbeats 1000000 in
theorem spIdx_any (u : Value) (L : List AtD) (w : World) (h : RdA w u L) (hlen : L.length ≤ 1000) :
    Calls Try.prog 75 #[u, .func (.func 56) #[] #[]] w (IxT (!L.all notEq) w) := by
  obtain ⟨sp, cap, rfl, hc⟩ := h
  obtain ⟨N, hN⟩ : ∃ N, L.length = N := ⟨_, rfl⟩
  have HN := Lib.hid hN
  have HCL := Lib.hid hc
  rw [hN] at hlen ⊢
  clear hN hc
  go_enter Try.func75, Try.ntmps75
  go_wp2
  go_loopw [8] (fun i wr => ∃ k : Nat, i = .int .i64 k ∧ k ≤ N ∧ Below w.heap.size w wr ∧ ∀ (i : Nat) (x : AtD), i < k → L[i]? = some x → notEq x = true) (fun i _ => N - (intOf i).toNat)
  case atStart => exact ⟨0, rfl, Nat.zero_le _, Below.refl _ _, fun i x h0 => absurd h0 (by omega)⟩
  case round =>
    obtain ⟨k, rfl, hk, hbw, hall⟩ := hrel
    have HA := Lib.hid hall
    have HB := Lib.hid hbw
    clear hall
    by_cases hlt : k < N
    · have hk' : (k : Int) < (N : Int) := by omega
      obtain ⟨y, hy⟩ : ∃ y, L[k]? = some y := ⟨_, List.getElem?_eq_getElem (by rw [HN.out]; exact hlt)⟩
      have HY := Lib.hid hy
      obtain ⟨b, rfl, hbl, hcell⟩ := HCL.out.resolve_left (by rw [HN.out]; omega)
      have f : ∀ o, wr.cell? ⟨b, o, none⟩ = w.cell? ⟨b, o, none⟩ := fun o => hbw.cell (p := ⟨b, o, none⟩) hbl
      have r1 : ARow wr b (k * 7) y := by have := hcell k y hy; simpa only [ARow, f] using this
      obtain ⟨c0, c1, c2, c3, c4, c5, c6⟩ := r1
      obtain ⟨t, ht⟩ : ∃ t, notEq y = t := ⟨_, rfl⟩
      have HT := Lib.hid ht
      have HC := Lib.hid (fun W => spClo_any y W)
      rw [ht] at HC
      clear hcell f hy hbw ht
      go_wp2_with fail
      refine (HC.out _).mono ?_
      rintro e w2 ⟨rfl, hb2⟩
      have HB2 := Lib.hid (below_on HB.out (below_on (w := wr) (by go_grown) hb2))
      clear c0 c1 c2 c3 c4 c5 c6 hb2
      cases t with
      | false =>
        go_wp2
        go_ret
        exact ⟨_, rfl, by rw [pall_at HY.out HT.out]; exact decide_eq_true (by omega), HB2.out⟩
      | true =>
        go_wp2
        go_roundw
        case rel => exact ⟨k + 1, by go_num, by omega, HB2.out, pall_next HY.out HT.out HA.out⟩
        case measure => simp [intOf]; omega
    · have hk' : ¬ (k : Int) < (N : Int) := by omega
      obtain rfl : k = N := by omega
      go_wp2
      go_ret
      exact ⟨_, rfl, by rw [pall_of (fun i x h1 h2 => HA.out i x (by rw [← HN.out]; exact h1) h2)]; rfl, hbw⟩

theorem spCon_any (u : Value) (L : List AtD) (w : World) (h : RdA w u L) (hlen : L.length ≤ 1000) :
    Calls Try.prog 58 #[u, .func (.func 56) #[] #[]] w (BlT (!L.all notEq) w) := by
  have H := Lib.hid (spIdx_any u L w h hlen)
  obtain ⟨sp, cap, rfl, _⟩ := h
  go_enter Try.func58, Try.ntmps58
  go_wp2_with fail
  refine H.out.mono ?_
  rintro e w1 ⟨r, rfl, hr, hb⟩
  go_wp2
  go_ret
  exact ⟨rfl, hb⟩

set_option maxHeartbeats 1000000 in
theorem isSplit_any (u : Value) (L : List AtD) (w : World) (h : RdA w u L) (hL : L.length ≤ 1048576) :
    Calls Try.prog 32 #[u] w (BlT (spB L) w) := by
  have HS := Lib.hid (SystemValid_is u L w h hL)
  have HR := Lib.hid h
  obtain ⟨sp, cap, rfl, _⟩ := h
  go_enter Try.func32, Try.ntmps32
  go_wp2_with fail
  refine HS.out.mono ?_
  rintro e w1 ⟨rfl, hb1⟩
  cases hs : syB L with
  | false =>
    go_wp2
    go_ret
    exact ⟨va_bl (by unfold spB; rw [hs]; rfl), hb1⟩
  | true =>
    have HC := Lib.hid (spCon_any _ L w1 (readsA_on HR.out hb1) (by unfold syB at hs; simp only [Bool.and_eq_true, decide_eq_true_eq] at hs; omega))
    have HSB := Lib.hid hs
    clear hs
    go_wp2_with fail
    refine HC.out.mono ?_
    rintro e w2 ⟨rfl, hb2⟩
    go_wp2
    go_ret
    exact ⟨va_bl (by unfold spB; rw [HSB.out]; simp), below_on hb1 hb2⟩

set_option maxHeartbeats 1000000 in
theorem l9Most_any (u : Value) (v : Int) (L : List AtD) (w : World) (h : RdA w u L) (hL : L.length ≤ 1048576) :
    Calls Try.prog 29 #[u, .int .i64 v] w (BlT (spB L && varB v) w) := by
  have HS := Lib.hid (fun W hW => specSystemValid_is u L W (readsA_on h hW) hL)
  have HV := Lib.hid (fun W => l1Var_is v (varB v) W rfl)
  obtain ⟨sp, cap, rfl, hc⟩ := h
  obtain ⟨n, hn⟩ : ∃ n, L.length = n := ⟨_, rfl⟩
  have HN := Lib.hid hn
  have HC := Lib.hid hc
  rw [hn] at hL HS ⊢
  clear hn hc
  go_enter Try.func29, Try.ntmps29
  go_wp2
  go_loopw [5] (fun i wr => ∃ k : Nat, i = .int .i64 k ∧ k ≤ n ∧ Below w.heap.size w wr ∧ ∀ (i : Nat) (x : AtD), i < k → L[i]? = some x → isM x = true) (fun i _ => n - (intOf i).toNat)
  case atStart => exact ⟨0, rfl, Nat.zero_le _, Below.refl _ _, fun i x h0 => absurd h0 (by omega)⟩
  case round =>
    obtain ⟨k, rfl, hk, hbw, hall⟩ := hrel
    have HA := Lib.hid hall
    have HB := Lib.hid hbw
    clear hall
    by_cases hlt : k < n
    · have hk' : (k : Int) < (n : Int) := by omega
      obtain ⟨y, hy⟩ : ∃ y, L[k]? = some y := ⟨_, List.getElem?_eq_getElem (by rw [HN.out]; exact hlt)⟩
      have HY := Lib.hid hy
      obtain ⟨b, rfl, hbl, hcell⟩ := HC.out.resolve_left (by rw [HN.out]; omega)
      have f : ∀ o, wr.cell? ⟨b, o, none⟩ = w.cell? ⟨b, o, none⟩ := fun o => hbw.cell (p := ⟨b, o, none⟩) hbl
      have r1 : ARow wr b (k * 7) y := by have := hcell k y hy; simpa only [ARow, f] using this
      obtain ⟨c0, c1, c2, c3, c4, c5, c6⟩ := r1
      clear hcell f hy hbw c1 c2 c3 c4 c5 c6
      rcases h0 : (y.k == 0) with _ | _
      · have n0 : (y.k != 0) = true := by simp [bne, h0]
        have HF := Lib.hid (show isM y = false from h0)
        go_wp2
        go_ret
        exact ⟨va_bl (by rw [spB_alt, pall_at HY.out HF.out]; rfl), HB.out⟩
      · have n0 : (y.k != 0) = false := by simp [bne, h0]
        have HF := Lib.hid (show isM y = true from h0)
        go_wp2
        go_roundw
        case rel => exact ⟨k + 1, by go_num, by omega, HB.out, pall_next HY.out HF.out HA.out⟩
        case measure => simp [intOf]; omega
    · have hk' : ¬ (k : Int) < (n : Int) := by omega
      obtain rfl : k = n := by omega
      have HR := Lib.hid (show spB L = syB L by rw [spB_alt, pall_of (fun i x h1 h2 => HA.out i x (by rw [← HN.out]; exact h1) h2)]; rfl)
      go_wp2_with fail
      refine (HS.out _ HB.out).mono ?_
      rintro e w2 ⟨rfl, hb2⟩
      cases hs : syB L with
      | false =>
        go_wp2
        go_ret
        exact ⟨va_bl (by rw [HR.out, hs]; rfl), below_on HB.out hb2⟩
      | true =>
        have HSB := Lib.hid hs
        clear hs
        go_wp2_with fail
        refine (HV.out _).mono ?_
        rintro e w3 ⟨rfl, rfl⟩
        go_wp2
        go_ret
        exact ⟨va_bl (by rw [HR.out, HSB.out]; rfl), below_on HB.out hb2⟩

end Go.Proofs.Ytaiajdeognnndaa
