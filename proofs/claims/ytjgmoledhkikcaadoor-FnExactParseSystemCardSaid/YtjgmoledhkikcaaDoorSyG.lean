/- FormatSystem, of the program and of the model. -/
import Derived.Test.YtjgmoledhkikcaaDoorSyF
namespace Go.Proofs.YtjgmoledhkikcaaDoor
open Go.RowKit

theorem fsy_off {L : List AtD} (h : syB L = false) : fsyT L = [] := by unfold fsyT; rw [if_neg (by rw [h]; decide)]
theorem fsy_nil {L : List AtD} (h : syB L = true) (h0 : L = []) : fsyT L = [45] := by unfold fsyT; rw [if_pos h, if_pos h0]
theorem fsy_on {L : List AtD} (h : syB L = true) (h0 : L ≠ []) : fsyT L = jnT L := by unfold fsyT; rw [if_pos h, if_neg h0]
theorem rt_str {a b : List UInt8} (h : a = b) : Ending.returned (.string (bs a)) = .returned (.string (bs b)) := by rw [h]

def FsyR (L : List AtD) (n : Nat) (w : World) (v i : Value) (wr : World) : Prop :=
  ∃ k : Nat, i = .int .i64 k ∧ k ≤ n ∧ v = .string (bs (jnT (L.take k))) ∧ Below w.heap.size w wr

set_option maxHeartbeats 2000000 in
theorem specFormatSystem_any (u : Value) (L : List AtD) (w : World) (h : RdA w u L) (hL : L.length ≤ 1048576) :
    Calls Tryd.prog 17 #[u] w fun e w' => e = .returned (.string (bs (fsyT L))) ∧ Below w.heap.size w w' := by
  have HS := Lib.hid (specSystemValid_is u L w h hL)
  have h45 : ({ data := #[45] } : ByteArray) = bs [45] := rfl
  have h32 : ({ data := #[32] } : ByteArray) = bs [32] := rfl
  have hb0 : ({ data := #[] } : ByteArray) = bs [] := rfl
  have hl0 := bs_list
  have happ := bs_app
  have hsz := bs_size
  obtain ⟨sp, cap, rfl, hc⟩ := h
  obtain ⟨n, hn⟩ : ∃ n, L.length = n := ⟨_, rfl⟩
  have HN := Lib.hid hn
  have HC := Lib.hid hc
  rw [hn] at hL HS ⊢
  clear hn hc
  cases hs : syB L with
  | false =>
    have HF := Lib.hid (fsy_off hs)
    rw [hs] at HS
    clear hs
    go_enter Tryd.func17, Tryd.ntmps17
    go_wp2_with fail
    refine HS.out.mono ?_
    rintro e w1 ⟨rfl, hb1⟩
    go_wp2
    go_ret
    exact ⟨rt_str HF.out.symm, hb1⟩
  | true =>
    have hlen := sy_len hs
    have HAV := Lib.hid (sy_av hs)
    have HSY := Lib.hid hs
    rw [hs] at HS
    clear hs
    go_enter Tryd.func17, Tryd.ntmps17
    go_wp2_with fail
    refine HS.out.mono ?_
    rintro e w1 ⟨rfl, hb1⟩
    have HST := Lib.hid (show FsyR L n w (.string (bs [])) (.int .i64 0) w1 from ⟨0, rfl, Nat.zero_le _, rfl, hb1⟩)
    clear hb1
    go_wp2_with fail
    go_loopw [3, 4] (fun v i wr => FsyR L n w v i wr) (fun _ i _ => n - (intOf i).toNat)
    case atStart => exact HST.out
    case round =>
      obtain ⟨k, rfl, hk, rfl, hbw⟩ := hrel
      clear HST
      have HB := Lib.hid hbw
      by_cases hlt : k < n
      · have hk' : (k : Int) < (n : Int) := by omega
        obtain ⟨y, hy⟩ : ∃ y, L[k]? = some y := ⟨_, List.getElem?_eq_getElem (by rw [HN.out]; exact hlt)⟩
        obtain ⟨b, rfl, hbl, hcell⟩ := HC.out.resolve_left (by rw [HN.out]; omega)
        have f : ∀ o, wr.cell? ⟨b, o, none⟩ = w.cell? ⟨b, o, none⟩ := fun o => hbw.cell (p := ⟨b, o, none⟩) hbl
        have r1 : ARow wr b (k * 7) y := by have := hcell k y hy; simpa only [ARow, f] using this
        obtain ⟨c0, c1, c2, c3, c4, c5, c6⟩ := r1
        have HF := Lib.hid (fun W => specFormatAtom_any y.k y.m y.a y.b y.c y.d y.n W)
        obtain ⟨T, hT⟩ : ∃ T, taX y = T := ⟨_, rfl⟩
        rw [show taL y.k y.m y.a y.b y.c y.d y.n = T from hT] at HF
        have hTl : T.length ≤ 140 := by rw [← hT]; exact ta_len y
        obtain ⟨P, hP⟩ : ∃ P, jnT (L.take k) = P := ⟨_, rfl⟩
        have hPl : P.length ≤ 10000 := by have := jnT_len (L.take k); rw [hP, List.length_take] at this; omega
        rw [hP]
        by_cases h0 : k = 0
        · subst h0
          have hPn : P = [] := by rw [← hP]; rfl
          subst hPn
          have HX := Lib.hid (show jnT (L.take (0 + 1)) = T by rw [← hT]; exact jnT_one hy)
          clear hcell f hy hbw hT hP
          go_wp2_with fail
          refine (HF.out _).mono ?_
          rintro e w3 ⟨rfl, hb3⟩
          have HB3 := Lib.hid (below_on HB.out hb3)
          clear c0 c1 c2 c3 c4 c5 c6 hb3
          go_wp2
          go_roundw
          case rel => exact ⟨0 + 1, by go_num, by omega, by rw [HX.out], HB3.out⟩
          case measure => simp [intOf]; omega
        · have hk0 : (0 : Int) < (k : Int) := by omega
          have HX := Lib.hid (show jnT (L.take (k + 1)) = P ++ 32 :: T by rw [jnT_snoc hy (by omega), hP, hT])
          clear hcell f hy hbw hT hP
          go_wp2_with fail
          refine (HF.out _).mono ?_
          rintro e w3 ⟨rfl, hb3⟩
          have HB3 := Lib.hid (below_on HB.out hb3)
          clear c0 c1 c2 c3 c4 c5 c6 hb3
          go_wp2
          go_roundw
          case rel => exact ⟨k + 1, by go_num, by omega, by rw [HX.out], HB3.out⟩
          case measure => simp [intOf]; omega
      · have hk' : ¬ (k : Int) < (n : Int) := by omega
        obtain rfl : k = n := by omega
        rw [show L.take k = L from List.take_of_length_le (by rw [HN.out]; exact Nat.le_refl _)]
        by_cases h0 : L = []
        · have HF := Lib.hid (fsy_nil HSY.out h0)
          have hj : jnT L = [] := by rw [h0]; rfl
          rw [hj]
          clear h0
          go_wp2
          go_ret
          exact ⟨rt_str HF.out.symm, hbw⟩
        · have HF := Lib.hid (fsy_on HSY.out h0)
          have hjn := jnT_ne h0 HAV.out
          obtain ⟨P, hP⟩ : ∃ P, jnT L = P := ⟨_, rfl⟩
          rw [hP] at HF hjn ⊢
          have hPe : P.isEmpty = false := by cases P with
            | nil => exact absurd rfl hjn
            | cons _ _ => rfl
          clear hjn hP
          go_wp2
          go_ret
          exact ⟨rt_str HF.out.symm, hbw⟩

end Go.Proofs.YtjgmoledhkikcaaDoor
