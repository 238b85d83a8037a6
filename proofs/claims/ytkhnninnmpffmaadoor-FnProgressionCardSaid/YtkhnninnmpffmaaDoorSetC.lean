/- The model's shortest repetition and normal form. -/
import Derived.Test.YtkhnninnmpffmaaDoorSetB
namespace Go.Proofs.YtkhnninnmpffmaaDoor
open Go.RowKit

/-- What the shortest repetition is. -/
def IsLs (l : List UInt8) (d : Nat) : Prop := 0 < d ∧ d ∣ l.length ∧ l.drop d = l.take (l.length - d) ∧ ∀ e, 0 < e → e < d → ¬ (e ∣ l.length ∧ l.drop e = l.take (l.length - e))

set_option maxHeartbeats 1000000 in
theorem l7Least_any (l : List UInt8) (w : World) (hl0 : l ≠ []) (hl : l.length ≤ 1000000000) :
    Calls Tryd.prog 35 #[.string (bs l)] w fun e w' => (∃ d, e = .returned (.string (bs (l.take d))) ∧ IsLs l d) ∧ Below w.heap.size w w' := by
  have hs := bs_size l
  have hlist := bs_list
  have hl1 : 0 < l.length := List.length_pos_iff.2 hl0
  obtain ⟨L, hL⟩ : ∃ L, l.length = L := ⟨_, rfl⟩
  have HL := Lib.hid hL
  have HB := Lib.hid (Below.refl w.heap.size w)
  rw [hL] at hs hl hl1
  clear hL
  go_enter Tryd.func35, Tryd.ntmps35
  go_wp2
  go_loopw [3] (fun i wr => ∃ k : Nat, i = .int .i64 k ∧ 1 ≤ k ∧ k ≤ L ∧ Below w.heap.size w wr ∧ ∀ e, 0 < e → e < k → ¬ (e ∣ L ∧ l.drop e = l.take (L - e))) (fun i _ => L - (intOf i).toNat)
  case atStart => exact ⟨1, rfl, Nat.le_refl _, hl1, HB.out, fun e h0 h1 => absurd h1 (by omega)⟩
  case round =>
    obtain ⟨k, rfl, hk0, hk, hb, hall⟩ := hrel
    have HA := Lib.hid hall
    have HB' := Lib.hid hb
    clear hall hb
    by_cases hlt : k < L
    · have hk' : (k : Int) < (L : Int) := by omega
      have hm : (L : Int).tmod (k : Int) = ((L % k : Nat) : Int) := by rw [Int.tmod_eq_emod_of_nonneg (by omega)]; omega
      have hk1 : (k : Int) ≠ 0 := by omega
      have hwk : IntKind.i64.wrap ((k : Int) + 1) = ((k + 1 : Nat) : Int) := by rw [IntKind.wrap_i64]; omega
      by_cases hd : L % k = 0
      · rw [hd] at hm
        have HD := Lib.hid (Nat.dvd_of_mod_eq_zero hd)
        obtain ⟨x, hx⟩ : ∃ x, l.drop k = x := ⟨_, rfl⟩
        obtain ⟨y, hy⟩ : ∃ y, l.take (L - k) = y := ⟨_, rfl⟩
        obtain ⟨z, hz⟩ : ∃ z, l.take k = z := ⟨_, rfl⟩
        have h1 := run_from (P := Tryd.prog) Tryd.underlying9 (l := l) (k := k) (by rw [HL.out]; omega) hx .i64
        have h2 := run_upto (P := Tryd.prog) Tryd.underlying9 (l := l) (k := L - k) (by rw [HL.out]; omega) hy .i64
        have h3 := run_upto (P := Tryd.prog) Tryd.underlying9 (l := l) (k := k) (by rw [HL.out]; omega) hz .i64
        have hw : IntKind.i64.wrap ((L : Int) - (k : Int)) = ((L - k : Nat) : Int) := by rw [IntKind.wrap_i64]; omega
        have HX := Lib.hid hx
        have HY := Lib.hid hy
        have HZ := Lib.hid hz
        clear hx hy hz hd
        cases hq : x == y with
        | true =>
          have HQ : Hid (x = y) := Lib.hid (by simpa using hq)
          go_wp2
          go_region
          go_wp2
          go_ret
          refine ⟨⟨k, by rw [HZ.out]; rfl, by omega, by rw [HL.out]; exact HD.out, by rw [HL.out, HX.out, HY.out]; exact HQ.out, fun e h0 h1 => by rw [HL.out]; exact HA.out e h0 h1⟩, ?_⟩
          exact below_on HB'.out (by go_grown)
        | false =>
          have HQ : Hid (¬ x = y) := Lib.hid (by simpa using hq)
          have HN : Hid (∀ e, 0 < e → e < k + 1 → ¬ (e ∣ L ∧ l.drop e = l.take (L - e))) := Lib.hid fun e h0 h1 => by
            by_cases he : e = k
            · subst he
              rw [HX.out, HY.out]
              exact fun h => HQ.out h.2
            · exact HA.out e h0 (by omega)
          go_wp2
          go_region
          go_wp2
          go_roundw
          case rel => exact ⟨k + 1, rfl, by omega, by omega, below_on HB'.out (by go_grown), HN.out⟩
          case measure => simp [intOf]; omega
      · obtain ⟨r, hr⟩ : ∃ r, L % k = r := ⟨_, rfl⟩
        have hq : ((r : Int) == 0) = false := by rw [beq_eq_false_iff_ne]; omega
        rw [hr] at hm
        have HN : Hid (∀ e, 0 < e → e < k + 1 → ¬ (e ∣ L ∧ l.drop e = l.take (L - e))) := Lib.hid fun e h0 h1 => by
          by_cases he : e = k
          · subst he
            exact fun h => hd (Nat.mod_eq_zero_of_dvd h.1)
          · exact HA.out e h0 (by omega)
        clear hd hr
        go_wp2
        go_region
        go_wp2
        go_roundw
        case rel => exact ⟨k + 1, rfl, by omega, by omega, below_on HB'.out (by go_grown), HN.out⟩
        case measure => simp [intOf]; omega
    · have hk' : ¬ (k : Int) < (L : Int) := by omega
      obtain rfl : k = L := by omega
      go_wp2
      go_ret
      refine ⟨⟨k, by rw [← HL.out, List.take_length]; rfl, by omega, by rw [HL.out]; exact Nat.dvd_refl _, by rw [HL.out, Nat.sub_self, List.take_zero, ← HL.out, List.drop_length], fun e h0 h1 => by rw [HL.out]; exact HA.out e h0 h1⟩, HB'.out⟩
end Go.Proofs.YtkhnninnmpffmaaDoor
