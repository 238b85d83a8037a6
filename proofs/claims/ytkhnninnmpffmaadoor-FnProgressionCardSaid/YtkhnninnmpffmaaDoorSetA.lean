/- The model's small functions of chapter 7: bits, validity, what is in a set. -/
import Derived.Test.YtkhnninnmpffmaaDoorStA
import Derived.Test.YtkhnninnmpffmaaDoorSetR
import Derived.Test.YtkhnninnmpffmaaDoorSpecB
namespace Go.Proofs.YtkhnninnmpffmaaDoor
open Go.RowKit

/-- Slice expressions on strings, as facts to lay ahead of the walk. -/
theorem run_from {P : Program} {t : TypeId} (ht : P.underlying t = some .string) {l x : List UInt8} {k : Nat} (hk : k ≤ l.length) (hx : l.drop k = x) (kk : IntKind) (w : World) :
    (Instr.slice t (.string (bs l)) (some (.int kk k)) none none).run P w = .ok (.string (bs x)) w := by
  have hs := bs_size l
  rw [run_slice_string_l w t (bs l) ht kk k (by omega) (by omega), bs_ext, ← hx, hs, Int.toNat_natCast, List.take_of_length_le (by simp)]
theorem run_upto {P : Program} {t : TypeId} (ht : P.underlying t = some .string) {l x : List UInt8} {k : Nat} (hk : k ≤ l.length) (hx : l.take k = x) (kk : IntKind) (w : World) :
    (Instr.slice t (.string (bs l)) none (some (.int kk k)) none).run P w = .ok (.string (bs x)) w := by
  have hs := bs_size l
  rw [run_slice_string_h w t (bs l) ht kk k (by omega) (by omega), bs_ext, ← hx, Int.toNat_natCast, List.drop_zero, Nat.sub_zero]
theorem run_part {P : Program} {t : TypeId} (ht : P.underlying t = some .string) {l x : List UInt8} {i j : Nat} (hij : i ≤ j) (hj : j ≤ l.length) (hx : (l.drop i).take (j - i) = x) (k1 k2 : IntKind) (w : World) :
    (Instr.slice t (.string (bs l)) (some (.int k1 i)) (some (.int k2 j)) none).run P w = .ok (.string (bs x)) w := by
  have hs := bs_size l
  rw [run_slice_string w t (bs l) k1 k2 i j ht (by omega) (by omega) (by omega), bs_ext, ← hx, Int.toNat_natCast, Int.toNat_natCast]

theorem bit_at {l : List UInt8} {k : Nat} {x : UInt8} (h : l[k]? = some x) (h0 : ¬ (x = 48 ∨ x = 49)) : bitL l = false := by
  cases hb : bitL l with
  | false => rfl
  | true => exact absurd (bitL_iff.1 hb x (List.mem_of_getElem? h)) h0
theorem bit_of {l : List UInt8} (h : ∀ (i : Nat) (x : UInt8), i < l.length → l[i]? = some x → x = 48 ∨ x = 49) : bitL l = true := by
  rw [bitL_iff]
  intro x hx
  obtain ⟨i, hi, e⟩ := List.mem_iff_getElem.1 hx
  exact h i x hi (by rw [List.getElem?_eq_getElem hi, e])

set_option maxHeartbeats 1000000 in
theorem l7Bits_any (l : List UInt8) (a b : Int) (w : World) (hl : l.length ≤ 1000000000) :
    Calls Tryd.prog 36 #[.string (bs l), .int .i64 a, .int .i64 b] w fun e w' => e = .returned (.bool (bitL l && inB l.length a b)) ∧ w = w' := by
  have hsz := bs_size l
  obtain ⟨n, hn⟩ : ∃ n, l.length = n := ⟨_, rfl⟩
  have HN := Lib.hid hn
  rw [hn] at hsz hl
  rw [hn]
  clear hn
  go_enter Tryd.func36, Tryd.ntmps36
  go_wp2
  go_loopw [7] (fun i wr => ∃ k : Nat, i = .int .i64 k ∧ k ≤ n ∧ wr = w ∧ ∀ (i : Nat) (x : UInt8), i < k → l[i]? = some x → x = 48 ∨ x = 49) (fun i _ => n - (intOf i).toNat)
  case atStart => exact ⟨0, rfl, Nat.zero_le _, rfl, fun i x h0 => absurd h0 (by omega)⟩
  case round =>
    obtain ⟨k, rfl, hk, rfl, hall⟩ := hrel
    have HA := Lib.hid hall
    clear hall
    by_cases hlt : k < n
    · have hk' : (k : Int) < (n : Int) := by omega
      obtain ⟨x, hx⟩ : ∃ x, l[k]? = some x := ⟨_, List.getElem?_eq_getElem (by rw [HN.out]; exact hlt)⟩
      have hix := fun w => run_at (P := Tryd.prog) Tryd.underlying9 hx .i64 w
      obtain ⟨q, hq⟩ : ∃ q : Int, (x.toNat : Int) = q := ⟨_, rfl⟩
      have e48 : (q != 48) = (x != 48) := by rw [← hq]; exact u8_ne x 48
      have e49 : (q != 49) = (x != 49) := by rw [← hq]; exact u8_ne x 49
      rw [hq] at hix
      have HX := Lib.hid hx
      clear hq hx
      have next : Hid ((x = 48 ∨ x = 49) → ∀ (i : Nat) (y : UInt8), i < k + 1 → l[i]? = some y → y = 48 ∨ y = 49) := Lib.hid fun hb i y hi hy => by
        by_cases e : i = k
        · subst e
          rw [HX.out] at hy
          obtain rfl := Option.some.inj hy
          exact hb
        · exact HA.out i y (by omega) hy
      cases h0 : x != 48 with
      | false =>
        rw [h0] at e48
        have hx48 : x = 48 := by simpa using h0
        have NX := Lib.hid (next.out (.inl hx48))
        clear h0 hx48 e49
        go_wp2
        go_roundw
        case rel => exact ⟨k + 1, by go_num, by omega, trivial, NX.out⟩
        case measure => simp [intOf]; omega
      | true =>
        rw [h0] at e48
        cases h1 : x != 49 with
        | false =>
          rw [h1] at e49
          have hx49 : x = 49 := by simpa using h1
          have NX := Lib.hid (next.out (.inr hx49))
          clear h0 h1 hx49
          go_wp2
          go_roundw
          case rel => exact ⟨k + 1, by go_num, by omega, trivial, NX.out⟩
          case measure => simp [intOf]; omega
        | true =>
          rw [h1] at e49
          have HF := Lib.hid (show bitL l = false from bit_at HX.out (by simp at h0 h1; simp [h0, h1]))
          clear h0 h1
          go_wp2
          go_ret
          exact ⟨ret_bool (by rw [HF.out]; rfl), rfl⟩
    · have hk' : ¬ (k : Int) < (n : Int) := by omega
      obtain rfl : k = n := by omega
      have HF := Lib.hid (show bitL l = true from bit_of fun i x hi => HA.out i x (by rw [← HN.out]; exact hi))
      go_wp2_with (go_at_call 15; refine (l1In_any _ _ _ _).mono ?_; rintro e w' ⟨rfl, rfl⟩)
      go_ret
      exact ⟨ret_bool (by rw [HF.out]; rfl), rfl⟩

set_option maxHeartbeats 1000000 in
theorem specSetValid_any (h l : List UInt8) (w : World) (hh : h.length ≤ 1000000000) (hl : l.length ≤ 1000000000) :
    Calls Tryd.prog 27 #[.agg #[.string (bs h), .string (bs l)]] w fun e w' => e = .returned (.bool (svS h l)) ∧ w.alloc (.cells #[.string (bs h), .string (bs l)] 26) = w' := by
  have H1 := Lib.hid fun w => l7Bits_any h 0 400 w hh
  have H2 := Lib.hid fun w => l7Bits_any l 1 240 w hl
  have e1 : Hid (inB h.length 0 400 = decide (h.length ≤ 400)) := Lib.hid (by unfold inB; rw [decide_eq_decide]; omega)
  have e2 : Hid (inB l.length 1 240 = decide (1 ≤ l.length ∧ l.length ≤ 240)) := Lib.hid (by unfold inB; rw [decide_eq_decide]; omega)
  have HS : Hid (svS h l = ((bitL h && inB h.length 0 400) && (bitL l && inB l.length 1 240))) := Lib.hid (by unfold svS; rw [e1.out, e2.out])
  obtain ⟨p, hp⟩ : ∃ p, (bitL h && inB h.length 0 400) = p := ⟨_, rfl⟩
  obtain ⟨q, hq⟩ : ∃ q, (bitL l && inB l.length 1 240) = q := ⟨_, rfl⟩
  rw [hp] at H1 HS
  rw [hq] at H2 HS
  clear hp hq e1 e2 hh hl
  rw [HS.out]
  go_enter Tryd.func27, Tryd.ntmps27
  cases p
  · go_wp2_with (go_at_call 36; refine (H1.out _).mono ?_; rintro e w' ⟨rfl, rfl⟩)
    go_ret
    exact ⟨rfl, rfl⟩
  · go_wp2_with fail
    refine (H1.out _).mono ?_
    rintro e w' ⟨rfl, rfl⟩
    go_wp2_with fail
    refine (H2.out _).mono ?_
    rintro e w' ⟨rfl, rfl⟩
    go_wp2
    all_goals (go_ret; exact ⟨rfl, rfl⟩)

end Go.Proofs.YtkhnninnmpffmaaDoor
