/- Several texts in one: SetA SetB SetC SetD SetE. -/
import Derived.Test.YtpheihejgnlanaaDoorStA
import Derived.Test.YtpheihejgnlanaaDoorMa7
import Derived.Test.YtpheihejgnlanaaDoorSpecB
import Derived.Lib.SmallJoins

/- The model's small functions of chapter 7: bits, validity, what is in a set. -/
namespace Go.Proofs.YtpheihejgnlanaaDoor
open Go.RowKit

/-- Slice expressions on strings, as facts to lay ahead of the walk. -/
theorem run_from {P : Program} {t : TypeId} (ht : P.underlying t = some .string) {l x : List UInt8} {k : Nat} (hk : k ≤ l.length) (hx : l.drop k = x) (kk : IntKind) (w : World) :
    (Instr.slice t (.string (bs l)) (some (.int kk k)) none none).run P w = .ok (.string (bs x)) w := by
  have hs := bs_size l
  rw [run_slice_string_l w t (bs l) ht kk k (by omega) (by omega), bs_ext, ← hx, hs, Int.toNat_natCast, List.take_of_length_le (by simp)]
theorem run_upto {P : Program} {t : TypeId} (ht : P.underlying t = some .string) {l x : List UInt8} {k : Nat} (hk : k ≤ l.length) (hx : l.take k = x) (kk : IntKind) (w : World) :
    (Instr.slice t (.string (bs l)) none (some (.int kk k)) none).run P w = .ok (.string (bs x)) w := by
  have hs := bs_size l
  rw [run_slice_string_h w t (bs l) ht kk k (by omega) (by omega), bs_ext, ← hx, Int.toNat_natCast, List.drop_zero, Nat.sub_zero]
theorem run_part {P : Program} {t : TypeId} (ht : P.underlying t = some .string) {l x : List UInt8} {i j : Nat} (hij : i ≤ j) (hj : j ≤ l.length) (hx : (l.drop i).take (j - i) = x) (k1 k2 : IntKind) (w : World) :
    (Instr.slice t (.string (bs l)) (some (.int k1 i)) (some (.int k2 j)) none).run P w = .ok (.string (bs x)) w := by
  have hs := bs_size l
  rw [run_slice_string w t (bs l) k1 k2 i j ht (by omega) (by omega) (by omega), bs_ext, ← hx, Int.toNat_natCast, Int.toNat_natCast]

theorem bit_at {l : List UInt8} {k : Nat} {x : UInt8} (h : l[k]? = some x) (h0 : ¬ (x = 48 ∨ x = 49)) : bitL l = false := by
  cases hb : bitL l with
  | false => rfl
  | true => exact absurd (bitL_iff.1 hb x (List.mem_of_getElem? h)) h0
theorem bit_of {l : List UInt8} (h : ∀ (i : Nat) (x : UInt8), i < l.length → l[i]? = some x → x = 48 ∨ x = 49) : bitL l = true := by
  rw [bitL_iff]
  intro x hx
  obtain ⟨i, hi, e⟩ := List.mem_iff_getElem.1 hx
  exact h i x hi (by rw [List.getElem?_eq_getElem hi, e])

set_option maxHeartbeats 1000000 in
theorem l7Bits_any (l : List UInt8) (a b : Int) (w : World) (hl : l.length ≤ 1000000000) :
    Calls Tryd.prog 80 #[.string (bs l), .int .i64 a, .int .i64 b] w fun e w' => e = .returned (.bool (bitL l && inB l.length a b)) ∧ w = w' := by
  have hsz := bs_size l
  obtain ⟨n, hn⟩ : ∃ n, l.length = n := ⟨_, rfl⟩
  have HN := Lib.hid hn
  rw [hn] at hsz hl
  rw [hn]
  clear hn
  go_enter Tryd.func80, Tryd.ntmps80
  go_wp2
  go_loopw [7] (fun i wr => ∃ k : Nat, i = .int .i64 k ∧ k ≤ n ∧ wr = w ∧ ∀ (i : Nat) (x : UInt8), i < k → l[i]? = some x → x = 48 ∨ x = 49) (fun i _ => n - (intOf i).toNat)
  case atStart => exact ⟨0, rfl, Nat.zero_le _, rfl, fun i x h0 => absurd h0 (by omega)⟩
  case round =>
    obtain ⟨k, rfl, hk, rfl, hall⟩ := hrel
    have HA := Lib.hid hall
    clear hall
    by_cases hlt : k < n
    · have hk' : (k : Int) < (n : Int) := by omega
      obtain ⟨x, hx⟩ : ∃ x, l[k]? = some x := ⟨_, List.getElem?_eq_getElem (by rw [HN.out]; exact hlt)⟩
      have hix := fun w => run_at (P := Tryd.prog) Tryd.underlying9 hx .i64 w
      obtain ⟨q, hq⟩ : ∃ q : Int, (x.toNat : Int) = q := ⟨_, rfl⟩
      have e48 : (q != 48) = (x != 48) := by rw [← hq]; exact u8_ne x 48
      have e49 : (q != 49) = (x != 49) := by rw [← hq]; exact u8_ne x 49
      rw [hq] at hix
      have HX := Lib.hid hx
      clear hq hx
      have next : Hid ((x = 48 ∨ x = 49) → ∀ (i : Nat) (y : UInt8), i < k + 1 → l[i]? = some y → y = 48 ∨ y = 49) := Lib.hid fun hb i y hi hy => by
        by_cases e : i = k
        · subst e
          rw [HX.out] at hy
          obtain rfl := Option.some.inj hy
          exact hb
        · exact HA.out i y (by omega) hy
      cases h0 : x != 48 with
      | false =>
        rw [h0] at e48
        have hx48 : x = 48 := by simpa using h0
        have NX := Lib.hid (next.out (.inl hx48))
        clear h0 hx48 e49
        go_wp2
        go_roundw
        case rel => exact ⟨k + 1, by go_num, by omega, trivial, NX.out⟩
        case measure => simp [intOf]; omega
      | true =>
        rw [h0] at e48
        cases h1 : x != 49 with
        | false =>
          rw [h1] at e49
          have hx49 : x = 49 := by simpa using h1
          have NX := Lib.hid (next.out (.inr hx49))
          clear h0 h1 hx49
          go_wp2
          go_roundw
          case rel => exact ⟨k + 1, by go_num, by omega, trivial, NX.out⟩
          case measure => simp [intOf]; omega
        | true =>
          rw [h1] at e49
          have HF := Lib.hid (show bitL l = false from bit_at HX.out (by simp at h0 h1; simp [h0, h1]))
          clear h0 h1
          go_wp2
          go_ret
          exact ⟨ret_bool (by rw [HF.out]; rfl), rfl⟩
    · have hk' : ¬ (k : Int) < (n : Int) := by omega
      obtain rfl : k = n := by omega
      have HF := Lib.hid (show bitL l = true from bit_of fun i x hi => HA.out i x (by rw [← HN.out]; exact hi))
      go_wp2_with (go_at_call 49; refine (l1In_any _ _ _ _).mono ?_; rintro e w' ⟨rfl, rfl⟩)
      go_ret
      exact ⟨ret_bool (by rw [HF.out]; rfl), rfl⟩

set_option maxHeartbeats 1000000 in
theorem specSetValid_any (h l : List UInt8) (w : World) (hh : h.length ≤ 1000000000) (hl : l.length ≤ 1000000000) :
    Calls Tryd.prog 41 #[.agg #[.string (bs h), .string (bs l)]] w fun e w' => e = .returned (.bool (svS h l)) ∧ w.alloc (.cells #[.string (bs h), .string (bs l)] 25) = w' := by
  have H1 := Lib.hid fun w => l7Bits_any h 0 400 w hh
  have H2 := Lib.hid fun w => l7Bits_any l 1 240 w hl
  have e1 : Hid (inB h.length 0 400 = decide (h.length ≤ 400)) := Lib.hid (by unfold inB; rw [decide_eq_decide]; omega)
  have e2 : Hid (inB l.length 1 240 = decide (1 ≤ l.length ∧ l.length ≤ 240)) := Lib.hid (by unfold inB; rw [decide_eq_decide]; omega)
  have HS : Hid (svS h l = ((bitL h && inB h.length 0 400) && (bitL l && inB l.length 1 240))) := Lib.hid (by unfold svS; rw [e1.out, e2.out])
  obtain ⟨p, hp⟩ : ∃ p, (bitL h && inB h.length 0 400) = p := ⟨_, rfl⟩
  obtain ⟨q, hq⟩ : ∃ q, (bitL l && inB l.length 1 240) = q := ⟨_, rfl⟩
  rw [hp] at H1 HS
  rw [hq] at H2 HS
  clear hp hq e1 e2 hh hl
  rw [HS.out]
  go_enter Tryd.func41, Tryd.ntmps41
  cases p
  · go_wp2_with (go_at_call 80; refine (H1.out _).mono ?_; rintro e w' ⟨rfl, rfl⟩)
    go_ret
    exact ⟨rfl, rfl⟩
  · go_wp2_with fail
    refine (H1.out _).mono ?_
    rintro e w' ⟨rfl, rfl⟩
    go_wp2_with fail
    refine (H2.out _).mono ?_
    rintro e w' ⟨rfl, rfl⟩
    go_wp2
    all_goals (go_ret; exact ⟨rfl, rfl⟩)

end Go.Proofs.YtpheihejgnlanaaDoor

/- What is in a set: the model's l7Has and the program's has. -/
namespace Go.Proofs.YtpheihejgnlanaaDoor
open Go.RowKit

set_option maxHeartbeats 1000000 in
theorem l7Has_any (h l : List UInt8) (n : Nat) (w : World) (hl0 : l ≠ []) (hh : h.length ≤ 1000000000) (hl : l.length ≤ 1000000000) (hn : n ≤ 9223372036854775807) :
    Calls Tryd.prog 61 #[.agg #[.string (bs h), .string (bs l)], .int .i64 n] w fun e w' => e = .returned (.bool (inS (atS h l) n)) ∧ Below w.heap.size w w' := by
  have hs1 := bs_size h
  have hs2 := bs_size l
  have hl1 : 0 < l.length := List.length_pos_iff.2 hl0
  by_cases hlt : n < h.length
  · obtain ⟨x, hx⟩ : ∃ x, h[n]? = some x := ⟨_, List.getElem?_eq_getElem hlt⟩
    have hix := fun w => run_at (P := Tryd.prog) Tryd.underlying9 hx .i64 w
    have HF := Lib.hid (show inS (atS h l) n = (x == 49) by unfold inS; rw [at_head hlt, List.getD_eq_getElem?_getD, hx]; rfl)
    obtain ⟨q, hq⟩ : ∃ q : Int, (x.toNat : Int) = q := ⟨_, rfl⟩
    have e49 : (q == 49) = (x == 49) := by rw [← hq]; exact u8_eq x 49
    rw [hq] at hix
    obtain ⟨b, hb⟩ : ∃ b, (x == 49) = b := ⟨_, rfl⟩
    rw [hb] at HF e49
    obtain ⟨H, hH⟩ : ∃ H, h.length = H := ⟨_, rfl⟩
    rw [hH] at hs1 hlt
    have hlt' : (n : Int) < (H : Int) := by omega
    rw [HF.out]
    clear hq hx hb hH hh hl hl0
    go_enter Tryd.func61, Tryd.ntmps61
    go_wp2
    go_ret
    exact ⟨rfl, by go_grown⟩
  · obtain ⟨i, hi⟩ : ∃ i, (n - h.length) % l.length = i := ⟨_, rfl⟩
    have hil : i < l.length := by rw [← hi]; exact Nat.mod_lt _ hl1
    obtain ⟨x, hx⟩ : ∃ x, l[i]? = some x := ⟨_, List.getElem?_eq_getElem hil⟩
    have hix := fun w => run_at (P := Tryd.prog) Tryd.underlying9 hx .i64 w
    have HF := Lib.hid (show inS (atS h l) n = (x == 49) by unfold inS atS; rw [if_neg hlt, hi, List.getD_eq_getElem?_getD, hx]; rfl)
    obtain ⟨q, hq⟩ : ∃ q : Int, (x.toNat : Int) = q := ⟨_, rfl⟩
    have e49 : (q == 49) = (x == 49) := by rw [← hq]; exact u8_eq x 49
    rw [hq] at hix
    obtain ⟨b, hb⟩ : ∃ b, (x == 49) = b := ⟨_, rfl⟩
    rw [hb] at HF e49
    obtain ⟨H, hH⟩ : ∃ H, h.length = H := ⟨_, rfl⟩
    obtain ⟨L, hL⟩ : ∃ L, l.length = L := ⟨_, rfl⟩
    rw [hH] at hs1 hlt hi hh
    rw [hL] at hs2 hl1 hil hi hl
    have hlt' : ¬ (n : Int) < (H : Int) := by omega
    have hw : IntKind.i64.wrap ((n : Int) - (H : Int)) = ((n - H : Nat) : Int) := by rw [IntKind.wrap_i64]; omega
    have hm : (((n - H : Nat) : Int)).tmod (L : Int) = (i : Int) := by rw [Int.tmod_eq_emod_of_nonneg (by omega), ← hi]; omega
    have hL0 : ((L : Int) == 0) = false := by rw [beq_eq_false_iff_ne]; omega
    have hL1 : (L : Int) ≠ 0 := by omega
    rw [HF.out]
    clear hq hx hb hH hL hl0 hi
    go_enter Tryd.func61, Tryd.ntmps61
    go_wp2
    go_region
    go_wp2
    go_ret
    exact ⟨rfl, by go_grown⟩

set_option maxHeartbeats 1000000 in
theorem has_any (h l : List UInt8) (n : Nat) (w : World) (hl0 : l ≠ []) (hh : h.length ≤ 1000000000) (hl : l.length ≤ 1000000000) (hn : n ≤ 9223372036854775807) :
    Calls Tryd.prog 56 #[.agg #[.string (bs h), .string (bs l)], .int .i64 n] w fun e w' => e = .returned (.bool (inS (atS h l) n)) ∧ Below w.heap.size w w' := by
  have hs1 := bs_size h
  have hs2 := bs_size l
  have hl1 : 0 < l.length := List.length_pos_iff.2 hl0
  by_cases hlt : n < h.length
  · obtain ⟨x, hx⟩ : ∃ x, h[n]? = some x := ⟨_, List.getElem?_eq_getElem hlt⟩
    have hix := fun w => run_at (P := Tryd.prog) Tryd.underlying9 hx .i64 w
    have HF := Lib.hid (show inS (atS h l) n = (x == 49) by unfold inS; rw [at_head hlt, List.getD_eq_getElem?_getD, hx]; rfl)
    obtain ⟨q, hq⟩ : ∃ q : Int, (x.toNat : Int) = q := ⟨_, rfl⟩
    have e49 : (q == 49) = (x == 49) := by rw [← hq]; exact u8_eq x 49
    rw [hq] at hix
    obtain ⟨b, hb⟩ : ∃ b, (x == 49) = b := ⟨_, rfl⟩
    rw [hb] at HF e49
    obtain ⟨H, hH⟩ : ∃ H, h.length = H := ⟨_, rfl⟩
    rw [hH] at hs1 hlt
    have hlt' : (n : Int) < (H : Int) := by omega
    rw [HF.out]
    clear hq hx hb hH hh hl hl0
    go_enter Tryd.func56, Tryd.ntmps56
    go_wp2
    go_ret
    exact ⟨rfl, by go_grown⟩
  · obtain ⟨i, hi⟩ : ∃ i, (n - h.length) % l.length = i := ⟨_, rfl⟩
    have hil : i < l.length := by rw [← hi]; exact Nat.mod_lt _ hl1
    obtain ⟨x, hx⟩ : ∃ x, l[i]? = some x := ⟨_, List.getElem?_eq_getElem hil⟩
    have hix := fun w => run_at (P := Tryd.prog) Tryd.underlying9 hx .i64 w
    have HF := Lib.hid (show inS (atS h l) n = (x == 49) by unfold inS atS; rw [if_neg hlt, hi, List.getD_eq_getElem?_getD, hx]; rfl)
    obtain ⟨q, hq⟩ : ∃ q : Int, (x.toNat : Int) = q := ⟨_, rfl⟩
    have e49 : (q == 49) = (x == 49) := by rw [← hq]; exact u8_eq x 49
    rw [hq] at hix
    obtain ⟨b, hb⟩ : ∃ b, (x == 49) = b := ⟨_, rfl⟩
    rw [hb] at HF e49
    obtain ⟨H, hH⟩ : ∃ H, h.length = H := ⟨_, rfl⟩
    obtain ⟨L, hL⟩ : ∃ L, l.length = L := ⟨_, rfl⟩
    rw [hH] at hs1 hlt hi hh
    rw [hL] at hs2 hl1 hil hi hl
    have hlt' : ¬ (n : Int) < (H : Int) := by omega
    have hw : IntKind.i64.wrap ((n : Int) - (H : Int)) = ((n - H : Nat) : Int) := by rw [IntKind.wrap_i64]; omega
    have hm : (((n - H : Nat) : Int)).tmod (L : Int) = (i : Int) := by rw [Int.tmod_eq_emod_of_nonneg (by omega), ← hi]; omega
    have hL0 : ((L : Int) == 0) = false := by rw [beq_eq_false_iff_ne]; omega
    have hL1 : (L : Int) ≠ 0 := by omega
    rw [HF.out]
    clear hq hx hb hH hL hl0 hi
    go_enter Tryd.func56, Tryd.ntmps56
    go_wp2
    go_region
    go_wp2
    go_ret
    exact ⟨rfl, by go_grown⟩

end Go.Proofs.YtpheihejgnlanaaDoor

/- The model's shortest repetition and normal form. -/
namespace Go.Proofs.YtpheihejgnlanaaDoor
open Go.RowKit

/-- What the shortest repetition is. -/
def IsLs (l : List UInt8) (d : Nat) : Prop := 0 < d ∧ d ∣ l.length ∧ l.drop d = l.take (l.length - d) ∧ ∀ e, 0 < e → e < d → ¬ (e ∣ l.length ∧ l.drop e = l.take (l.length - e))

set_option maxHeartbeats 1000000 in
theorem l7Least_any (l : List UInt8) (w : World) (hl0 : l ≠ []) (hl : l.length ≤ 1000000000) :
    Calls Tryd.prog 95 #[.string (bs l)] w fun e w' => (∃ d, e = .returned (.string (bs (l.take d))) ∧ IsLs l d) ∧ Below w.heap.size w w' := by
  have hs := bs_size l
  have hlist := bs_list
  have hl1 : 0 < l.length := List.length_pos_iff.2 hl0
  obtain ⟨L, hL⟩ : ∃ L, l.length = L := ⟨_, rfl⟩
  have HL := Lib.hid hL
  have HB := Lib.hid (Below.refl w.heap.size w)
  rw [hL] at hs hl hl1
  clear hL
  go_enter Tryd.func95, Tryd.ntmps95
  go_wp2
  go_loopw [3] (fun i wr => ∃ k : Nat, i = .int .i64 k ∧ 1 ≤ k ∧ k ≤ L ∧ Below w.heap.size w wr ∧ ∀ e, 0 < e → e < k → ¬ (e ∣ L ∧ l.drop e = l.take (L - e))) (fun i _ => L - (intOf i).toNat)
  case atStart => exact ⟨1, rfl, Nat.le_refl _, hl1, HB.out, fun e h0 h1 => absurd h1 (by omega)⟩
  case round =>
    obtain ⟨k, rfl, hk0, hk, hb, hall⟩ := hrel
    have HA := Lib.hid hall
    have HB' := Lib.hid hb
    clear hall hb
    by_cases hlt : k < L
    · have hk' : (k : Int) < (L : Int) := by omega
      have hm : (L : Int).tmod (k : Int) = ((L % k : Nat) : Int) := by rw [Int.tmod_eq_emod_of_nonneg (by omega)]; omega
      have hk1 : (k : Int) ≠ 0 := by omega
      have hwk : IntKind.i64.wrap ((k : Int) + 1) = ((k + 1 : Nat) : Int) := by rw [IntKind.wrap_i64]; omega
      by_cases hd : L % k = 0
      · rw [hd] at hm
        have HD := Lib.hid (Nat.dvd_of_mod_eq_zero hd)
        obtain ⟨x, hx⟩ : ∃ x, l.drop k = x := ⟨_, rfl⟩
        obtain ⟨y, hy⟩ : ∃ y, l.take (L - k) = y := ⟨_, rfl⟩
        obtain ⟨z, hz⟩ : ∃ z, l.take k = z := ⟨_, rfl⟩
        have h1 := run_from (P := Tryd.prog) Tryd.underlying9 (l := l) (k := k) (by rw [HL.out]; omega) hx .i64
        have h2 := run_upto (P := Tryd.prog) Tryd.underlying9 (l := l) (k := L - k) (by rw [HL.out]; omega) hy .i64
        have h3 := run_upto (P := Tryd.prog) Tryd.underlying9 (l := l) (k := k) (by rw [HL.out]; omega) hz .i64
        have hw : IntKind.i64.wrap ((L : Int) - (k : Int)) = ((L - k : Nat) : Int) := by rw [IntKind.wrap_i64]; omega
        have HX := Lib.hid hx
        have HY := Lib.hid hy
        have HZ := Lib.hid hz
        clear hx hy hz hd
        cases hq : x == y with
        | true =>
          have HQ : Hid (x = y) := Lib.hid (by simpa using hq)
          go_wp2
          go_region
          go_wp2
          go_ret
          refine ⟨⟨k, by rw [HZ.out]; rfl, by omega, by rw [HL.out]; exact HD.out, by rw [HL.out, HX.out, HY.out]; exact HQ.out, fun e h0 h1 => by rw [HL.out]; exact HA.out e h0 h1⟩, ?_⟩
          exact below_on HB'.out (by go_grown)
        | false =>
          have HQ : Hid (¬ x = y) := Lib.hid (by simpa using hq)
          have HN : Hid (∀ e, 0 < e → e < k + 1 → ¬ (e ∣ L ∧ l.drop e = l.take (L - e))) := Lib.hid fun e h0 h1 => by
            by_cases he : e = k
            · subst he
              rw [HX.out, HY.out]
              exact fun h => HQ.out h.2
            · exact HA.out e h0 (by omega)
          go_wp2
          go_region
          go_wp2
          go_roundw
          case rel => exact ⟨k + 1, rfl, by omega, by omega, below_on HB'.out (by go_grown), HN.out⟩
          case measure => simp [intOf]; omega
      · obtain ⟨r, hr⟩ : ∃ r, L % k = r := ⟨_, rfl⟩
        have hq : ((r : Int) == 0) = false := by rw [beq_eq_false_iff_ne]; omega
        rw [hr] at hm
        have HN : Hid (∀ e, 0 < e → e < k + 1 → ¬ (e ∣ L ∧ l.drop e = l.take (L - e))) := Lib.hid fun e h0 h1 => by
          by_cases he : e = k
          · subst he
            exact fun h => hd (Nat.mod_eq_zero_of_dvd h.1)
          · exact HA.out e h0 (by omega)
        clear hd hr
        go_wp2
        go_region
        go_wp2
        go_roundw
        case rel => exact ⟨k + 1, rfl, by omega, by omega, below_on HB'.out (by go_grown), HN.out⟩
        case measure => simp [intOf]; omega
    · have hk' : ¬ (k : Int) < (L : Int) := by omega
      obtain rfl : k = L := by omega
      go_wp2
      go_ret
      refine ⟨⟨k, by rw [← HL.out, List.take_length]; rfl, by omega, by rw [HL.out]; exact Nat.dvd_refl _, by rw [HL.out, Nat.sub_self, List.take_zero, ← HL.out, List.drop_length], fun e h0 h1 => by rw [HL.out]; exact HA.out e h0 h1⟩, HB'.out⟩
end Go.Proofs.YtpheihejgnlanaaDoor

/- The model's normal form, and what it returns of a form of any size. -/
namespace Go.Proofs.YtpheihejgnlanaaDoor
open Go.RowKit

theorem snoc_of {l : List UInt8} (h : l ≠ []) : ∃ m x, l = m ++ [x] := ⟨l.dropLast, l.getLast h, (List.dropLast_concat_getLast h).symm⟩
theorem snoc_at (m : List UInt8) (x : UInt8) : (m ++ [x])[m.length]? = some x := by simp
def strSz : Value → Nat | .string s => s.size | _ => 0
/-- A box of two strings. -/
def S2 (w : World) (b : Nat) (x y : ByteArray) : Prop := b < w.heap.size ∧ w.cell? ⟨b, 0, none⟩ = some (.string x) ∧ w.cell? ⟨b, 1, none⟩ = some (.string y) ∧ ∀ o, w.frozen? ⟨b, o, none⟩ = false
theorem s2_on {W w' : World} {b : Nat} {x y : ByteArray} (h : S2 W b x y) (hb : Below W.heap.size W w') : S2 w' b x y :=
  ⟨Nat.lt_of_lt_of_le h.1 hb.size, ((bcell hb).1 b 0 h.1).trans h.2.1, ((bcell hb).1 b 1 h.1).trans h.2.2.1, fun o => ((bcell hb).2 b o h.1).trans (h.2.2.2 o)⟩
theorem s2_new {w W : World} {x y : ByteArray} {t : TypeId} (hW : w.alloc (.cells #[.string x, .string y] t) = W) : S2 W w.heap.size x y ∧ W.heap.size = w.heap.size + 1 ∧ Below w.heap.size w W := by
  subst hW
  exact ⟨by refine ⟨?_, ?_, ?_, ?_⟩ <;> first | (simp [go_sem]; done) | (intro o; simp [go_sem]; done), by simp, by go_grown⟩
theorem s2_put {W W' : World} {b : Nat} {x y : ByteArray} (hW : (W.setCell ⟨b, 0, none⟩ (.string x)).setCell ⟨b, 1, none⟩ (.string y) = W') (x' y' : ByteArray) (hx : S2 W b x' y') :
    S2 W' b x y ∧ W'.heap.size = W.heap.size ∧ (∀ c u v, c ≠ b → S2 W c u v → S2 W' c u v) ∧ (∀ (w : World), Below w.heap.size w W → w.heap.size ≤ b → Below w.heap.size w W') := by
  obtain ⟨x0, c0, c1, fz⟩ := hx
  subst hW
  have hsz : ((W.setCell ⟨b, 0, none⟩ (.string x)).setCell ⟨b, 1, none⟩ (.string y)).heap.size = W.heap.size := by simp [World.setCell]
  refine ⟨⟨by rw [hsz]; exact x0, by simp [go_sem, *], by simp [go_sem, *], fun o => by simp [go_sem, *]⟩, hsz, fun c u v hy hc => ?_, fun w hw hx => ?_⟩
  · obtain ⟨y0, d0, d1, gz⟩ := hc
    exact ⟨by rw [hsz]; exact y0, by simp [go_sem, *], by simp [go_sem, *], fun o => by simp [go_sem, *]⟩
  · exact (hw.setCell hx _).setCell hx _
/-- The model's loop: what holds at each round. -/
def NrR (h l : List UInt8) (A M : List UInt8) : Prop := M ≠ [] ∧ M.length ≤ l.length ∧ A.length ≤ h.length ∧ nfS A M = nfS h l ∧ MinS (atS A M) M.length
theorem nr_turn {h l A M : List UInt8} {x : UInt8} (hr : NrR h l (A ++ [x]) (M ++ [x])) : NrR h l A (x :: M) := by
  obtain ⟨h1, h2, h3, h4, h5⟩ := hr
  refine ⟨by simp, by simpa using h2, by simp at h3; omega, by rw [← nfS_turn]; exact h4, ?_⟩
  rw [← at_turn']
  simpa using h5
theorem nr_nil {h l M : List UInt8} (hr : NrR h l [] M) : nfS h l = ([], M) := by
  rw [← hr.2.2.2.1]
  exact nfS_nf ⟨hr.1, hr.2.2.2.2, .inl rfl⟩
theorem nr_ne {h l A M : List UInt8} {x y : UInt8} (hr : NrR h l (A ++ [x]) (M ++ [y])) (hne : ¬ x = y) : nfS h l = (A ++ [x], M ++ [y]) := by
  rw [← hr.2.2.2.1]
  exact nfS_nf ⟨hr.1, hr.2.2.2.2, .inr (by rw [List.getLast?_concat, List.getLast?_concat]; exact fun e => hne (Option.some.inj e))⟩
theorem nr_least {h l : List UInt8} {d : Nat} (hl : l ≠ []) (hd : IsLs l d) : NrR h l h (l.take d) := by
  obtain ⟨d0, d1, d2, d3⟩ := hd
  have hl0 : 0 < l.length := List.length_pos_iff.2 hl
  have hdl : d ≤ l.length := Nat.le_of_dvd hl0 d1
  have hlen : (l.take d).length = d := by rw [List.length_take]; omega
  have hne : l.take d ≠ [] := fun e => by rw [e] at hlen; simp at hlen; omega
  refine ⟨hne, by omega, Nat.le_refl _, ?_, by rw [hlen]; exact least_min d0 d1 hl0 d2 d3⟩
  exact nfS_congr hne hl fun n => rep_at d0 d1 d2 n

set_option maxHeartbeats 2000000 in
theorem l7Normal_any (h l : List UInt8) (w : World) (hl0 : l ≠ []) (hh : h.length ≤ 1000000000) (hl : l.length ≤ 1000000000) :
    Calls Tryd.prog 82 #[.string (bs h), .string (bs l)] w fun e w' => e = .returned (.agg #[.string (bs ((nfS h l).1)), .string (bs ((nfS h l).2))]) ∧ Below w.heap.size w w' := by
  have HL := Lib.hid fun w => l7Least_any l w hl0 hl
  have HR := Lib.hid fun d => nr_least (h := h) (d := d) hl0
  have happ := bs_app
  clear hl0
  go_enter Tryd.func82, Tryd.ntmps82
  go_wp2_with fail
  generalize hW : World.alloc w _ = W
  obtain ⟨hz, hsW, hw0⟩ := s2_new hW
  clear hW
  refine (HL.out _).mono ?_
  rintro e w1 ⟨⟨d, rfl, hd⟩, hb1⟩
  have HZ := Lib.hid (s2_on hz hb1)
  have hb1' := below_on hw0 hb1
  have HN := Lib.hid (HR.out d hd)
  generalize l.take d = m at HN
  clear hd
  go_wp2
  go_loopw [0, 1] (fun x y wr => ∃ A M : List UInt8, x = .string (bs A) ∧ y = .string (bs M) ∧ NrR h l A M ∧ Below w1.heap.size w1 wr) (fun x _ _ => strSz x)
  case atStart => exact ⟨h, m, rfl, rfl, HN.out, Below.refl _ _⟩
  case round =>
    obtain ⟨A, M, rfl, rfl, hr, hb⟩ := hrel
    have HRR := Lib.hid hr
    have HB := Lib.hid hb
    clear hr hb
    by_cases hA : A = []
    · subst hA
      have hs0 : (bs ([] : List UInt8)).size = 0 := bs_size []
      have HF := Lib.hid (nr_nil HRR.out)
      clear HN HL HR happ
      go_wp2
      go_region
      obtain ⟨y0, y1, y2, y3⟩ := s2_on HZ.out (below_on HB.out (by go_grown))
      go_wp2
      generalize hW : World.setCell _ _ _ = W8
      obtain ⟨⟨_, r1, r2, _⟩, _, _, hb8⟩ := s2_put hW _ _ ⟨y0, y1, y2, y3⟩
      refine bodyPost_ret (v := .agg #[.string (bs ([])), .string (bs M)]) (by simp [results, Tryd.results82, go_sem, r1, r2]) rfl ⟨by rw [HF.out], ?_⟩
      exact below_on (hb8 w (below_on hb1' (below_on HB.out (by go_grown))) (Nat.le_refl _)) (by go_grown)
    · obtain ⟨A0, x, rfl⟩ := snoc_of hA
      obtain ⟨M0, y, rfl⟩ := snoc_of HRR.out.1
      obtain ⟨a, ha⟩ : ∃ a, A0.length = a := ⟨_, rfl⟩
      obtain ⟨p, hp⟩ : ∃ p, M0.length = p := ⟨_, rfl⟩
      obtain ⟨n, hn⟩ : ∃ n, a + 1 = n := ⟨_, rfl⟩
      obtain ⟨m, hm⟩ : ∃ m, p + 1 = m := ⟨_, rfl⟩
      have hlen1 : (A0 ++ [x]).length = n := by simp; omega
      have hlen2 : (M0 ++ [y]).length = m := by simp; omega
      have hx := snoc_at A0 x
      have hy := snoc_at M0 y
      rw [ha] at hx
      rw [hp] at hy
      have s1 := run_upto (P := Tryd.prog) Tryd.underlying9 (l := A0 ++ [x]) (k := a) (by omega) (by rw [← ha, List.take_left]) .i64
      have s2 := run_upto (P := Tryd.prog) Tryd.underlying9 (l := M0 ++ [y]) (k := p) (by omega) (by rw [← hp, List.take_left]) .i64
      have s3 := run_from (P := Tryd.prog) Tryd.underlying9 (l := M0 ++ [y]) (k := p) (by omega) (by rw [← hp, List.drop_left]) .i64
      have i1 := fun w => run_at (P := Tryd.prog) Tryd.underlying9 hx .i64 w
      have i2 := fun w => run_at (P := Tryd.prog) Tryd.underlying9 hy .i64 w
      have z1 := bs_size (A0 ++ [x])
      have z2 := bs_size (M0 ++ [y])
      have c1 : bs [y] ++ bs M0 = bs (y :: M0) := happ [y] M0
      have z3 : (bs [y]).size = 1 := bs_size [y]
      have z4 : (bs M0).size = p := by rw [bs_size, hp]
      rw [hlen1] at z1
      rw [hlen2] at z2
      have k1 : Hid (A0.length ≤ 1000000000 ∧ A0.length < (A0 ++ [x]).length ∧ (M0 ++ [y]).length ≤ 1000000000) := Lib.hid (by have q1 := HRR.out.2.1; have q2 := HRR.out.2.2.1; rw [List.length_append] at q1 q2 ⊢; simp at q1 q2 ⊢; omega)
      have b1 : a ≤ 1000000000 := by rw [← ha]; exact k1.out.1
      have b2 : p ≤ 1000000000 := by have := k1.out.2.2; omega
      have hw1 : IntKind.i64.wrap ((n : Int) - 1) = (a : Int) := by rw [IntKind.wrap_i64]; omega
      have hw2 : IntKind.i64.wrap ((m : Int) - 1) = (p : Int) := by rw [IntKind.wrap_i64]; omega
      have g1 : decide (0 < n) = true := decide_eq_true (by omega)
      have zx : Hid ((bs A0).size < (bs (A0 ++ [x])).size) := Lib.hid (by rw [bs_size, bs_size]; exact k1.out.2.1)
      obtain ⟨u, hu⟩ : ∃ u : Int, (x.toNat : Int) = u := ⟨_, rfl⟩
      obtain ⟨v, hv⟩ : ∃ v : Int, (y.toNat : Int) = v := ⟨_, rfl⟩
      have e1 : (u == v) = (x == y) := by rw [← hu, ← hv]; exact u8_eq x y
      rw [hu] at i1
      rw [hv] at i2
      have HE : Hid (x = y → NrR h l A0 (y :: M0)) := Lib.hid fun e => by subst e; exact nr_turn HRR.out
      have HX : Hid (¬ x = y → nfS h l = (A0 ++ [x], M0 ++ [y])) := Lib.hid fun e => nr_ne HRR.out e
      clear hA HRR hu hv hx hy ha hp hlen1 hlen2 k1 HN HL HR happ
      generalize A0 ++ [x] = X at *
      generalize M0 ++ [y] = Y at *
      cases hq : x == y with
      | true =>
        rw [hq] at e1
        have HR2 := Lib.hid (HE.out (by simpa using hq))
        clear hq HE HX
        go_wp2
        go_region
        go_wp2
        go_region
        go_wp2
        go_roundw
        case rel => exact ⟨A0, y :: M0, rfl, rfl, HR2.out, below_on HB.out (by go_grown)⟩
        case measure => exact zx.out
      | false =>
        rw [hq] at e1
        have HF := Lib.hid (HX.out (by simpa using hq))
        clear hq HE HX
        go_wp2
        go_region
        obtain ⟨y0, y1, y2, y3⟩ := s2_on HZ.out (below_on HB.out (by go_grown))
        go_wp2
        generalize hW : World.setCell _ _ _ = W8
        obtain ⟨⟨_, r1, r2, _⟩, _, _, hb8⟩ := s2_put hW _ _ ⟨y0, y1, y2, y3⟩
        refine bodyPost_ret (v := .agg #[.string (bs X), .string (bs Y)]) (by simp [results, Tryd.results82, go_sem, r1, r2]) rfl ⟨by rw [HF.out], ?_⟩
        exact below_on (hb8 w (below_on hb1' (below_on HB.out (by go_grown))) (Nat.le_refl _)) (by go_grown)
end Go.Proofs.YtpheihejgnlanaaDoor

/- The model's results: the normal form where it is valid; NormalSet, HasNumber. -/
namespace Go.Proofs.YtpheihejgnlanaaDoor
open Go.RowKit

theorem res_yes {h l : List UInt8} (hl : l ≠ []) (h1 : ∀ x ∈ h, x = 48 ∨ x = 49) (h2 : ∀ x ∈ l, x = 48 ∨ x = 49) (hv : svS (nfS h l).1 (nfS h l).2 = true) : resA (atS h l) = (nfS h l, true) := by
  rw [sv_nf hl h1 h2, decide_eq_true_eq] at hv
  rw [res_nf hl, if_pos hv]
theorem res_no {h l : List UInt8} (hl : l ≠ []) (h1 : ∀ x ∈ h, x = 48 ∨ x = 49) (h2 : ∀ x ∈ l, x = 48 ∨ x = 49) (hv : svS (nfS h l).1 (nfS h l).2 = false) : resA (atS h l) = (([], []), false) := by
  rw [sv_nf hl h1 h2, decide_eq_false_iff_not] at hv
  rw [res_nf hl, if_neg hv]

set_option maxHeartbeats 1000000 in
theorem l7Result_any (h l : List UInt8) (w : World) (hl0 : l ≠ []) (h1 : ∀ x ∈ h, x = 48 ∨ x = 49) (h2 : ∀ x ∈ l, x = 48 ∨ x = 49) (hh : h.length ≤ 1000000000) (hl : l.length ≤ 1000000000) :
    Calls Tryd.prog 46 #[.string (bs h), .string (bs l)] w fun e w' => e = .returned (.tuple #[.agg #[.string (bs (resA (atS h l)).1.1), .string (bs (resA (atS h l)).1.2)], .bool (resA (atS h l)).2]) ∧ Below w.heap.size w w' := by
  have HN := Lib.hid fun w => l7Normal_any h l w hl0 hh hl
  have HY := Lib.hid (res_yes hl0 h1 h2)
  have HO := Lib.hid (res_no hl0 h1 h2)
  obtain ⟨_, _, q1, q2, _⟩ := nfS_spec (h := h) hl0
  have HV := Lib.hid fun w => specSetValid_any (nfS h l).1 (nfS h l).2 w (by omega) (by omega)
  obtain ⟨H, hH⟩ : ∃ H, (nfS h l).1 = H := ⟨_, rfl⟩
  obtain ⟨L, hL⟩ : ∃ L, (nfS h l).2 = L := ⟨_, rfl⟩
  have HP : Hid (nfS h l = (H, L)) := Lib.hid (by rw [← hH, ← hL])
  obtain ⟨v, hv⟩ : ∃ v, svS H L = v := ⟨_, rfl⟩
  rw [hH, hL] at HN HY HO HV
  rw [hv] at HY HO HV
  clear q1 q2 hH hL hv hl0 h1 h2 hh hl
  go_enter Tryd.func46, Tryd.ntmps46
  go_wp2_with fail
  generalize hW : World.alloc w _ = W
  obtain ⟨hz, hsW, hw0⟩ := s2_new hW
  clear hW
  refine (HN.out _).mono ?_
  rintro e w1 ⟨rfl, hb1⟩
  have hz1 := s2_on hz hb1
  have hb1' := below_on hw0 hb1
  go_wp2_with fail
  generalize hW : World.alloc w1 _ = W2
  obtain ⟨hx, hsW2, hw2⟩ := s2_new hW
  clear hW
  have hz2 := s2_on hz1 hw2
  have hb2 := below_on hb1' hw2
  obtain ⟨x0, x1, x2, x3⟩ := id hx
  refine (HV.out _).mono ?_
  rintro e w3 ⟨rfl, hw⟩
  have hg3 : Below W2.heap.size W2 w3 := by subst hw; go_grown
  clear hw
  have hx3 := s2_on hx hg3
  have hz3 := s2_on hz2 hg3
  have hb3 := below_on hb2 hg3
  obtain ⟨a0, a1, a2, a3⟩ := id hx3
  obtain ⟨c0, c1, c2, c3⟩ := id hz3
  clear x0 x1 x2 x3
  cases v with
  | true =>
    have HF := Lib.hid (HY.out rfl)
    go_wp2
    generalize hW : World.setCell _ _ _ = W8
    obtain ⟨⟨_, r1, r2, _⟩, _, _, hb8⟩ := s2_put hW _ _ hz3
    refine bodyPost_ret (v := .tuple #[.agg #[.string (bs (((H, L), true)).1.1), .string (bs (((H, L), true)).1.2)], .bool (((H, L), true)).2]) (by simp [results, Tryd.results46, go_sem, r1, r2]) rfl ⟨by rw [HF.out, HP.out], ?_⟩
    exact hb8 w hb3 (Nat.le_refl _)
  | false =>
    have HF := Lib.hid (HO.out rfl)
    go_wp2
    generalize hW : World.setCell _ _ _ = W8
    obtain ⟨⟨_, r1, r2, _⟩, _, _, hb8⟩ := s2_put hW _ _ hz3
    refine bodyPost_ret (v := .tuple #[.agg #[.string ⟨#[]⟩, .string ⟨#[]⟩], .bool false]) (by simp [results, Tryd.results46, go_sem, r1, r2]) rfl ⟨by rw [HF.out]; rfl, ?_⟩
    exact hb8 w hb3 (Nat.le_refl _)

theorem specSetValid_b (h l : List UInt8) (w : World) (hh : h.length ≤ 1000000000) (hl : l.length ≤ 1000000000) :
    Calls Tryd.prog 41 #[.agg #[.string (bs h), .string (bs l)]] w fun e w' => e = .returned (.bool (svS h l)) ∧ Below w.heap.size w w' :=
  (specSetValid_any h l w hh hl).mono fun _ _ ⟨he, hw⟩ => ⟨he, by subst hw; go_grown⟩

/-- What NormalSet answers. -/
noncomputable def normR (h l : List UInt8) : (List UInt8 × List UInt8) × Bool := if svS h l = true then resA (atS h l) else (([], []), false)

end Go.Proofs.YtpheihejgnlanaaDoor
