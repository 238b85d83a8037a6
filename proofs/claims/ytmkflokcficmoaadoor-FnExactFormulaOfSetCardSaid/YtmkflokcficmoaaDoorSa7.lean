/- Several texts in one: SetA SetB SetC SetD SetE. -/
import Derived.Test.YtmkflokcficmoaaDoorStA
import Derived.Test.YtmkflokcficmoaaDoorMa7
import Derived.Test.YtmkflokcficmoaaDoorSpecB
import Derived.Lib.SmallJoins

/- The model's small functions of chapter 7: bits, validity, what is in a set. -/
namespace Go.Proofs.YtmkflokcficmoaaDoor
open Go.RowKit

/-- Slice expressions on strings, as facts to lay ahead of the walk. -/
theorem run_from {P : Program} {t : TypeId} (ht : P.underlying t = some .string) {l x : List UInt8} {k : Nat} (hk : k ≤ l.length) (hx : l.drop k = x) (kk : IntKind) (w : World) :
    (Instr.slice t (.string (bs l)) (some (.int kk k)) none none).run P w = .ok (.string (bs x)) w := by
  have hs := bs_size l
  rw [run_slice_string_l w t (bs l) ht kk k (by omega) (by omega), bs_ext, ← hx, hs, Int.toNat_natCast, List.take_of_length_le (by simp)]
theorem run_upto {P : Program} {t : TypeId} (ht : P.underlying t = some .string) {l x : List UInt8} {k : Nat} (hk : k ≤ l.length) (hx : l.take k = x) (kk : IntKind) (w : World) :
    (Instr.slice t (.string (bs l)) none (some (.int kk k)) none).run P w = .ok (.string (bs x)) w := by
  have hs := bs_size l
  rw [run_slice_string_h w t (bs l) ht kk k (by omega) (by omega), bs_ext, ← hx, Int.toNat_natCast, List.drop_zero, Nat.sub_zero]
theorem run_part {P : Program} {t : TypeId} (ht : P.underlying t = some .string) {l x : List UInt8} {i j : Nat} (hij : i ≤ j) (hj : j ≤ l.length) (hx : (l.drop i).take (j - i) = x) (k1 k2 : IntKind) (w : World) :
    (Instr.slice t (.string (bs l)) (some (.int k1 i)) (some (.int k2 j)) none).run P w = .ok (.string (bs x)) w := by
  have hs := bs_size l
  rw [run_slice_string w t (bs l) k1 k2 i j ht (by omega) (by omega) (by omega), bs_ext, ← hx, Int.toNat_natCast, Int.toNat_natCast]

theorem bit_at {l : List UInt8} {k : Nat} {x : UInt8} (h : l[k]? = some x) (h0 : ¬ (x = 48 ∨ x = 49)) : bitL l = false := by
  cases hb : bitL l with
  | false => rfl
  | true => exact absurd (bitL_iff.1 hb x (List.mem_of_getElem? h)) h0
theorem bit_of {l : List UInt8} (h : ∀ (i : Nat) (x : UInt8), i < l.length → l[i]? = some x → x = 48 ∨ x = 49) : bitL l = true := by
  rw [bitL_iff]
  intro x hx
  obtain ⟨i, hi, e⟩ := List.mem_iff_getElem.1 hx
  exact h i x hi (by rw [List.getElem?_eq_getElem hi, e])

set_option maxHeartbeats 1000000 in
theorem l7Bits_any (l : List UInt8) (a b : Int) (w : World) (hl : l.length ≤ 1000000000) :
    Calls Tryd.prog 37 #[.string (bs l), .int .i64 a, .int .i64 b] w fun e w' => e = .returned (.bool (bitL l && inB l.length a b)) ∧ w = w' := by
  have hsz := bs_size l
  obtain ⟨n, hn⟩ : ∃ n, l.length = n := ⟨_, rfl⟩
  have HN := Lib.hid hn
  rw [hn] at hsz hl
  rw [hn]
  clear hn
  go_enter Tryd.func37, Tryd.ntmps37
  go_wp2
  go_loopw [7] (fun i wr => ∃ k : Nat, i = .int .i64 k ∧ k ≤ n ∧ wr = w ∧ ∀ (i : Nat) (x : UInt8), i < k → l[i]? = some x → x = 48 ∨ x = 49) (fun i _ => n - (intOf i).toNat)
  case atStart => exact ⟨0, rfl, Nat.zero_le _, rfl, fun i x h0 => absurd h0 (by omega)⟩
  case round =>
    obtain ⟨k, rfl, hk, rfl, hall⟩ := hrel
    have HA := Lib.hid hall
    clear hall
    by_cases hlt : k < n
    · have hk' : (k : Int) < (n : Int) := by omega
      obtain ⟨x, hx⟩ : ∃ x, l[k]? = some x := ⟨_, List.getElem?_eq_getElem (by rw [HN.out]; exact hlt)⟩
      have hix := fun w => run_at (P := Tryd.prog) Tryd.underlying9 hx .i64 w
      obtain ⟨q, hq⟩ : ∃ q : Int, (x.toNat : Int) = q := ⟨_, rfl⟩
      have e48 : (q != 48) = (x != 48) := by rw [← hq]; exact u8_ne x 48
      have e49 : (q != 49) = (x != 49) := by rw [← hq]; exact u8_ne x 49
      rw [hq] at hix
      have HX := Lib.hid hx
      clear hq hx
      have next : Hid ((x = 48 ∨ x = 49) → ∀ (i : Nat) (y : UInt8), i < k + 1 → l[i]? = some y → y = 48 ∨ y = 49) := Lib.hid fun hb i y hi hy => by
        by_cases e : i = k
        · subst e
          rw [HX.out] at hy
          obtain rfl := Option.some.inj hy
          exact hb
        · exact HA.out i y (by omega) hy
      cases h0 : x != 48 with
      | false =>
        rw [h0] at e48
        have hx48 : x = 48 := by simpa using h0
        have NX := Lib.hid (next.out (.inl hx48))
        clear h0 hx48 e49
        go_wp2
        go_roundw
        case rel => exact ⟨k + 1, by go_num, by omega, trivial, NX.out⟩
        case measure => simp [intOf]; omega
      | true =>
        rw [h0] at e48
        cases h1 : x != 49 with
        | false =>
          rw [h1] at e49
          have hx49 : x = 49 := by simpa using h1
          have NX := Lib.hid (next.out (.inr hx49))
          clear h0 h1 hx49
          go_wp2
          go_roundw
          case rel => exact ⟨k + 1, by go_num, by omega, trivial, NX.out⟩
          case measure => simp [intOf]; omega
        | true =>
          rw [h1] at e49
          have HF := Lib.hid (show bitL l = false from bit_at HX.out (by simp at h0 h1; simp [h0, h1]))
          clear h0 h1
          go_wp2
          go_ret
          exact ⟨ret_bool (by rw [HF.out]; rfl), rfl⟩
    · have hk' : ¬ (k : Int) < (n : Int) := by omega
      obtain rfl : k = n := by omega
      have HF := Lib.hid (show bitL l = true from bit_of fun i x hi => HA.out i x (by rw [← HN.out]; exact hi))
      go_wp2_with (go_at_call 38; refine (l1In_any _ _ _ _).mono ?_; rintro e w' ⟨rfl, rfl⟩)
      go_ret
      exact ⟨ret_bool (by rw [HF.out]; rfl), rfl⟩

set_option maxHeartbeats 1000000 in
theorem specSetValid_any (h l : List UInt8) (w : World) (hh : h.length ≤ 1000000000) (hl : l.length ≤ 1000000000) :
    Calls Tryd.prog 22 #[.agg #[.string (bs h), .string (bs l)]] w fun e w' => e = .returned (.bool (svS h l)) ∧ w.alloc (.cells #[.string (bs h), .string (bs l)] 34) = w' := by
  have H1 := Lib.hid fun w => l7Bits_any h 0 400 w hh
  have H2 := Lib.hid fun w => l7Bits_any l 1 240 w hl
  have e1 : Hid (inB h.length 0 400 = decide (h.length ≤ 400)) := Lib.hid (by unfold inB; rw [decide_eq_decide]; omega)
  have e2 : Hid (inB l.length 1 240 = decide (1 ≤ l.length ∧ l.length ≤ 240)) := Lib.hid (by unfold inB; rw [decide_eq_decide]; omega)
  have HS : Hid (svS h l = ((bitL h && inB h.length 0 400) && (bitL l && inB l.length 1 240))) := Lib.hid (by unfold svS; rw [e1.out, e2.out])
  obtain ⟨p, hp⟩ : ∃ p, (bitL h && inB h.length 0 400) = p := ⟨_, rfl⟩
  obtain ⟨q, hq⟩ : ∃ q, (bitL l && inB l.length 1 240) = q := ⟨_, rfl⟩
  rw [hp] at H1 HS
  rw [hq] at H2 HS
  clear hp hq e1 e2 hh hl
  rw [HS.out]
  go_enter Tryd.func22, Tryd.ntmps22
  cases p
  · go_wp2_with (go_at_call 37; refine (H1.out _).mono ?_; rintro e w' ⟨rfl, rfl⟩)
    go_ret
    exact ⟨rfl, rfl⟩
  · go_wp2_with fail
    refine (H1.out _).mono ?_
    rintro e w' ⟨rfl, rfl⟩
    go_wp2_with fail
    refine (H2.out _).mono ?_
    rintro e w' ⟨rfl, rfl⟩
    go_wp2
    all_goals (go_ret; exact ⟨rfl, rfl⟩)

end Go.Proofs.YtmkflokcficmoaaDoor

/- What is in a set: the model's l7Has and the program's has. -/
namespace Go.Proofs.YtmkflokcficmoaaDoor
open Go.RowKit

set_option maxHeartbeats 1000000 in
theorem l7Has_any (h l : List UInt8) (n : Nat) (w : World) (hl0 : l ≠ []) (hh : h.length ≤ 1000000000) (hl : l.length ≤ 1000000000) (hn : n ≤ 9223372036854775807) :
    Calls Tryd.prog 24 #[.agg #[.string (bs h), .string (bs l)], .int .i64 n] w fun e w' => e = .returned (.bool (inS (atS h l) n)) ∧ Below w.heap.size w w' := by
  have hs1 := bs_size h
  have hs2 := bs_size l
  have hl1 : 0 < l.length := List.length_pos_iff.2 hl0
  by_cases hlt : n < h.length
  · obtain ⟨x, hx⟩ : ∃ x, h[n]? = some x := ⟨_, List.getElem?_eq_getElem hlt⟩
    have hix := fun w => run_at (P := Tryd.prog) Tryd.underlying9 hx .i64 w
    have HF := Lib.hid (show inS (atS h l) n = (x == 49) by unfold inS; rw [at_head hlt, List.getD_eq_getElem?_getD, hx]; rfl)
    obtain ⟨q, hq⟩ : ∃ q : Int, (x.toNat : Int) = q := ⟨_, rfl⟩
    have e49 : (q == 49) = (x == 49) := by rw [← hq]; exact u8_eq x 49
    rw [hq] at hix
    obtain ⟨b, hb⟩ : ∃ b, (x == 49) = b := ⟨_, rfl⟩
    rw [hb] at HF e49
    obtain ⟨H, hH⟩ : ∃ H, h.length = H := ⟨_, rfl⟩
    rw [hH] at hs1 hlt
    have hlt' : (n : Int) < (H : Int) := by omega
    rw [HF.out]
    clear hq hx hb hH hh hl hl0
    go_enter Tryd.func24, Tryd.ntmps24
    go_wp2
    go_ret
    exact ⟨rfl, by go_grown⟩
  · obtain ⟨i, hi⟩ : ∃ i, (n - h.length) % l.length = i := ⟨_, rfl⟩
    have hil : i < l.length := by rw [← hi]; exact Nat.mod_lt _ hl1
    obtain ⟨x, hx⟩ : ∃ x, l[i]? = some x := ⟨_, List.getElem?_eq_getElem hil⟩
    have hix := fun w => run_at (P := Tryd.prog) Tryd.underlying9 hx .i64 w
    have HF := Lib.hid (show inS (atS h l) n = (x == 49) by unfold inS atS; rw [if_neg hlt, hi, List.getD_eq_getElem?_getD, hx]; rfl)
    obtain ⟨q, hq⟩ : ∃ q : Int, (x.toNat : Int) = q := ⟨_, rfl⟩
    have e49 : (q == 49) = (x == 49) := by rw [← hq]; exact u8_eq x 49
    rw [hq] at hix
    obtain ⟨b, hb⟩ : ∃ b, (x == 49) = b := ⟨_, rfl⟩
    rw [hb] at HF e49
    obtain ⟨H, hH⟩ : ∃ H, h.length = H := ⟨_, rfl⟩
    obtain ⟨L, hL⟩ : ∃ L, l.length = L := ⟨_, rfl⟩
    rw [hH] at hs1 hlt hi hh
    rw [hL] at hs2 hl1 hil hi hl
    have hlt' : ¬ (n : Int) < (H : Int) := by omega
    have hw : IntKind.i64.wrap ((n : Int) - (H : Int)) = ((n - H : Nat) : Int) := by rw [IntKind.wrap_i64]; omega
    have hm : (((n - H : Nat) : Int)).tmod (L : Int) = (i : Int) := by rw [Int.tmod_eq_emod_of_nonneg (by omega), ← hi]; omega
    have hL0 : ((L : Int) == 0) = false := by rw [beq_eq_false_iff_ne]; omega
    have hL1 : (L : Int) ≠ 0 := by omega
    rw [HF.out]
    clear hq hx hb hH hL hl0 hi
    go_enter Tryd.func24, Tryd.ntmps24
    go_wp2
    go_region
    go_wp2
    go_ret
    exact ⟨rfl, by go_grown⟩

set_option maxHeartbeats 1000000 in
theorem has_any (h l : List UInt8) (n : Nat) (w : World) (hl0 : l ≠ []) (hh : h.length ≤ 1000000000) (hl : l.length ≤ 1000000000) (hn : n ≤ 9223372036854775807) :
    Calls Tryd.prog 30 #[.agg #[.string (bs h), .string (bs l)], .int .i64 n] w fun e w' => e = .returned (.bool (inS (atS h l) n)) ∧ Below w.heap.size w w' := by
  have hs1 := bs_size h
  have hs2 := bs_size l
  have hl1 : 0 < l.length := List.length_pos_iff.2 hl0
  by_cases hlt : n < h.length
  · obtain ⟨x, hx⟩ : ∃ x, h[n]? = some x := ⟨_, List.getElem?_eq_getElem hlt⟩
    have hix := fun w => run_at (P := Tryd.prog) Tryd.underlying9 hx .i64 w
    have HF := Lib.hid (show inS (atS h l) n = (x == 49) by unfold inS; rw [at_head hlt, List.getD_eq_getElem?_getD, hx]; rfl)
    obtain ⟨q, hq⟩ : ∃ q : Int, (x.toNat : Int) = q := ⟨_, rfl⟩
    have e49 : (q == 49) = (x == 49) := by rw [← hq]; exact u8_eq x 49
    rw [hq] at hix
    obtain ⟨b, hb⟩ : ∃ b, (x == 49) = b := ⟨_, rfl⟩
    rw [hb] at HF e49
    obtain ⟨H, hH⟩ : ∃ H, h.length = H := ⟨_, rfl⟩
    rw [hH] at hs1 hlt
    have hlt' : (n : Int) < (H : Int) := by omega
    rw [HF.out]
    clear hq hx hb hH hh hl hl0
    go_enter Tryd.func30, Tryd.ntmps30
    go_wp2
    go_ret
    exact ⟨rfl, by go_grown⟩
  · obtain ⟨i, hi⟩ : ∃ i, (n - h.length) % l.length = i := ⟨_, rfl⟩
    have hil : i < l.length := by rw [← hi]; exact Nat.mod_lt _ hl1
    obtain ⟨x, hx⟩ : ∃ x, l[i]? = some x := ⟨_, List.getElem?_eq_getElem hil⟩
    have hix := fun w => run_at (P := Tryd.prog) Tryd.underlying9 hx .i64 w
    have HF := Lib.hid (show inS (atS h l) n = (x == 49) by unfold inS atS; rw [if_neg hlt, hi, List.getD_eq_getElem?_getD, hx]; rfl)
    obtain ⟨q, hq⟩ : ∃ q : Int, (x.toNat : Int) = q := ⟨_, rfl⟩
    have e49 : (q == 49) = (x == 49) := by rw [← hq]; exact u8_eq x 49
    rw [hq] at hix
    obtain ⟨b, hb⟩ : ∃ b, (x == 49) = b := ⟨_, rfl⟩
    rw [hb] at HF e49
    obtain ⟨H, hH⟩ : ∃ H, h.length = H := ⟨_, rfl⟩
    obtain ⟨L, hL⟩ : ∃ L, l.length = L := ⟨_, rfl⟩
    rw [hH] at hs1 hlt hi hh
    rw [hL] at hs2 hl1 hil hi hl
    have hlt' : ¬ (n : Int) < (H : Int) := by omega
    have hw : IntKind.i64.wrap ((n : Int) - (H : Int)) = ((n - H : Nat) : Int) := by rw [IntKind.wrap_i64]; omega
    have hm : (((n - H : Nat) : Int)).tmod (L : Int) = (i : Int) := by rw [Int.tmod_eq_emod_of_nonneg (by omega), ← hi]; omega
    have hL0 : ((L : Int) == 0) = false := by rw [beq_eq_false_iff_ne]; omega
    have hL1 : (L : Int) ≠ 0 := by omega
    rw [HF.out]
    clear hq hx hb hH hL hl0 hi
    go_enter Tryd.func30, Tryd.ntmps30
    go_wp2
    go_region
    go_wp2
    go_ret
    exact ⟨rfl, by go_grown⟩

end Go.Proofs.YtmkflokcficmoaaDoor

/- The model's shortest repetition and normal form. -/
namespace Go.Proofs.YtmkflokcficmoaaDoor
open Go.RowKit

/-- What the shortest repetition is. -/
def IsLs (l : List UInt8) (d : Nat) : Prop := 0 < d ∧ d ∣ l.length ∧ l.drop d = l.take (l.length - d) ∧ ∀ e, 0 < e → e < d → ¬ (e ∣ l.length ∧ l.drop e = l.take (l.length - e))

end Go.Proofs.YtmkflokcficmoaaDoor

/- The model's normal form, and what it returns of a form of any size. -/
namespace Go.Proofs.YtmkflokcficmoaaDoor
open Go.RowKit

theorem snoc_of {l : List UInt8} (h : l ≠ []) : ∃ m x, l = m ++ [x] := ⟨l.dropLast, l.getLast h, (List.dropLast_concat_getLast h).symm⟩
theorem snoc_at (m : List UInt8) (x : UInt8) : (m ++ [x])[m.length]? = some x := by simp
def strSz : Value → Nat | .string s => s.size | _ => 0
/-- A box of two strings. -/
def S2 (w : World) (b : Nat) (x y : ByteArray) : Prop := b < w.heap.size ∧ w.cell? ⟨b, 0, none⟩ = some (.string x) ∧ w.cell? ⟨b, 1, none⟩ = some (.string y) ∧ ∀ o, w.frozen? ⟨b, o, none⟩ = false
theorem s2_on {W w' : World} {b : Nat} {x y : ByteArray} (h : S2 W b x y) (hb : Below W.heap.size W w') : S2 w' b x y :=
  ⟨Nat.lt_of_lt_of_le h.1 hb.size, ((bcell hb).1 b 0 h.1).trans h.2.1, ((bcell hb).1 b 1 h.1).trans h.2.2.1, fun o => ((bcell hb).2 b o h.1).trans (h.2.2.2 o)⟩
theorem s2_new {w W : World} {x y : ByteArray} {t : TypeId} (hW : w.alloc (.cells #[.string x, .string y] t) = W) : S2 W w.heap.size x y ∧ W.heap.size = w.heap.size + 1 ∧ Below w.heap.size w W := by
  subst hW
  exact ⟨by refine ⟨?_, ?_, ?_, ?_⟩ <;> first | (simp [go_sem]; done) | (intro o; simp [go_sem]; done), by simp, by go_grown⟩
theorem s2_put {W W' : World} {b : Nat} {x y : ByteArray} (hW : (W.setCell ⟨b, 0, none⟩ (.string x)).setCell ⟨b, 1, none⟩ (.string y) = W') (x' y' : ByteArray) (hx : S2 W b x' y') :
    S2 W' b x y ∧ W'.heap.size = W.heap.size ∧ (∀ c u v, c ≠ b → S2 W c u v → S2 W' c u v) ∧ (∀ (w : World), Below w.heap.size w W → w.heap.size ≤ b → Below w.heap.size w W') := by
  obtain ⟨x0, c0, c1, fz⟩ := hx
  subst hW
  have hsz : ((W.setCell ⟨b, 0, none⟩ (.string x)).setCell ⟨b, 1, none⟩ (.string y)).heap.size = W.heap.size := by simp [World.setCell]
  refine ⟨⟨by rw [hsz]; exact x0, by simp [go_sem, *], by simp [go_sem, *], fun o => by simp [go_sem, *]⟩, hsz, fun c u v hy hc => ?_, fun w hw hx => ?_⟩
  · obtain ⟨y0, d0, d1, gz⟩ := hc
    exact ⟨by rw [hsz]; exact y0, by simp [go_sem, *], by simp [go_sem, *], fun o => by simp [go_sem, *]⟩
  · exact (hw.setCell hx _).setCell hx _
/-- The model's loop: what holds at each round. -/
def NrR (h l : List UInt8) (A M : List UInt8) : Prop := M ≠ [] ∧ M.length ≤ l.length ∧ A.length ≤ h.length ∧ nfS A M = nfS h l ∧ MinS (atS A M) M.length
theorem nr_turn {h l A M : List UInt8} {x : UInt8} (hr : NrR h l (A ++ [x]) (M ++ [x])) : NrR h l A (x :: M) := by
  obtain ⟨h1, h2, h3, h4, h5⟩ := hr
  refine ⟨by simp, by simpa using h2, by simp at h3; omega, by rw [← nfS_turn]; exact h4, ?_⟩
  rw [← at_turn']
  simpa using h5
theorem nr_nil {h l M : List UInt8} (hr : NrR h l [] M) : nfS h l = ([], M) := by
  rw [← hr.2.2.2.1]
  exact nfS_nf ⟨hr.1, hr.2.2.2.2, .inl rfl⟩
theorem nr_ne {h l A M : List UInt8} {x y : UInt8} (hr : NrR h l (A ++ [x]) (M ++ [y])) (hne : ¬ x = y) : nfS h l = (A ++ [x], M ++ [y]) := by
  rw [← hr.2.2.2.1]
  exact nfS_nf ⟨hr.1, hr.2.2.2.2, .inr (by rw [List.getLast?_concat, List.getLast?_concat]; exact fun e => hne (Option.some.inj e))⟩
theorem nr_least {h l : List UInt8} {d : Nat} (hl : l ≠ []) (hd : IsLs l d) : NrR h l h (l.take d) := by
  obtain ⟨d0, d1, d2, d3⟩ := hd
  have hl0 : 0 < l.length := List.length_pos_iff.2 hl
  have hdl : d ≤ l.length := Nat.le_of_dvd hl0 d1
  have hlen : (l.take d).length = d := by rw [List.length_take]; omega
  have hne : l.take d ≠ [] := fun e => by rw [e] at hlen; simp at hlen; omega
  refine ⟨hne, by omega, Nat.le_refl _, ?_, by rw [hlen]; exact least_min d0 d1 hl0 d2 d3⟩
  exact nfS_congr hne hl fun n => rep_at d0 d1 d2 n

end Go.Proofs.YtmkflokcficmoaaDoor

/- The model's results: the normal form where it is valid; NormalSet, HasNumber. -/
namespace Go.Proofs.YtmkflokcficmoaaDoor
open Go.RowKit

theorem res_yes {h l : List UInt8} (hl : l ≠ []) (h1 : ∀ x ∈ h, x = 48 ∨ x = 49) (h2 : ∀ x ∈ l, x = 48 ∨ x = 49) (hv : svS (nfS h l).1 (nfS h l).2 = true) : resA (atS h l) = (nfS h l, true) := by
  rw [sv_nf hl h1 h2, decide_eq_true_eq] at hv
  rw [res_nf hl, if_pos hv]
theorem res_no {h l : List UInt8} (hl : l ≠ []) (h1 : ∀ x ∈ h, x = 48 ∨ x = 49) (h2 : ∀ x ∈ l, x = 48 ∨ x = 49) (hv : svS (nfS h l).1 (nfS h l).2 = false) : resA (atS h l) = (([], []), false) := by
  rw [sv_nf hl h1 h2, decide_eq_false_iff_not] at hv
  rw [res_nf hl, if_neg hv]

theorem specSetValid_b (h l : List UInt8) (w : World) (hh : h.length ≤ 1000000000) (hl : l.length ≤ 1000000000) :
    Calls Tryd.prog 22 #[.agg #[.string (bs h), .string (bs l)]] w fun e w' => e = .returned (.bool (svS h l)) ∧ Below w.heap.size w w' :=
  (specSetValid_any h l w hh hl).mono fun _ _ ⟨he, hw⟩ => ⟨he, by subst hw; go_grown⟩

/-- What NormalSet answers. -/
noncomputable def normR (h l : List UInt8) : (List UInt8 × List UInt8) × Bool := if svS h l = true then resA (atS h l) else (([], []), false)

end Go.Proofs.YtmkflokcficmoaaDoor
