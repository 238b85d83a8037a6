/- The text of a term: data; the program's multipleText. -/
import Derived.Test.YtjgmoledhkikcaaDoorStA
import Derived.Test.YtjgmoledhkikcaaDoorBas
import Derived.Test.YtjgmoledhkikcaaDoorShelf
import Derived.Lib.SmallJoins
import Derived.Lib.ItoaLen
namespace Go.Proofs.YtjgmoledhkikcaaDoor
open Go.RowKit

theorem itoa_one : Lib.itoa 1 = [49] := by
  unfold Lib.itoa
  rw [if_neg (by decide), Lib.decDigits, dif_pos (by decide)]
  rfl
theorem itoa_neg : Lib.itoa (-1) = [45, 49] := by
  unfold Lib.itoa
  rw [if_pos (by decide), Lib.decDigits, dif_pos (by decide)]
  rfl
/-- A multiple's text. -/
def mulL (n : Int) (i : Nat) : List UInt8 := if i = 4 then Lib.itoa n else (if n = 1 then [] else if n = -1 then [45] else Lib.itoa n) ++ [UInt8.ofNat (97 + i)]
theorem mul_len (n : Int) (i : Nat) (h0 : -9223372036854775808 ≤ n) (h1 : n ≤ 9223372036854775807) : (mulL n i).length ≤ 22 := by
  have := Lib.itoa_length_le n h0 h1
  unfold mulL
  split
  · omega
  · split
    · simp
    · split
      · simp
      · simp; omega
theorem mul_ne (n : Int) (i : Nat) : mulL n i ≠ [] := by
  unfold mulL
  split
  · unfold Lib.itoa
    split
    · simp
    · rw [Lib.decDigits]
      split <;> simp
  · simp
def ftL (L : List Int) : Nat → List UInt8
  | 0 => []
  | k + 1 => if L.getD k 0 = 0 then ftL L k else (if 0 < L.getD k 0 ∧ ftL L k ≠ [] then ftL L k ++ [43] else ftL L k) ++ mulL (L.getD k 0) k
/-- A term's text. -/
def tfL (a b c d n : Int) : List UInt8 := if tvB a b c d n = true then (if ftL [a, b, c, d, n] 5 = [] then [48] else ftL [a, b, c, d, n] 5) else []

/-- The library's table, as strconv.Itoa asks for it. -/
def Tab (w : World) : Prop := Lib.TabIs Tryd.prog w "internal/strconv.uint64pow10" .u64 Lib.pow10Tab

theorem tab_on {w w' : World} (h : Tab w) (hb : Below w.heap.size w w') : Tab w' := by
  obtain ⟨g, hg⟩ : ∃ g, Tryd.prog.globalNamed "internal/strconv.uint64pow10" = some g := by
    cases e : Tryd.prog.globalNamed "internal/strconv.uint64pow10" with
    | some g => exact ⟨g, rfl⟩
    | none =>
      unfold Tab Lib.TabIs World.var? at h
      rw [e] at h
      simp at h
  exact Go.Joins.tab_stays hg h hb (Nat.le_refl _)
theorem below_grw (w : World) (k : Nat) (os : Array Obj) : Below w.heap.size w (Sort.grow (w.drewN k) os) :=
  ⟨rfl, rfl, rfl, by simp [Sort.grow], fun i hi => by
    show ((w.drewN k).heap ++ os)[i]? = _
    rw [Array.getElem?_append_left (by simpa using hi)]
    rfl⟩
theorem itoa_is (n : Int) (w : World) (ht : Tab w) (h0 : -1000000 ≤ n) (h1 : n ≤ 1000000) :
    Calls Tryd.prog 57 #[.int .i64 n] w fun e w' => e = .returned (.string (bs (Lib.itoa n))) ∧ Below w.heap.size w w' :=
  (Tryd.strconv_Itoa n (by omega) (by omega) w ht).mono fun _ _ ⟨he, k, os, hw⟩ => ⟨he, by subst hw; exact below_grw w k os⟩
theorem trim_is (l r : List UInt8) (w : World) (h : Lib.trimSuffix l [49] = r) (hl : l.length ≤ 1000) :
    Calls Tryd.prog 100 #[.string (bs l), .string (bs [49])] w fun e w' => e = .returned (.string (bs r)) ∧ w = w' :=
  (Tryd.strings_TrimSuffix (bs l) (bs [49]) w (by rw [bs_size]; omega)).mono fun _ _ ⟨he, hw⟩ => ⟨by rw [he, bs_data, bs_data, h]; rfl, hw.symm⟩

theorem slice_at (i : Nat) (hi : i ≤ 3) (w : World) :
    (Instr.slice 9 (.string ⟨#[97, 98, 99, 100]⟩) (some (.int .i64 i)) (some (.int .i64 ((i : Int) + 1))) none).run Tryd.prog w = .ok (.string (bs [UInt8.ofNat (97 + i)])) w := by
  have hi' : i = 0 ∨ i = 1 ∨ i = 2 ∨ i = 3 := by omega
  rcases hi' with rfl | rfl | rfl | rfl
  all_goals
    rw [run_slice_string _ _ _ _ _ _ _ Tryd.underlying9 (by decide) (by decide) (by decide)]
    rfl

set_option maxHeartbeats 1000000 in
theorem multipleText_any (n : Int) (i : Nat) (w : World) (ht : Tab w) (hi : i ≤ 4) (h0 : -1000000 ≤ n) (h1 : n ≤ 1000000) :
    Calls Tryd.prog 81 #[.int .i64 n, .int .i64 i] w fun e w' => e = .returned (.string (bs (mulL n i))) ∧ Below w.heap.size w w' := by
  have HI := Lib.hid (itoa_is n w ht h0 h1)
  have h49 : ({ data := #[49] } : ByteArray) = bs [49] := rfl
  have happ := bs_app
  have hl := Lib.itoa_length_le n (by omega) (by omega)
  clear ht
  by_cases h4 : i = 4
  · subst h4
    have HF := Lib.hid (show mulL n 4 = Lib.itoa n by unfold mulL; rw [if_pos rfl])
    go_enter Tryd.func81, Tryd.ntmps81
    go_wp2_with fail
    refine HI.out.mono ?_
    rintro e w1 ⟨rfl, hb⟩
    go_wp2
    go_ret
    exact ⟨by rw [HF.out]; rfl, hb⟩
  · have hs := slice_at i (by omega)
    have hq4 : ((i : Int) == 4) = false := by rw [beq_eq_false_iff_ne]; omega
    have hw : IntKind.i64.wrap ((i : Int) + 1) = (i : Int) + 1 := by rw [IntKind.wrap_i64]; omega
    have H4 := Lib.hid h4
    clear h4
    obtain ⟨c, hc⟩ : ∃ c, UInt8.ofNat (97 + i) = c := ⟨_, rfl⟩
    have hsc : (bs [c]).size = 1 := bs_size _
    rw [hc] at hs
    have HC := Lib.hid hc
    clear hc
    by_cases hn1 : n = 1
    · subst hn1
      have HT := Lib.hid fun W => trim_is [49] [] W (by decide) (by decide)
      rw [itoa_one] at HI
      have HF := Lib.hid (show mulL 1 i = [c] by unfold mulL; rw [if_neg H4.out, if_pos rfl, HC.out]; rfl)
      clear hl
      go_enter Tryd.func81, Tryd.ntmps81
      go_wp2_with fail
      refine HI.out.mono ?_
      rintro e w1 ⟨rfl, hb⟩
      go_wp2_with fail
      refine (HT.out w1).mono ?_
      rintro e w2 ⟨rfl, rfl⟩
      go_wp2
      go_ret
      exact ⟨by rw [HF.out]; simp, hb⟩
    · by_cases hn2 : n = -1
      · subst hn2
        have HT := Lib.hid fun W => trim_is [45, 49] [45] W (by decide) (by decide)
        rw [itoa_neg] at HI
        have h45 : ({ data := #[45, 49] } : ByteArray) = bs [45, 49] := rfl
        have HF := Lib.hid (show mulL (-1) i = [45, c] by unfold mulL; rw [if_neg H4.out, if_neg (by decide), if_pos rfl, HC.out]; rfl)
        clear hl
        go_enter Tryd.func81, Tryd.ntmps81
        go_wp2_with fail
        refine HI.out.mono ?_
        rintro e w1 ⟨rfl, hb⟩
        go_wp2_with fail
        refine (HT.out w1).mono ?_
        rintro e w2 ⟨rfl, rfl⟩
        go_wp2
        go_ret
        exact ⟨by rw [HF.out]; rfl, hb⟩
      · have hq1 : (n == 1) = false := by rw [beq_eq_false_iff_ne]; exact hn1
        have hq2 : (n == -1) = false := by rw [beq_eq_false_iff_ne]; exact hn2
        obtain ⟨L, hL⟩ : ∃ L, Lib.itoa n = L := ⟨_, rfl⟩
        have HF := Lib.hid (show mulL n i = L ++ [c] by unfold mulL; rw [if_neg H4.out, if_neg hn1, if_neg hn2, HC.out, hL])
        have hsl : (bs L).size = L.length := bs_size _
        rw [hL] at HI hl
        clear hn1 hn2 hL
        go_enter Tryd.func81, Tryd.ntmps81
        go_wp2_with fail
        refine HI.out.mono ?_
        rintro e w1 ⟨rfl, hb⟩
        go_wp2
        go_ret
        exact ⟨by rw [HF.out]; rfl, hb⟩

end Go.Proofs.YtjgmoledhkikcaaDoor
