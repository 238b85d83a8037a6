/- strings.Cut at one byte, and strings.CutSuffix, as the program calls them. -/
import Derived.Test.YtjgmoledhkikcaaDoorAxM
import Derived.BigQuiet
import Derived.Deep.RegionHeld3
namespace Go.Proofs.YtjgmoledhkikcaaDoor
open Go.RowKit

theorem ix1_is (c : UInt8) (t : List UInt8) (w : World) :
    Calls Tryd.prog 76 #[.string (bs t), .string ⟨#[c]⟩] w fun e w' => e = .returned (.int .i64 (Lib.indexByte t c)) ∧ w' = w :=
  (Tryd.stringslite_Index_one (bs t) c w).mono fun _ _ ⟨he, hw⟩ => ⟨by rw [he, bs_data], hw⟩
theorem sfx_is (l p : List UInt8) (w : World) (hl : l.length ≤ 1000000000) :
    Calls Tryd.prog 54 #[.string (bs l), .string (bs p)] w fun e w' => e = .returned (.tuple #[.string (bs (Lib.trimSuffix l p)), .bool (Lib.hasSuffix l p)]) ∧ w' = w :=
  (Tryd.strings_CutSuffix (bs l) (bs p) w (by rw [bs_size]; omega)).mono fun _ _ ⟨he, hw⟩ => ⟨by rw [he, bs_data, bs_data]; rfl, hw⟩

set_option maxHeartbeats 1000000 in
theorem ct_none (c : UInt8) (t : List UInt8) (w : World) (h : Lib.indexByte t c = -1) :
    Calls Tryd.prog 60 #[.string (bs t), .string ⟨#[c]⟩] w fun e w' => e = .returned (.tuple #[.string (bs t), .string (bs []), .bool false]) ∧ w' = w := by
  have HI := Lib.hid fun w => ix1_is c t w
  rw [h] at HI
  clear h
  go_enter Tryd.func60, Tryd.ntmps60
  go_wp2_with fail
  refine (HI.out _).mono ?_
  rintro e w1 ⟨rfl, rfl⟩
  go_wp2
  refine bodyPost_ret (v := .tuple #[.string (bs t), .string (bs []), .bool false]) (by simp [results, Tryd.results60, go_sem]; rfl) rfl ⟨rfl, ?_⟩
  rfl
set_option maxHeartbeats 1000000 in
theorem ct_at (c : UInt8) (t : List UInt8) (k : Nat) (w : World) (h : Lib.indexByte t c = k) (hk : k < t.length) (ht : t.length ≤ 1000000000) :
    Calls Tryd.prog 60 #[.string (bs t), .string ⟨#[c]⟩] w fun e w' => e = .returned (.tuple #[.string (bs (t.take k)), .string (bs (t.drop (k + 1))), .bool true]) ∧ Below w.heap.size w w' := by
  have HI := Lib.hid fun w => ix1_is c t w
  rw [h] at HI
  have h1 := rn_upto (P := Tryd.prog) Tryd.underlying9 (l := t) (k := k) (by omega) rfl .i64
  have h2 := rn_from (P := Tryd.prog) Tryd.underlying9 (l := t) (k := k + 1) (by omega) rfl .i64
  have hwk : IntKind.i64.wrap ((k : Int) + 1) = ((k + 1 : Nat) : Int) := by rw [IntKind.wrap_i64]; omega
  have hk0 : (0 : Int) ≤ (k : Int) := by omega
  obtain ⟨A, hA⟩ : ∃ A, t.take k = A := ⟨_, rfl⟩
  obtain ⟨B, hB⟩ : ∃ A, t.drop (k + 1) = A := ⟨_, rfl⟩
  obtain ⟨m, hm⟩ : ∃ m, k + 1 = m := ⟨_, rfl⟩
  rw [hA] at h1
  rw [hB] at h2
  rw [hA, hB]
  rw [hm] at h2 hwk
  have hsz : ({ data := #[c] } : ByteArray).size = 1 := rfl
  clear h hk ht hA hB hm
  go_enter Tryd.func60, Tryd.ntmps60
  go_wp2_with fail
  refine (HI.out _).mono ?_
  rintro e w1 ⟨rfl, rfl⟩
  go_wp2_with fail
  go_region
  go_wp2
  refine bodyPost_ret (v := .tuple #[.string (bs A), .string (bs B), .bool true]) (by simp [results, Tryd.results60, go_sem]) rfl ⟨rfl, ?_⟩
  go_grown
/-- What strings.Cut answers at one byte. -/
def ctV (c : UInt8) (t : List UInt8) : Value := match spC c t with
  | some q => .tuple #[.string (bs q.1), .string (bs q.2), .bool true]
  | none => .tuple #[.string (bs t), .string (bs []), .bool false]
theorem ct_any (c : UInt8) (t : List UInt8) (w : World) (ht : t.length ≤ 1000000000) :
    Calls Tryd.prog 60 #[.string (bs t), .string ⟨#[c]⟩] w fun e w' => e = .returned (ctV c t) ∧ Below w.heap.size w w' := by
  have hi := idx_sp c t
  unfold ctV
  cases hs : spC c t with
  | none =>
    rw [hs] at hi
    exact (ct_none c t w hi).mono fun _ _ ⟨he, hw⟩ => ⟨he, by rw [hw]; exact Below.refl _ _⟩
  | some q =>
    rw [hs] at hi
    obtain ⟨e, _⟩ := spC_some (a := q.1) (b := q.2) hs
    have hk : q.1.length < t.length := by rw [e]; simp
    refine (ct_at c t q.1.length w hi hk ht).mono fun _ _ ⟨he, hw⟩ => ⟨?_, hw⟩
    rw [he]
    have e1 : t.take q.1.length = q.1 := by rw [e, List.take_left]
    have e2 : t.drop (q.1.length + 1) = q.2 := by rw [e, show q.1.length + 1 = (q.1 ++ [c]).length by simp, show q.1 ++ c :: q.2 = (q.1 ++ [c]) ++ q.2 by simp, List.drop_left]
    rw [e1, e2]
theorem cuts_any (c : UInt8) (t : List UInt8) (w : World) (ht : t.length ≤ 1000000000) :
    Calls Tryd.prog 41 #[.string (bs t), .string ⟨#[c]⟩] w fun e w' => e = .returned (ctV c t) ∧ Below w.heap.size w w' := by
  have HI := Lib.hid fun w => ct_any c t w ht
  unfold ctV at HI ⊢
  cases hs : spC c t with
  | none =>
    rw [hs] at HI
    clear hs
    go_enter Tryd.func41, Tryd.ntmps41
    go_wp2_with fail
    refine (HI.out _).mono ?_
    rintro e w1 ⟨rfl, hb1⟩
    go_wp2
    refine bodyPost_ret (v := .tuple #[.string (bs t), .string (bs []), .bool false]) (by simp [results, Tryd.results41, go_sem]) rfl ⟨rfl, ?_⟩
    exact hb1
  | some q =>
    rw [hs] at HI
    clear hs
    go_enter Tryd.func41, Tryd.ntmps41
    go_wp2_with fail
    refine (HI.out _).mono ?_
    rintro e w1 ⟨rfl, hb1⟩
    go_wp2
    refine bodyPost_ret (v := .tuple #[.string (bs q.1), .string (bs q.2), .bool true]) (by simp [results, Tryd.results41, go_sem]) rfl ⟨rfl, ?_⟩
    exact hb1
end Go.Proofs.YtjgmoledhkikcaaDoor
