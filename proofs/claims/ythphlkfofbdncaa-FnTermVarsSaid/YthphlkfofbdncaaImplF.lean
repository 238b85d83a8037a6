/- Contracts of SwapVars of the program. -/
import Derived.Test.YthphlkfofbdncaaImplB
import Derived.Test.YthphlkfofbdncaaHeld
namespace Go.Proofs.Ythphlkfofbdncaa
open Go.RowKit

theorem below_dn {B k : Nat} {w W : World} (h : Below B w W) : Below B w (W.drewN k) := ⟨h.os, h.tape, h.output, h.size, h.block⟩

theorem sw_tv {a b c d n v u : Int} (h : tvB a b c d n = true) (hv : 0 ≤ v ∧ v < 4) (hu : 0 ≤ u ∧ u < 4) : tvB (if v = 0 then sel a b c d u 0 else if u = 0 then sel a b c d v 0 else a) (if v = 1 then sel a b c d u 0 else if u = 1 then sel a b c d v 0 else b) (if v = 2 then sel a b c d u 0 else if u = 2 then sel a b c d v 0 else c) (if v = 3 then sel a b c d u 0 else if u = 3 then sel a b c d v 0 else d) n = true := by
  have h' : v = 0 ∨ v = 1 ∨ v = 2 ∨ v = 3 := by omega
  have h'' : u = 0 ∨ u = 1 ∨ u = 2 ∨ u = 3 := by omega
  simp only [tvB, Bool.and_eq_true] at h
  obtain ⟨⟨⟨⟨p0, p1⟩, p2⟩, p3⟩, p4⟩ := h
  rcases h' with rfl | rfl | rfl | rfl <;> rcases h'' with rfl | rfl | rfl | rfl <;> simp [tvB, sel, *]

set_option maxHeartbeats 1000000 in
theorem SwapVars_ok (a b c d n v u A B C D : Int) (w : World) (h1 : tvB a b c d n = true) (hv : 0 ≤ v ∧ v < 4) (hu : 0 ≤ u ∧ u < 4)
    (hA : (if v = 0 then sel a b c d u 0 else if u = 0 then sel a b c d v 0 else a) = A) (hB : (if v = 1 then sel a b c d u 0 else if u = 1 then sel a b c d v 0 else b) = B) (hC : (if v = 2 then sel a b c d u 0 else if u = 2 then sel a b c d v 0 else c) = C) (hD : (if v = 3 then sel a b c d u 0 else if u = 3 then sel a b c d v 0 else d) = D) :
    Calls Try.prog 69 #[.agg #[.int .i64 a, .int .i64 b, .int .i64 c, .int .i64 d, .int .i64 n], .int .i64 v, .int .i64 u] w fun e w' => e = .returned (.tuple #[.agg #[.int .i64 A, .int .i64 B, .int .i64 C, .int .i64 D, .int .i64 n], .bool true]) ∧ Below w.heap.size w w' := by
  have h3 := sw_tv h1 hv hu
  rw [hA, hB, hC, hD] at h3
  have H1 := Lib.hid h1
  have H3 := Lib.hid h3
  have HV := Lib.hid fun W => isVar_yes v W hv.1 hv.2
  have HU := Lib.hid fun W => isVar_yes u W hu.1 hu.2
  have HS : Hid (∀ bl W, C5 W bl a b c d n → Calls Try.prog 104 #[.slice (some ⟨bl, 0, none⟩) 5 5, .int .i64 v, .int .i64 u] W fun e w' => e = .returned (.slice (some ⟨W.heap.size, 0, none⟩) 5 5) ∧ ∃ k, (W.alloc (.cells #[.int .i64 A, .int .i64 B, .int .i64 C, .int .i64 D, .int .i64 n] 3)).drewN k = w') := by
    intro bl W hl
    have := swapped_any a b c d n v u bl W hl.1 hl.2.1 hl.2.2.1 hl.2.2.2.1 hl.2.2.2.2.1 hl.2.2.2.2.2 hv.1 hv.2 hu.1 hu.2
    rw [hA, hB, hC, hD] at this
    exact this
  clear h1 h3 hv hu hA hB hC hD
  go_enter Try.func69, Try.ntmps69
  go_wp2_with fail
  refine (TermValid_is _ _ _ _ _ true _ H1.out).mono ?_
  rintro e w' ⟨rfl, rfl⟩
  go_wp2_with fail
  refine (HV.out _).mono ?_
  rintro e w' ⟨rfl, rfl⟩
  go_wp2_with fail
  refine (HU.out _).mono ?_
  rintro e w' ⟨rfl, rfl⟩
  go_wp2_with (first | (go_at_call 75; refine (multiples_any _ _ _ _ _ _).mono ?_; rintro e w' ⟨rfl, rfl⟩) | (go_at_call 104; refine (HS.out _ _ (by refine ⟨?_, ?_, ?_, ?_, ?_, ?_⟩ <;> first | (simp [go_sem]; done) | (simp; omega))).mono ?_; rintro e w' ⟨rfl, k, rfl⟩))
  refine (term_ok _ _ _ _ _ _ _ (by refine ⟨?_, ?_, ?_, ?_, ?_, ?_⟩ <;> first | (simp [go_sem]; done) | (simp; omega)) H3.out).mono ?_
  rintro e w' ⟨rfl, hb⟩
  obtain ⟨hc, hf⟩ := bcell hb
  obtain ⟨z0, z1, z2, z3, z4, z5⟩ := c5_on (x := w.heap.size + 1) (a := 0) (b := 0) (c := 0) (d := 0) (n := 0) (by refine ⟨?_, ?_, ?_, ?_, ?_, ?_⟩ <;> first | (simp [go_sem]; done) | (simp; omega)) hb
  have hzz := hb.size
  simp at hzz
  have hbb := below_step (B := w.heap.size) (w := w) (by refine below_dn ?_; go_grown) hb (by simp; omega)
  go_wp2
  refine bodyPost_ret (v := .tuple #[.agg #[.int .i64 A, .int .i64 B, .int .i64 C, .int .i64 D, .int .i64 n], .bool true]) (by simp [results, Try.results69, go_sem, z1, z2, z3, z4, z5]) rfl ⟨rfl, ?_⟩
  go_grown

theorem isVar_is (v : Int) (t : Bool) (w : World) (h : varB v = t) :
    Calls Try.prog 91 #[.int .i64 v] w fun e w' => e = .returned (.bool t) ∧ w = w' :=
  (isVar_any v w).mono fun _ _ ⟨he, hw⟩ => ⟨he.trans (ret_bool h), hw⟩

set_option maxHeartbeats 400000 in
theorem SwapVars_bad (a b c d n v u : Int) (w : World) (h : (tvB a b c d n && varB v && varB u) = false) :
    Calls Try.prog 69 #[.agg #[.int .i64 a, .int .i64 b, .int .i64 c, .int .i64 d, .int .i64 n], .int .i64 v, .int .i64 u] w fun e w' => e = .returned (.tuple #[.agg #[.int .i64 0, .int .i64 0, .int .i64 0, .int .i64 0, .int .i64 0], .bool false]) ∧ Below w.heap.size w w' := by
  by_cases h1 : tvB a b c d n = true
  · have H1 := Lib.hid h1
    by_cases h2 : varB v = true
    · have h3 : varB u = false := by simpa [h1, h2] using h
      have HV := Lib.hid fun W => isVar_is v true W h2
      have HU := Lib.hid fun W => isVar_is u false W h3
      clear h h1 h2 h3
      go_enter Try.func69, Try.ntmps69
      go_wp2_with fail
      refine (TermValid_is _ _ _ _ _ true _ H1.out).mono ?_
      rintro e w' ⟨rfl, rfl⟩
      go_wp2_with fail
      refine (HV.out _).mono ?_
      rintro e w' ⟨rfl, rfl⟩
      go_wp2_with fail
      refine (HU.out _).mono ?_
      rintro e w' ⟨rfl, rfl⟩
      go_wp2
      refine bodyPost_ret (v := .tuple #[.agg #[.int .i64 0, .int .i64 0, .int .i64 0, .int .i64 0, .int .i64 0], .bool false]) (by simp [results, Try.results69, go_sem]) rfl ⟨rfl, ?_⟩
      go_grown
    · have h3 : varB v = false := by simpa using h2
      have HV := Lib.hid fun W => isVar_is v false W h3
      clear h h1 h2 h3
      go_enter Try.func69, Try.ntmps69
      go_wp2_with fail
      refine (TermValid_is _ _ _ _ _ true _ H1.out).mono ?_
      rintro e w' ⟨rfl, rfl⟩
      go_wp2_with fail
      refine (HV.out _).mono ?_
      rintro e w' ⟨rfl, rfl⟩
      go_wp2
      refine bodyPost_ret (v := .tuple #[.agg #[.int .i64 0, .int .i64 0, .int .i64 0, .int .i64 0, .int .i64 0], .bool false]) (by simp [results, Try.results69, go_sem]) rfl ⟨rfl, ?_⟩
      go_grown
  · have h2 : tvB a b c d n = false := by simpa using h1
    have H2 := Lib.hid h2
    clear h h1 h2
    go_enter Try.func69, Try.ntmps69
    go_wp2_with fail
    refine (TermValid_is _ _ _ _ _ false _ H2.out).mono ?_
    rintro e w' ⟨rfl, rfl⟩
    go_wp2
    refine bodyPost_ret (v := .tuple #[.agg #[.int .i64 0, .int .i64 0, .int .i64 0, .int .i64 0, .int .i64 0], .bool false]) (by simp [results, Try.results69, go_sem]) rfl ⟨rfl, ?_⟩
    go_grown

end Go.Proofs.Ythphlkfofbdncaa
