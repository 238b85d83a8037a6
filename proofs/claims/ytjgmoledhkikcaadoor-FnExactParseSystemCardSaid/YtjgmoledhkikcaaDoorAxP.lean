/- Reading an atom's text, the program. -/
import Derived.Test.YtjgmoledhkikcaaDoorAxC
import Derived.Test.YtjgmoledhkikcaaDoorAtC
namespace Go.Proofs.YtjgmoledhkikcaaDoor
open Go.RowKit

theorem trim_len (s p : List UInt8) : (Lib.trimSuffix s p).length ≤ s.length := by
  unfold Lib.trimSuffix
  split
  · rw [List.length_take]; omega
  · exact Nat.le_refl _
theorem ra_ret {v : Value} {a b : Bool} (h : a = b) : Ending.returned (.tuple #[v, .bool a]) = .returned (.tuple #[v, .bool b]) := by rw [h]
def AtV (A : AtD) : Value := .agg #[.int .i64 A.k, .int .i64 A.m, .int .i64 A.a, .int .i64 A.b, .int .i64 A.c, .int .i64 A.d, .int .i64 A.n]
def RaT (s : List UInt8) (w : World) (e : Ending) (w' : World) : Prop :=
  ∃ A : AtD, e = .returned (.tuple #[AtV A, .bool (rdI s).2]) ∧ ((rdI s).2 = true → A = (rdI s).1) ∧ Below w.heap.size w w'

set_option maxRecDepth 10000 in
set_option maxHeartbeats 8000000 in
theorem readAtom_any (s : List UInt8) (w : World) (hl : s.length ≤ 1048576) (hE : Errs w) (ht : Tab w) : Calls Tryd.prog 33 #[.string (bs s)] w (RaT s w) := by
  have hl0 := bs_list
  have hsz := bs_size
  have h3 : ({ data := #[60, 61, 48] } : ByteArray) = bs [60, 61, 48] := rfl
  have h2 : ({ data := #[61, 48] } : ByteArray) = bs [61, 48] := rfl
  have HE := Lib.hid hE
  have HT := Lib.hid ht
  have HS3 := Lib.hid fun W => sfx_is s [60, 61, 48] W (by omega)
  have HS2 := Lib.hid fun W => sfx_is s [61, 48] W (by omega)
  clear hE ht
  rcases hq3 : Lib.hasSuffix s [60, 61, 48] with _ | _
  · rw [hq3] at HS3
    rcases hq2 : Lib.hasSuffix s [61, 48] with _ | _
    · rw [hq2] at HS2
      have HC1 := Lib.hid fun W => cuts_any 124 s W (by omega)
      have HC2 := Lib.hid fun W => cuts_any 33 s W (by omega)
      unfold ctV at HC1 HC2
      rcases hc1 : spC 124 s with _ | ⟨A1, B1⟩
      · rw [hc1] at HC1
        rcases hc2 : spC 33 s with _ | ⟨A1, B1⟩
        · have HRD := Lib.hid (show rdI s = (tmA 3 ((atB s).getD 0) [], (ptT []).2 && (atB s).isSome) from by unfold rdI; rw [hq3, hq2, hc1, hc2]; rfl)
          rw [hc2] at HC2
          clear hq3 hq2 hc1 hc2
          obtain ⟨⟨⟨a, b, c, d, n⟩, o⟩, hpt⟩ : ∃ r, ptT [] = r := ⟨_, rfl⟩
          have HPT := Lib.hid fun W h1 h2 => ParseTerm_any [] W (by first | omega | (simp)) h1 h2
          rw [hpt] at HPT
          simp only [PtV] at HPT
          go_enter Tryd.func33, Tryd.ntmps33
          go_wp2_with fail
          generalize hW : World.alloc _ _ = W
          have hz : C7 W w.heap.size 0 0 0 0 0 0 0 := by subst hW; exact (by refine ⟨?_, ?_, ?_, ?_, ?_, ?_, ?_, ?_⟩ <;> first | (simp [go_sem]; done) | (simp; omega))
          have fz0 : Hid (∀ o, W.frozen? ⟨w.heap.size, o, none⟩ = false) := by intro o; subst hW; simp [go_sem]
          have hwa : Below w.heap.size w W := by subst hW; go_grown
          clear hW
          refine (HS3.out _).mono ?_
          rintro e w1 ⟨rfl, rfl⟩
          go_wp2_with fail
          refine (HS2.out _).mono ?_
          rintro e w1 ⟨rfl, rfl⟩
          go_wp2_with fail
          refine (HC1.out _).mono ?_
          rintro e w1 ⟨rfl, hb1⟩
          have hz1 := c7_on hz hb1
          have fz1 : Hid (∀ o, w1.frozen? ⟨w.heap.size, o, none⟩ = false) := Lib.hid (fz7_on hz.1 fz0 hb1)
          have hwc := below_on hwa hb1
          clear hz fz0 hwa hb1
          have hz := hz1
          have fz0 := fz1
          have hwa := hwc
          clear hz1 fz1 hwc
          go_wp2_with fail
          refine (HC2.out _).mono ?_
          rintro e w1' ⟨rfl, hb1⟩
          have hz1 := c7_on hz hb1
          have fz1 : Hid (∀ o, w1'.frozen? ⟨w.heap.size, o, none⟩ = false) := Lib.hid (fz7_on hz.1 fz0 hb1)
          have hwc := below_on hwa hb1
          clear hz fz0 hwa hb1
          have hz := hz1
          have fz0 := fz1
          have hwa := hwc
          clear hz1 fz1 hwc
          rcases hat : atB s with _ | v
          · have HAT := Lib.hid fun W hW => atoi_no s (fun v hv => by unfold atB at hat; rw [hv] at hat; cases hat) (by omega) W hW
            go_wp2_with fail
            refine (HAT.out _ (errs_on HE.out hwa)).mono ?_
            rintro e w2 ⟨v, N, rfl, hb2⟩
            have hz2 := c7_on hz hb2
            have fz2 : Hid (∀ o, w2.frozen? ⟨w.heap.size, o, none⟩ = false) := Lib.hid (fz7_on hz.1 fz0 hb2)
            have hwb := below_on hwa hb2
            clear hz fz0 hwa hb2
            have hz := hz2
            have fz0 := fz2
            have hwa := hwb
            clear hz2 fz2 hwb
            cases o with
            | false =>
              have HV := Lib.hid (show (rdI s).2 = false ∧ ((rdI s).2 = true → (⟨3, v, a, b, c, d, n⟩ : AtD) = (rdI s).1) from by rw [HRD.out, hpt]; exact ⟨rfl, fun h => by cases h⟩)
              clear hpt
              go_wp2_with fail
              refine (HPT.out _ (errs_on HE.out hwa) (tab_on HT.out hwa)).mono ?_
              rintro e w3 ⟨rfl, hb3⟩
              have hz3 := c7_on hz hb3
              have fz3 : Hid (∀ o, w3.frozen? ⟨w.heap.size, o, none⟩ = false) := Lib.hid (fz7_on hz.1 fz0 hb3)
              have hw3 := below_on hwa hb3
              clear hz fz0 hb3
              go_upto_region 16 with fail
              generalize hW : World.alloc _ _ = W4
              have hx : C5 W4 w3.heap.size a b c d n := by subst hW; exact (by refine ⟨?_, ?_, ?_, ?_, ?_, ?_⟩ <;> first | (simp [go_sem]; done) | (simp; omega))
              have hb4 : Below w3.heap.size w3 W4 := by subst hW; go_grown
              clear hW
              have hz4 := c7_on hz3 hb4
              have fz4 : Hid (∀ o, W4.frozen? ⟨w.heap.size, o, none⟩ = false) := Lib.hid (fz7_on hz3.1 fz3 hb4)
              have hw4 := below_on hw3 hb4
              clear hz3 fz3 hb4 hw3
              obtain ⟨z0, z1, z2, z3, z4, z5, z6, z7⟩ := hz4
              obtain ⟨x0, x1, x2, x3, x4, x5⟩ := hx
              have fz := fz4.out
              go_region
              go_wp2
              refine bodyPost_ret (v := .tuple #[.agg #[.int .i64 3, .int .i64 v, .int .i64 a, .int .i64 b, .int .i64 c, .int .i64 d, .int .i64 n], .bool false]) (by simp [results, Tryd.results33, go_sem, z1, z2, z3, z4, z5, z6, z7]) rfl ⟨⟨3, v, a, b, c, d, n⟩, ra_ret HV.out.1.symm, HV.out.2, ?_⟩
              exact hw4.trans (by go_grown)
            | true =>
              have HV := Lib.hid (show (rdI s).2 = false ∧ ((rdI s).2 = true → (⟨3, v, a, b, c, d, n⟩ : AtD) = (rdI s).1) from by rw [HRD.out, hpt, hat]; exact ⟨rfl, fun h => by cases h⟩)
              clear hpt
              go_wp2_with fail
              refine (HPT.out _ (errs_on HE.out hwa) (tab_on HT.out hwa)).mono ?_
              rintro e w3 ⟨rfl, hb3⟩
              have hz3 := c7_on hz hb3
              have fz3 : Hid (∀ o, w3.frozen? ⟨w.heap.size, o, none⟩ = false) := Lib.hid (fz7_on hz.1 fz0 hb3)
              have hw3 := below_on hwa hb3
              clear hz fz0 hb3
              go_upto_region 16 with fail
              generalize hW : World.alloc _ _ = W4
              have hx : C5 W4 w3.heap.size a b c d n := by subst hW; exact (by refine ⟨?_, ?_, ?_, ?_, ?_, ?_⟩ <;> first | (simp [go_sem]; done) | (simp; omega))
              have hb4 : Below w3.heap.size w3 W4 := by subst hW; go_grown
              clear hW
              have hz4 := c7_on hz3 hb4
              have fz4 : Hid (∀ o, W4.frozen? ⟨w.heap.size, o, none⟩ = false) := Lib.hid (fz7_on hz3.1 fz3 hb4)
              have hw4 := below_on hw3 hb4
              clear hz3 fz3 hb4 hw3
              obtain ⟨z0, z1, z2, z3, z4, z5, z6, z7⟩ := hz4
              obtain ⟨x0, x1, x2, x3, x4, x5⟩ := hx
              have fz := fz4.out
              go_region
              go_wp2
              refine bodyPost_ret (v := .tuple #[.agg #[.int .i64 3, .int .i64 v, .int .i64 a, .int .i64 b, .int .i64 c, .int .i64 d, .int .i64 n], .bool false]) (by simp [results, Tryd.results33, go_sem, z1, z2, z3, z4, z5, z6, z7]) rfl ⟨⟨3, v, a, b, c, d, n⟩, ra_ret HV.out.1.symm, HV.out.2, ?_⟩
              exact hw4.trans (by go_grown)
          · have HAT := Lib.hid fun W => atoi_ok s v (by unfold atB at hat; cases h : Lib.atoiAll s with | ok u => rw [h] at hat; simp only [Option.some.injEq] at hat; rw [hat] | «syntax» => rw [h] at hat; cases hat | range => rw [h] at hat; cases hat) (by omega) W
            go_wp2_with fail
            refine (HAT.out _).mono ?_
            rintro e w2 ⟨rfl, hb2⟩
            have hz2 := c7_on hz hb2
            have fz2 : Hid (∀ o, w2.frozen? ⟨w.heap.size, o, none⟩ = false) := Lib.hid (fz7_on hz.1 fz0 hb2)
            have hwb := below_on hwa hb2
            clear hz fz0 hwa hb2
            have hz := hz2
            have fz0 := fz2
            have hwa := hwb
            clear hz2 fz2 hwb
            cases o with
            | false =>
              have HV := Lib.hid (show (rdI s).2 = false ∧ ((rdI s).2 = true → (⟨3, v, a, b, c, d, n⟩ : AtD) = (rdI s).1) from by rw [HRD.out, hpt]; exact ⟨rfl, fun h => by cases h⟩)
              clear hpt
              go_wp2_with fail
              refine (HPT.out _ (errs_on HE.out hwa) (tab_on HT.out hwa)).mono ?_
              rintro e w3 ⟨rfl, hb3⟩
              have hz3 := c7_on hz hb3
              have fz3 : Hid (∀ o, w3.frozen? ⟨w.heap.size, o, none⟩ = false) := Lib.hid (fz7_on hz.1 fz0 hb3)
              have hw3 := below_on hwa hb3
              clear hz fz0 hb3
              go_upto_region 16 with fail
              generalize hW : World.alloc _ _ = W4
              have hx : C5 W4 w3.heap.size a b c d n := by subst hW; exact (by refine ⟨?_, ?_, ?_, ?_, ?_, ?_⟩ <;> first | (simp [go_sem]; done) | (simp; omega))
              have hb4 : Below w3.heap.size w3 W4 := by subst hW; go_grown
              clear hW
              have hz4 := c7_on hz3 hb4
              have fz4 : Hid (∀ o, W4.frozen? ⟨w.heap.size, o, none⟩ = false) := Lib.hid (fz7_on hz3.1 fz3 hb4)
              have hw4 := below_on hw3 hb4
              clear hz3 fz3 hb4 hw3
              obtain ⟨z0, z1, z2, z3, z4, z5, z6, z7⟩ := hz4
              obtain ⟨x0, x1, x2, x3, x4, x5⟩ := hx
              have fz := fz4.out
              go_region
              go_wp2
              refine bodyPost_ret (v := .tuple #[.agg #[.int .i64 3, .int .i64 v, .int .i64 a, .int .i64 b, .int .i64 c, .int .i64 d, .int .i64 n], .bool false]) (by simp [results, Tryd.results33, go_sem, z1, z2, z3, z4, z5, z6, z7]) rfl ⟨⟨3, v, a, b, c, d, n⟩, ra_ret HV.out.1.symm, HV.out.2, ?_⟩
              exact hw4.trans (by go_grown)
            | true =>
              have HV := Lib.hid (show (rdI s).2 = true ∧ ((rdI s).2 = true → (⟨3, v, a, b, c, d, n⟩ : AtD) = (rdI s).1) from by rw [HRD.out, hpt, hat]; exact ⟨rfl, fun _ => (by unfold tmA; rw [hpt]; rfl)⟩)
              clear hpt
              go_wp2_with fail
              refine (HPT.out _ (errs_on HE.out hwa) (tab_on HT.out hwa)).mono ?_
              rintro e w3 ⟨rfl, hb3⟩
              have hz3 := c7_on hz hb3
              have fz3 : Hid (∀ o, w3.frozen? ⟨w.heap.size, o, none⟩ = false) := Lib.hid (fz7_on hz.1 fz0 hb3)
              have hw3 := below_on hwa hb3
              clear hz fz0 hb3
              go_upto_region 16 with fail
              generalize hW : World.alloc _ _ = W4
              have hx : C5 W4 w3.heap.size a b c d n := by subst hW; exact (by refine ⟨?_, ?_, ?_, ?_, ?_, ?_⟩ <;> first | (simp [go_sem]; done) | (simp; omega))
              have hb4 : Below w3.heap.size w3 W4 := by subst hW; go_grown
              clear hW
              have hz4 := c7_on hz3 hb4
              have fz4 : Hid (∀ o, W4.frozen? ⟨w.heap.size, o, none⟩ = false) := Lib.hid (fz7_on hz3.1 fz3 hb4)
              have hw4 := below_on hw3 hb4
              clear hz3 fz3 hb4 hw3
              obtain ⟨z0, z1, z2, z3, z4, z5, z6, z7⟩ := hz4
              obtain ⟨x0, x1, x2, x3, x4, x5⟩ := hx
              have fz := fz4.out
              go_region
              go_wp2
              refine bodyPost_ret (v := .tuple #[.agg #[.int .i64 3, .int .i64 v, .int .i64 a, .int .i64 b, .int .i64 c, .int .i64 d, .int .i64 n], .bool true]) (by simp [results, Tryd.results33, go_sem, z1, z2, z3, z4, z5, z6, z7]) rfl ⟨⟨3, v, a, b, c, d, n⟩, ra_ret HV.out.1.symm, HV.out.2, ?_⟩
              exact hw4.trans (by go_grown)
        · have HRD := Lib.hid (show rdI s = (tmA 3 ((atB A1).getD 0) B1, (ptT B1).2 && (atB A1).isSome) from by unfold rdI; rw [hq3, hq2, hc1, hc2]; rfl)
          have hlA : A1.length ≤ 1048576 ∧ B1.length ≤ 1048576 := by have := congrArg List.length (spC_some hc2).1; simp at this; omega
          rw [hc2] at HC2
          clear hq3 hq2 hc1 hc2
          obtain ⟨hlA1, hlB1⟩ := hlA
          obtain ⟨⟨⟨a, b, c, d, n⟩, o⟩, hpt⟩ : ∃ r, ptT B1 = r := ⟨_, rfl⟩
          have HPT := Lib.hid fun W h1 h2 => ParseTerm_any B1 W (by first | omega | (simp)) h1 h2
          rw [hpt] at HPT
          simp only [PtV] at HPT
          go_enter Tryd.func33, Tryd.ntmps33
          go_wp2_with fail
          generalize hW : World.alloc _ _ = W
          have hz : C7 W w.heap.size 0 0 0 0 0 0 0 := by subst hW; exact (by refine ⟨?_, ?_, ?_, ?_, ?_, ?_, ?_, ?_⟩ <;> first | (simp [go_sem]; done) | (simp; omega))
          have fz0 : Hid (∀ o, W.frozen? ⟨w.heap.size, o, none⟩ = false) := by intro o; subst hW; simp [go_sem]
          have hwa : Below w.heap.size w W := by subst hW; go_grown
          clear hW
          refine (HS3.out _).mono ?_
          rintro e w1 ⟨rfl, rfl⟩
          go_wp2_with fail
          refine (HS2.out _).mono ?_
          rintro e w1 ⟨rfl, rfl⟩
          go_wp2_with fail
          refine (HC1.out _).mono ?_
          rintro e w1 ⟨rfl, hb1⟩
          have hz1 := c7_on hz hb1
          have fz1 : Hid (∀ o, w1.frozen? ⟨w.heap.size, o, none⟩ = false) := Lib.hid (fz7_on hz.1 fz0 hb1)
          have hwc := below_on hwa hb1
          clear hz fz0 hwa hb1
          have hz := hz1
          have fz0 := fz1
          have hwa := hwc
          clear hz1 fz1 hwc
          go_wp2_with fail
          refine (HC2.out _).mono ?_
          rintro e w1' ⟨rfl, hb1⟩
          have hz1 := c7_on hz hb1
          have fz1 : Hid (∀ o, w1'.frozen? ⟨w.heap.size, o, none⟩ = false) := Lib.hid (fz7_on hz.1 fz0 hb1)
          have hwc := below_on hwa hb1
          clear hz fz0 hwa hb1
          have hz := hz1
          have fz0 := fz1
          have hwa := hwc
          clear hz1 fz1 hwc
          rcases hat : atB A1 with _ | v
          · have HAT := Lib.hid fun W hW => atoi_no A1 (fun v hv => by unfold atB at hat; rw [hv] at hat; cases hat) (by omega) W hW
            go_wp2_with fail
            refine (HAT.out _ (errs_on HE.out hwa)).mono ?_
            rintro e w2 ⟨v, N, rfl, hb2⟩
            have hz2 := c7_on hz hb2
            have fz2 : Hid (∀ o, w2.frozen? ⟨w.heap.size, o, none⟩ = false) := Lib.hid (fz7_on hz.1 fz0 hb2)
            have hwb := below_on hwa hb2
            clear hz fz0 hwa hb2
            have hz := hz2
            have fz0 := fz2
            have hwa := hwb
            clear hz2 fz2 hwb
            cases o with
            | false =>
              have HV := Lib.hid (show (rdI s).2 = false ∧ ((rdI s).2 = true → (⟨3, v, a, b, c, d, n⟩ : AtD) = (rdI s).1) from by rw [HRD.out, hpt]; exact ⟨rfl, fun h => by cases h⟩)
              clear hpt
              go_wp2_with fail
              refine (HPT.out _ (errs_on HE.out hwa) (tab_on HT.out hwa)).mono ?_
              rintro e w3 ⟨rfl, hb3⟩
              have hz3 := c7_on hz hb3
              have fz3 : Hid (∀ o, w3.frozen? ⟨w.heap.size, o, none⟩ = false) := Lib.hid (fz7_on hz.1 fz0 hb3)
              have hw3 := below_on hwa hb3
              clear hz fz0 hb3
              go_upto_region 16 with fail
              generalize hW : World.alloc _ _ = W4
              have hx : C5 W4 w3.heap.size a b c d n := by subst hW; exact (by refine ⟨?_, ?_, ?_, ?_, ?_, ?_⟩ <;> first | (simp [go_sem]; done) | (simp; omega))
              have hb4 : Below w3.heap.size w3 W4 := by subst hW; go_grown
              clear hW
              have hz4 := c7_on hz3 hb4
              have fz4 : Hid (∀ o, W4.frozen? ⟨w.heap.size, o, none⟩ = false) := Lib.hid (fz7_on hz3.1 fz3 hb4)
              have hw4 := below_on hw3 hb4
              clear hz3 fz3 hb4 hw3
              obtain ⟨z0, z1, z2, z3, z4, z5, z6, z7⟩ := hz4
              obtain ⟨x0, x1, x2, x3, x4, x5⟩ := hx
              have fz := fz4.out
              go_region
              go_wp2
              refine bodyPost_ret (v := .tuple #[.agg #[.int .i64 3, .int .i64 v, .int .i64 a, .int .i64 b, .int .i64 c, .int .i64 d, .int .i64 n], .bool false]) (by simp [results, Tryd.results33, go_sem, z1, z2, z3, z4, z5, z6, z7]) rfl ⟨⟨3, v, a, b, c, d, n⟩, ra_ret HV.out.1.symm, HV.out.2, ?_⟩
              exact hw4.trans (by go_grown)
            | true =>
              have HV := Lib.hid (show (rdI s).2 = false ∧ ((rdI s).2 = true → (⟨3, v, a, b, c, d, n⟩ : AtD) = (rdI s).1) from by rw [HRD.out, hpt, hat]; exact ⟨rfl, fun h => by cases h⟩)
              clear hpt
              go_wp2_with fail
              refine (HPT.out _ (errs_on HE.out hwa) (tab_on HT.out hwa)).mono ?_
              rintro e w3 ⟨rfl, hb3⟩
              have hz3 := c7_on hz hb3
              have fz3 : Hid (∀ o, w3.frozen? ⟨w.heap.size, o, none⟩ = false) := Lib.hid (fz7_on hz.1 fz0 hb3)
              have hw3 := below_on hwa hb3
              clear hz fz0 hb3
              go_upto_region 16 with fail
              generalize hW : World.alloc _ _ = W4
              have hx : C5 W4 w3.heap.size a b c d n := by subst hW; exact (by refine ⟨?_, ?_, ?_, ?_, ?_, ?_⟩ <;> first | (simp [go_sem]; done) | (simp; omega))
              have hb4 : Below w3.heap.size w3 W4 := by subst hW; go_grown
              clear hW
              have hz4 := c7_on hz3 hb4
              have fz4 : Hid (∀ o, W4.frozen? ⟨w.heap.size, o, none⟩ = false) := Lib.hid (fz7_on hz3.1 fz3 hb4)
              have hw4 := below_on hw3 hb4
              clear hz3 fz3 hb4 hw3
              obtain ⟨z0, z1, z2, z3, z4, z5, z6, z7⟩ := hz4
              obtain ⟨x0, x1, x2, x3, x4, x5⟩ := hx
              have fz := fz4.out
              go_region
              go_wp2
              refine bodyPost_ret (v := .tuple #[.agg #[.int .i64 3, .int .i64 v, .int .i64 a, .int .i64 b, .int .i64 c, .int .i64 d, .int .i64 n], .bool false]) (by simp [results, Tryd.results33, go_sem, z1, z2, z3, z4, z5, z6, z7]) rfl ⟨⟨3, v, a, b, c, d, n⟩, ra_ret HV.out.1.symm, HV.out.2, ?_⟩
              exact hw4.trans (by go_grown)
          · have HAT := Lib.hid fun W => atoi_ok A1 v (by unfold atB at hat; cases h : Lib.atoiAll A1 with | ok u => rw [h] at hat; simp only [Option.some.injEq] at hat; rw [hat] | «syntax» => rw [h] at hat; cases hat | range => rw [h] at hat; cases hat) (by omega) W
            go_wp2_with fail
            refine (HAT.out _).mono ?_
            rintro e w2 ⟨rfl, hb2⟩
            have hz2 := c7_on hz hb2
            have fz2 : Hid (∀ o, w2.frozen? ⟨w.heap.size, o, none⟩ = false) := Lib.hid (fz7_on hz.1 fz0 hb2)
            have hwb := below_on hwa hb2
            clear hz fz0 hwa hb2
            have hz := hz2
            have fz0 := fz2
            have hwa := hwb
            clear hz2 fz2 hwb
            cases o with
            | false =>
              have HV := Lib.hid (show (rdI s).2 = false ∧ ((rdI s).2 = true → (⟨3, v, a, b, c, d, n⟩ : AtD) = (rdI s).1) from by rw [HRD.out, hpt]; exact ⟨rfl, fun h => by cases h⟩)
              clear hpt
              go_wp2_with fail
              refine (HPT.out _ (errs_on HE.out hwa) (tab_on HT.out hwa)).mono ?_
              rintro e w3 ⟨rfl, hb3⟩
              have hz3 := c7_on hz hb3
              have fz3 : Hid (∀ o, w3.frozen? ⟨w.heap.size, o, none⟩ = false) := Lib.hid (fz7_on hz.1 fz0 hb3)
              have hw3 := below_on hwa hb3
              clear hz fz0 hb3
              go_upto_region 16 with fail
              generalize hW : World.alloc _ _ = W4
              have hx : C5 W4 w3.heap.size a b c d n := by subst hW; exact (by refine ⟨?_, ?_, ?_, ?_, ?_, ?_⟩ <;> first | (simp [go_sem]; done) | (simp; omega))
              have hb4 : Below w3.heap.size w3 W4 := by subst hW; go_grown
              clear hW
              have hz4 := c7_on hz3 hb4
              have fz4 : Hid (∀ o, W4.frozen? ⟨w.heap.size, o, none⟩ = false) := Lib.hid (fz7_on hz3.1 fz3 hb4)
              have hw4 := below_on hw3 hb4
              clear hz3 fz3 hb4 hw3
              obtain ⟨z0, z1, z2, z3, z4, z5, z6, z7⟩ := hz4
              obtain ⟨x0, x1, x2, x3, x4, x5⟩ := hx
              have fz := fz4.out
              go_region
              go_wp2
              refine bodyPost_ret (v := .tuple #[.agg #[.int .i64 3, .int .i64 v, .int .i64 a, .int .i64 b, .int .i64 c, .int .i64 d, .int .i64 n], .bool false]) (by simp [results, Tryd.results33, go_sem, z1, z2, z3, z4, z5, z6, z7]) rfl ⟨⟨3, v, a, b, c, d, n⟩, ra_ret HV.out.1.symm, HV.out.2, ?_⟩
              exact hw4.trans (by go_grown)
            | true =>
              have HV := Lib.hid (show (rdI s).2 = true ∧ ((rdI s).2 = true → (⟨3, v, a, b, c, d, n⟩ : AtD) = (rdI s).1) from by rw [HRD.out, hpt, hat]; exact ⟨rfl, fun _ => (by unfold tmA; rw [hpt]; rfl)⟩)
              clear hpt
              go_wp2_with fail
              refine (HPT.out _ (errs_on HE.out hwa) (tab_on HT.out hwa)).mono ?_
              rintro e w3 ⟨rfl, hb3⟩
              have hz3 := c7_on hz hb3
              have fz3 : Hid (∀ o, w3.frozen? ⟨w.heap.size, o, none⟩ = false) := Lib.hid (fz7_on hz.1 fz0 hb3)
              have hw3 := below_on hwa hb3
              clear hz fz0 hb3
              go_upto_region 16 with fail
              generalize hW : World.alloc _ _ = W4
              have hx : C5 W4 w3.heap.size a b c d n := by subst hW; exact (by refine ⟨?_, ?_, ?_, ?_, ?_, ?_⟩ <;> first | (simp [go_sem]; done) | (simp; omega))
              have hb4 : Below w3.heap.size w3 W4 := by subst hW; go_grown
              clear hW
              have hz4 := c7_on hz3 hb4
              have fz4 : Hid (∀ o, W4.frozen? ⟨w.heap.size, o, none⟩ = false) := Lib.hid (fz7_on hz3.1 fz3 hb4)
              have hw4 := below_on hw3 hb4
              clear hz3 fz3 hb4 hw3
              obtain ⟨z0, z1, z2, z3, z4, z5, z6, z7⟩ := hz4
              obtain ⟨x0, x1, x2, x3, x4, x5⟩ := hx
              have fz := fz4.out
              go_region
              go_wp2
              refine bodyPost_ret (v := .tuple #[.agg #[.int .i64 3, .int .i64 v, .int .i64 a, .int .i64 b, .int .i64 c, .int .i64 d, .int .i64 n], .bool true]) (by simp [results, Tryd.results33, go_sem, z1, z2, z3, z4, z5, z6, z7]) rfl ⟨⟨3, v, a, b, c, d, n⟩, ra_ret HV.out.1.symm, HV.out.2, ?_⟩
              exact hw4.trans (by go_grown)
      · have HRD := Lib.hid (show rdI s = (tmA 2 ((atB A1).getD 0) B1, (ptT B1).2 && (atB A1).isSome) from by unfold rdI; rw [hq3, hq2, hc1]; rfl)
        have hlA : A1.length ≤ 1048576 ∧ B1.length ≤ 1048576 := by have := congrArg List.length (spC_some hc1).1; simp at this; omega
        rw [hc1] at HC1
        clear hq3 hq2 hc1
        obtain ⟨hlA1, hlB1⟩ := hlA
        obtain ⟨⟨⟨a, b, c, d, n⟩, o⟩, hpt⟩ : ∃ r, ptT B1 = r := ⟨_, rfl⟩
        have HPT := Lib.hid fun W h1 h2 => ParseTerm_any B1 W (by first | omega | (simp)) h1 h2
        rw [hpt] at HPT
        simp only [PtV] at HPT
        go_enter Tryd.func33, Tryd.ntmps33
        go_wp2_with fail
        generalize hW : World.alloc _ _ = W
        have hz : C7 W w.heap.size 0 0 0 0 0 0 0 := by subst hW; exact (by refine ⟨?_, ?_, ?_, ?_, ?_, ?_, ?_, ?_⟩ <;> first | (simp [go_sem]; done) | (simp; omega))
        have fz0 : Hid (∀ o, W.frozen? ⟨w.heap.size, o, none⟩ = false) := by intro o; subst hW; simp [go_sem]
        have hwa : Below w.heap.size w W := by subst hW; go_grown
        clear hW
        refine (HS3.out _).mono ?_
        rintro e w1 ⟨rfl, rfl⟩
        go_wp2_with fail
        refine (HS2.out _).mono ?_
        rintro e w1 ⟨rfl, rfl⟩
        go_wp2_with fail
        refine (HC1.out _).mono ?_
        rintro e w1 ⟨rfl, hb1⟩
        have hz1 := c7_on hz hb1
        have fz1 : Hid (∀ o, w1.frozen? ⟨w.heap.size, o, none⟩ = false) := Lib.hid (fz7_on hz.1 fz0 hb1)
        have hwc := below_on hwa hb1
        clear hz fz0 hwa hb1
        have hz := hz1
        have fz0 := fz1
        have hwa := hwc
        clear hz1 fz1 hwc
        rcases hat : atB A1 with _ | v
        · have HAT := Lib.hid fun W hW => atoi_no A1 (fun v hv => by unfold atB at hat; rw [hv] at hat; cases hat) (by omega) W hW
          go_wp2_with fail
          refine (HAT.out _ (errs_on HE.out hwa)).mono ?_
          rintro e w2 ⟨v, N, rfl, hb2⟩
          have hz2 := c7_on hz hb2
          have fz2 : Hid (∀ o, w2.frozen? ⟨w.heap.size, o, none⟩ = false) := Lib.hid (fz7_on hz.1 fz0 hb2)
          have hwb := below_on hwa hb2
          clear hz fz0 hwa hb2
          have hz := hz2
          have fz0 := fz2
          have hwa := hwb
          clear hz2 fz2 hwb
          cases o with
          | false =>
            have HV := Lib.hid (show (rdI s).2 = false ∧ ((rdI s).2 = true → (⟨2, v, a, b, c, d, n⟩ : AtD) = (rdI s).1) from by rw [HRD.out, hpt]; exact ⟨rfl, fun h => by cases h⟩)
            clear hpt
            go_wp2_with fail
            refine (HPT.out _ (errs_on HE.out hwa) (tab_on HT.out hwa)).mono ?_
            rintro e w3 ⟨rfl, hb3⟩
            have hz3 := c7_on hz hb3
            have fz3 : Hid (∀ o, w3.frozen? ⟨w.heap.size, o, none⟩ = false) := Lib.hid (fz7_on hz.1 fz0 hb3)
            have hw3 := below_on hwa hb3
            clear hz fz0 hb3
            go_upto_region 16 with fail
            generalize hW : World.alloc _ _ = W4
            have hx : C5 W4 w3.heap.size a b c d n := by subst hW; exact (by refine ⟨?_, ?_, ?_, ?_, ?_, ?_⟩ <;> first | (simp [go_sem]; done) | (simp; omega))
            have hb4 : Below w3.heap.size w3 W4 := by subst hW; go_grown
            clear hW
            have hz4 := c7_on hz3 hb4
            have fz4 : Hid (∀ o, W4.frozen? ⟨w.heap.size, o, none⟩ = false) := Lib.hid (fz7_on hz3.1 fz3 hb4)
            have hw4 := below_on hw3 hb4
            clear hz3 fz3 hb4 hw3
            obtain ⟨z0, z1, z2, z3, z4, z5, z6, z7⟩ := hz4
            obtain ⟨x0, x1, x2, x3, x4, x5⟩ := hx
            have fz := fz4.out
            go_region
            go_wp2
            refine bodyPost_ret (v := .tuple #[.agg #[.int .i64 2, .int .i64 v, .int .i64 a, .int .i64 b, .int .i64 c, .int .i64 d, .int .i64 n], .bool false]) (by simp [results, Tryd.results33, go_sem, z1, z2, z3, z4, z5, z6, z7]) rfl ⟨⟨2, v, a, b, c, d, n⟩, ra_ret HV.out.1.symm, HV.out.2, ?_⟩
            exact hw4.trans (by go_grown)
          | true =>
            have HV := Lib.hid (show (rdI s).2 = false ∧ ((rdI s).2 = true → (⟨2, v, a, b, c, d, n⟩ : AtD) = (rdI s).1) from by rw [HRD.out, hpt, hat]; exact ⟨rfl, fun h => by cases h⟩)
            clear hpt
            go_wp2_with fail
            refine (HPT.out _ (errs_on HE.out hwa) (tab_on HT.out hwa)).mono ?_
            rintro e w3 ⟨rfl, hb3⟩
            have hz3 := c7_on hz hb3
            have fz3 : Hid (∀ o, w3.frozen? ⟨w.heap.size, o, none⟩ = false) := Lib.hid (fz7_on hz.1 fz0 hb3)
            have hw3 := below_on hwa hb3
            clear hz fz0 hb3
            go_upto_region 16 with fail
            generalize hW : World.alloc _ _ = W4
            have hx : C5 W4 w3.heap.size a b c d n := by subst hW; exact (by refine ⟨?_, ?_, ?_, ?_, ?_, ?_⟩ <;> first | (simp [go_sem]; done) | (simp; omega))
            have hb4 : Below w3.heap.size w3 W4 := by subst hW; go_grown
            clear hW
            have hz4 := c7_on hz3 hb4
            have fz4 : Hid (∀ o, W4.frozen? ⟨w.heap.size, o, none⟩ = false) := Lib.hid (fz7_on hz3.1 fz3 hb4)
            have hw4 := below_on hw3 hb4
            clear hz3 fz3 hb4 hw3
            obtain ⟨z0, z1, z2, z3, z4, z5, z6, z7⟩ := hz4
            obtain ⟨x0, x1, x2, x3, x4, x5⟩ := hx
            have fz := fz4.out
            go_region
            go_wp2
            refine bodyPost_ret (v := .tuple #[.agg #[.int .i64 2, .int .i64 v, .int .i64 a, .int .i64 b, .int .i64 c, .int .i64 d, .int .i64 n], .bool false]) (by simp [results, Tryd.results33, go_sem, z1, z2, z3, z4, z5, z6, z7]) rfl ⟨⟨2, v, a, b, c, d, n⟩, ra_ret HV.out.1.symm, HV.out.2, ?_⟩
            exact hw4.trans (by go_grown)
        · have HAT := Lib.hid fun W => atoi_ok A1 v (by unfold atB at hat; cases h : Lib.atoiAll A1 with | ok u => rw [h] at hat; simp only [Option.some.injEq] at hat; rw [hat] | «syntax» => rw [h] at hat; cases hat | range => rw [h] at hat; cases hat) (by omega) W
          go_wp2_with fail
          refine (HAT.out _).mono ?_
          rintro e w2 ⟨rfl, hb2⟩
          have hz2 := c7_on hz hb2
          have fz2 : Hid (∀ o, w2.frozen? ⟨w.heap.size, o, none⟩ = false) := Lib.hid (fz7_on hz.1 fz0 hb2)
          have hwb := below_on hwa hb2
          clear hz fz0 hwa hb2
          have hz := hz2
          have fz0 := fz2
          have hwa := hwb
          clear hz2 fz2 hwb
          cases o with
          | false =>
            have HV := Lib.hid (show (rdI s).2 = false ∧ ((rdI s).2 = true → (⟨2, v, a, b, c, d, n⟩ : AtD) = (rdI s).1) from by rw [HRD.out, hpt]; exact ⟨rfl, fun h => by cases h⟩)
            clear hpt
            go_wp2_with fail
            refine (HPT.out _ (errs_on HE.out hwa) (tab_on HT.out hwa)).mono ?_
            rintro e w3 ⟨rfl, hb3⟩
            have hz3 := c7_on hz hb3
            have fz3 : Hid (∀ o, w3.frozen? ⟨w.heap.size, o, none⟩ = false) := Lib.hid (fz7_on hz.1 fz0 hb3)
            have hw3 := below_on hwa hb3
            clear hz fz0 hb3
            go_upto_region 16 with fail
            generalize hW : World.alloc _ _ = W4
            have hx : C5 W4 w3.heap.size a b c d n := by subst hW; exact (by refine ⟨?_, ?_, ?_, ?_, ?_, ?_⟩ <;> first | (simp [go_sem]; done) | (simp; omega))
            have hb4 : Below w3.heap.size w3 W4 := by subst hW; go_grown
            clear hW
            have hz4 := c7_on hz3 hb4
            have fz4 : Hid (∀ o, W4.frozen? ⟨w.heap.size, o, none⟩ = false) := Lib.hid (fz7_on hz3.1 fz3 hb4)
            have hw4 := below_on hw3 hb4
            clear hz3 fz3 hb4 hw3
            obtain ⟨z0, z1, z2, z3, z4, z5, z6, z7⟩ := hz4
            obtain ⟨x0, x1, x2, x3, x4, x5⟩ := hx
            have fz := fz4.out
            go_region
            go_wp2
            refine bodyPost_ret (v := .tuple #[.agg #[.int .i64 2, .int .i64 v, .int .i64 a, .int .i64 b, .int .i64 c, .int .i64 d, .int .i64 n], .bool false]) (by simp [results, Tryd.results33, go_sem, z1, z2, z3, z4, z5, z6, z7]) rfl ⟨⟨2, v, a, b, c, d, n⟩, ra_ret HV.out.1.symm, HV.out.2, ?_⟩
            exact hw4.trans (by go_grown)
          | true =>
            have HV := Lib.hid (show (rdI s).2 = true ∧ ((rdI s).2 = true → (⟨2, v, a, b, c, d, n⟩ : AtD) = (rdI s).1) from by rw [HRD.out, hpt, hat]; exact ⟨rfl, fun _ => (by unfold tmA; rw [hpt]; rfl)⟩)
            clear hpt
            go_wp2_with fail
            refine (HPT.out _ (errs_on HE.out hwa) (tab_on HT.out hwa)).mono ?_
            rintro e w3 ⟨rfl, hb3⟩
            have hz3 := c7_on hz hb3
            have fz3 : Hid (∀ o, w3.frozen? ⟨w.heap.size, o, none⟩ = false) := Lib.hid (fz7_on hz.1 fz0 hb3)
            have hw3 := below_on hwa hb3
            clear hz fz0 hb3
            go_upto_region 16 with fail
            generalize hW : World.alloc _ _ = W4
            have hx : C5 W4 w3.heap.size a b c d n := by subst hW; exact (by refine ⟨?_, ?_, ?_, ?_, ?_, ?_⟩ <;> first | (simp [go_sem]; done) | (simp; omega))
            have hb4 : Below w3.heap.size w3 W4 := by subst hW; go_grown
            clear hW
            have hz4 := c7_on hz3 hb4
            have fz4 : Hid (∀ o, W4.frozen? ⟨w.heap.size, o, none⟩ = false) := Lib.hid (fz7_on hz3.1 fz3 hb4)
            have hw4 := below_on hw3 hb4
            clear hz3 fz3 hb4 hw3
            obtain ⟨z0, z1, z2, z3, z4, z5, z6, z7⟩ := hz4
            obtain ⟨x0, x1, x2, x3, x4, x5⟩ := hx
            have fz := fz4.out
            go_region
            go_wp2
            refine bodyPost_ret (v := .tuple #[.agg #[.int .i64 2, .int .i64 v, .int .i64 a, .int .i64 b, .int .i64 c, .int .i64 d, .int .i64 n], .bool true]) (by simp [results, Tryd.results33, go_sem, z1, z2, z3, z4, z5, z6, z7]) rfl ⟨⟨2, v, a, b, c, d, n⟩, ra_ret HV.out.1.symm, HV.out.2, ?_⟩
            exact hw4.trans (by go_grown)
    · rw [hq2] at HS2
      have HRD := Lib.hid (show rdI s = (tmA 1 0 (Lib.trimSuffix s [61, 48]), (ptT (Lib.trimSuffix s [61, 48])).2) from by unfold rdI; rw [hq3, hq2]; rfl)
      clear hq3 hq2
      obtain ⟨⟨⟨a, b, c, d, n⟩, o⟩, hpt⟩ : ∃ r, ptT (Lib.trimSuffix s [61, 48]) = r := ⟨_, rfl⟩
      have HPT := Lib.hid fun W h1 h2 => ParseTerm_any (Lib.trimSuffix s [61, 48]) W (by have := trim_len s [61, 48]; omega) h1 h2
      rw [hpt] at HPT
      simp only [PtV] at HPT
      have HV := Lib.hid (show (rdI s).2 = o ∧ ((rdI s).2 = true → (⟨1, 0, a, b, c, d, n⟩ : AtD) = (rdI s).1) from by rw [HRD.out]; unfold tmA; rw [hpt]; exact ⟨rfl, fun _ => rfl⟩)
      clear hpt
      go_enter Tryd.func33, Tryd.ntmps33
      go_wp2_with fail
      generalize hW : World.alloc _ _ = W
      have hz : C7 W w.heap.size 0 0 0 0 0 0 0 := by subst hW; exact (by refine ⟨?_, ?_, ?_, ?_, ?_, ?_, ?_, ?_⟩ <;> first | (simp [go_sem]; done) | (simp; omega))
      have fz0 : Hid (∀ o, W.frozen? ⟨w.heap.size, o, none⟩ = false) := by intro o; subst hW; simp [go_sem]
      have hwa : Below w.heap.size w W := by subst hW; go_grown
      clear hW
      refine (HS3.out _).mono ?_
      rintro e w1 ⟨rfl, rfl⟩
      go_wp2_with fail
      refine (HS2.out _).mono ?_
      rintro e w1 ⟨rfl, rfl⟩
      go_wp2_with fail
      refine (HPT.out _ (errs_on HE.out hwa) (tab_on HT.out hwa)).mono ?_
      rintro e w3 ⟨rfl, hb3⟩
      have hz3 := c7_on hz hb3
      have fz3 : Hid (∀ o, w3.frozen? ⟨w.heap.size, o, none⟩ = false) := Lib.hid (fz7_on hz.1 fz0 hb3)
      have hw3 := below_on hwa hb3
      clear hz fz0 hb3
      go_upto_region 8 with fail
      generalize hW : World.alloc _ _ = W4
      have hx : C5 W4 w3.heap.size a b c d n := by subst hW; exact (by refine ⟨?_, ?_, ?_, ?_, ?_, ?_⟩ <;> first | (simp [go_sem]; done) | (simp; omega))
      have hb4 : Below w3.heap.size w3 W4 := by subst hW; go_grown
      clear hW
      have hz4 := c7_on hz3 hb4
      have fz4 : Hid (∀ o, W4.frozen? ⟨w.heap.size, o, none⟩ = false) := Lib.hid (fz7_on hz3.1 fz3 hb4)
      have hw4 := below_on hw3 hb4
      clear hz3 fz3 hb4 hw3
      obtain ⟨z0, z1, z2, z3, z4, z5, z6, z7⟩ := hz4
      obtain ⟨x0, x1, x2, x3, x4, x5⟩ := hx
      have fz := fz4.out
      go_wp2
      refine bodyPost_ret (v := .tuple #[.agg #[.int .i64 1, .int .i64 0, .int .i64 a, .int .i64 b, .int .i64 c, .int .i64 d, .int .i64 n], .bool o]) (by simp [results, Tryd.results33, go_sem, z1, z2, z3, z4, z5, z6, z7]) rfl ⟨⟨1, 0, a, b, c, d, n⟩, ra_ret HV.out.1.symm, HV.out.2, ?_⟩
      exact hw4.trans (by go_grown)
  · rw [hq3] at HS3
    have HRD := Lib.hid (show rdI s = (tmA 0 0 (Lib.trimSuffix s [60, 61, 48]), (ptT (Lib.trimSuffix s [60, 61, 48])).2) from by unfold rdI; rw [hq3]; rfl)
    clear hq3
    obtain ⟨⟨⟨a, b, c, d, n⟩, o⟩, hpt⟩ : ∃ r, ptT (Lib.trimSuffix s [60, 61, 48]) = r := ⟨_, rfl⟩
    have HPT := Lib.hid fun W h1 h2 => ParseTerm_any (Lib.trimSuffix s [60, 61, 48]) W (by have := trim_len s [60, 61, 48]; omega) h1 h2
    rw [hpt] at HPT
    simp only [PtV] at HPT
    have HV := Lib.hid (show (rdI s).2 = o ∧ ((rdI s).2 = true → (⟨0, 0, a, b, c, d, n⟩ : AtD) = (rdI s).1) from by rw [HRD.out]; unfold tmA; rw [hpt]; exact ⟨rfl, fun _ => rfl⟩)
    clear hpt
    go_enter Tryd.func33, Tryd.ntmps33
    go_wp2_with fail
    generalize hW : World.alloc _ _ = W
    have hz : C7 W w.heap.size 0 0 0 0 0 0 0 := by subst hW; exact (by refine ⟨?_, ?_, ?_, ?_, ?_, ?_, ?_, ?_⟩ <;> first | (simp [go_sem]; done) | (simp; omega))
    have fz0 : Hid (∀ o, W.frozen? ⟨w.heap.size, o, none⟩ = false) := by intro o; subst hW; simp [go_sem]
    have hwa : Below w.heap.size w W := by subst hW; go_grown
    clear hW
    refine (HS3.out _).mono ?_
    rintro e w1 ⟨rfl, rfl⟩
    go_wp2_with fail
    refine (HPT.out _ (errs_on HE.out hwa) (tab_on HT.out hwa)).mono ?_
    rintro e w3 ⟨rfl, hb3⟩
    have hz3 := c7_on hz hb3
    have fz3 : Hid (∀ o, w3.frozen? ⟨w.heap.size, o, none⟩ = false) := Lib.hid (fz7_on hz.1 fz0 hb3)
    have hw3 := below_on hwa hb3
    clear hz fz0 hb3
    go_upto_region 4 with fail
    generalize hW : World.alloc _ _ = W4
    have hx : C5 W4 w3.heap.size a b c d n := by subst hW; exact (by refine ⟨?_, ?_, ?_, ?_, ?_, ?_⟩ <;> first | (simp [go_sem]; done) | (simp; omega))
    have hb4 : Below w3.heap.size w3 W4 := by subst hW; go_grown
    clear hW
    have hz4 := c7_on hz3 hb4
    have fz4 : Hid (∀ o, W4.frozen? ⟨w.heap.size, o, none⟩ = false) := Lib.hid (fz7_on hz3.1 fz3 hb4)
    have hw4 := below_on hw3 hb4
    clear hz3 fz3 hb4 hw3
    obtain ⟨z0, z1, z2, z3, z4, z5, z6, z7⟩ := hz4
    obtain ⟨x0, x1, x2, x3, x4, x5⟩ := hx
    have fz := fz4.out
    go_wp2
    refine bodyPost_ret (v := .tuple #[.agg #[.int .i64 0, .int .i64 0, .int .i64 a, .int .i64 b, .int .i64 c, .int .i64 d, .int .i64 n], .bool o]) (by simp [results, Tryd.results33, go_sem, z1, z2, z3, z4, z5, z6, z7]) rfl ⟨⟨0, 0, a, b, c, d, n⟩, ra_ret HV.out.1.symm, HV.out.2, ?_⟩
    exact hw4.trans (by go_grown)

end Go.Proofs.YtjgmoledhkikcaaDoor
