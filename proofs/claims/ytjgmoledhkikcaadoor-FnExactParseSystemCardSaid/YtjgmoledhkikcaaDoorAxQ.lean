/- ParseAtom of the program. -/
import Derived.Test.YtjgmoledhkikcaaDoorAxP
namespace Go.Proofs.YtjgmoledhkikcaaDoor
open Go.RowKit

def PaV (r : AtD × Bool) : Value := .tuple #[AtV r.1, .bool r.2]
theorem pav_ret {a b : AtD × Bool} (h : a = b) : Ending.returned (PaV a) = .returned (PaV b) := by rw [h]

set_option maxRecDepth 10000 in
set_option maxHeartbeats 4000000 in
theorem ParseAtom_any (s : List UInt8) (w : World) (hl : s.length ≤ 1048576) (hE : Errs w) (ht : Tab w) :
    Calls Tryd.prog 19 #[.string (bs s)] w fun e w' => e = .returned (PaV (paT s)) ∧ Below w.heap.size w w' := by
  have hl0 := bs_list
  have hsz := bs_size
  have HE := Lib.hid hE
  have HT := Lib.hid ht
  have HRA := Lib.hid fun W h1 h2 => readAtom_any s W hl h1 h2
  have HPA := Lib.hid (pa_I s)
  clear hE ht
  obtain ⟨o, ho⟩ : ∃ o, (rdI s).2 = o := ⟨_, rfl⟩
  unfold RaT at HRA
  rw [ho] at HRA HPA
  clear ho
  go_enter Tryd.func19, Tryd.ntmps19
  go_wp2_with fail
  generalize hW : World.alloc _ _ = W
  have hz : C7 W w.heap.size 0 0 0 0 0 0 0 := by subst hW; exact (by refine ⟨?_, ?_, ?_, ?_, ?_, ?_, ?_, ?_⟩ <;> first | (simp [go_sem]; done) | (simp; omega))
  have fz0 : Hid (∀ o, W.frozen? ⟨w.heap.size, o, none⟩ = false) := by intro o; subst hW; simp [go_sem]
  have hw : Below w.heap.size w W := by subst hW; go_grown
  clear hW
  refine (HRA.out W (errs_on HE.out hw) (tab_on HT.out hw)).mono ?_
  rintro e w1 ⟨⟨k, m, a, b, c, d, n⟩, rfl, hA, hb1⟩
  simp only [AtV]
  have HA := Lib.hid hA
  have hz1 := c7_on hz hb1
  have fz1 : Hid (∀ o, w1.frozen? ⟨w.heap.size, o, none⟩ = false) := Lib.hid (fz7_on hz.1 fz0 hb1)
  have hw1 := below_on hw hb1
  clear hz fz0 hb1 hw hA
  go_upto_region 2 with fail
  generalize hW : World.alloc _ _ = W2
  have hx : C7 W2 w1.heap.size k m a b c d n := by subst hW; exact (by refine ⟨?_, ?_, ?_, ?_, ?_, ?_, ?_, ?_⟩ <;> first | (simp [go_sem]; done) | (simp; omega))
  have hb2 : Below w1.heap.size w1 W2 := by subst hW; go_grown
  clear hW
  have hz2 := c7_on hz1 hb2
  have fz2 : Hid (∀ o, W2.frozen? ⟨w.heap.size, o, none⟩ = false) := Lib.hid (fz7_on hz1.1 fz1 hb2)
  have hw2 := below_on hw1 hb2
  clear hz1 fz1 hb2 hw1
  cases o with
  | false =>
    have HV := Lib.hid (show paT s = (zA, false) from by rw [HPA.out]; rfl)
    obtain ⟨z0, z1, z2, z3, z4, z5, z6, z7⟩ := hz2
    have fz := fz2.out
    go_wp2
    refine bodyPost_ret (v := .tuple #[.agg #[.int .i64 0, .int .i64 0, .int .i64 0, .int .i64 0, .int .i64 0, .int .i64 0, .int .i64 0], .bool false]) (by simp [results, Tryd.results19, go_sem, z1, z2, z3, z4, z5, z6, z7]) rfl ⟨pav_ret HV.out.symm, ?_⟩
    exact hw2.trans (by go_grown)
  | true =>
    have hA := HA.out rfl
    rw [← hA] at HPA
    have HFA := Lib.hid fun W h => pFormatAtom_any k m a b c d n W h
    obtain ⟨F, hF⟩ : ∃ F, taL k m a b c d n = F := ⟨_, rfl⟩
    rw [hF] at HFA
    have HV := Lib.hid (show paT s = if (F == s) = true then ((⟨k, m, a, b, c, d, n⟩ : AtD), true) else (zA, false) from by
      rw [HPA.out, Bool.true_and, show txA ⟨k, m, a, b, c, d, n⟩ = F from hF])
    clear hA hF
    obtain ⟨x0, x1, x2, x3, x4, x5, x6, x7⟩ := id hx
    go_wp2_with fail
    refine (HFA.out _ (tab_on HT.out hw2)).mono ?_
    rintro e w5 ⟨rfl, hb5⟩
    have hz5 := c7_on hz2 hb5
    have fz5 : Hid (∀ o, w5.frozen? ⟨w.heap.size, o, none⟩ = false) := Lib.hid (fz7_on hz2.1 fz2 hb5)
    have hx5 := c7_on hx hb5
    have hw5 := below_on hw2 hb5
    clear hz2 fz2 hb5 hw2 hx x0 x1 x2 x3 x4 x5 x6 x7
    obtain ⟨x0, x1, x2, x3, x4, x5, x6, x7⟩ := hx5
    obtain ⟨z0, z1, z2, z3, z4, z5, z6, z7⟩ := hz5
    have fz := fz5.out
    rcases hq : (F == s) with _ | _
    · have hq2 : (F != s) = true := by unfold bne; rw [hq]; rfl
      rw [hq] at HV
      go_wp2
      refine bodyPost_ret (v := .tuple #[.agg #[.int .i64 0, .int .i64 0, .int .i64 0, .int .i64 0, .int .i64 0, .int .i64 0, .int .i64 0], .bool false]) (by simp [results, Tryd.results19, go_sem, z1, z2, z3, z4, z5, z6, z7]) rfl ⟨pav_ret HV.out.symm, ?_⟩
      exact hw5.trans (by go_grown)
    · have hq2 : (F != s) = false := by unfold bne; rw [hq]; rfl
      rw [hq] at HV
      go_wp2
      refine bodyPost_ret (v := .tuple #[.agg #[.int .i64 k, .int .i64 m, .int .i64 a, .int .i64 b, .int .i64 c, .int .i64 d, .int .i64 n], .bool true]) (by simp [results, Tryd.results19, go_sem, z1, z2, z3, z4, z5, z6, z7]) rfl ⟨pav_ret HV.out.symm, ?_⟩
      exact hw5.trans (by go_grown)

end Go.Proofs.YtjgmoledhkikcaaDoor
