/- The arguments that FnStepValid draws. -/
import Derived.Test.YtaiajdeognnndaaDrSb
namespace Go.Proofs.Ytaiajdeognnndaa
open Go.RowKit

def DsT (w : World) (e : Ending) (w' : World) : Prop :=
  ∃ (s t : Value) (F T : List Int) (N : Nat), e = .returned (.tuple #[.agg #[s, t], .int .i64 N]) ∧ RdJ w' s F ∧ RdJ w' t T ∧ F.length ≤ 10 ∧ T.length ≤ 10 ∧ N ≤ 11 ∧ Below w.heap.size w w'

set_option maxHeartbeats 2000000 in
theorem DrawStepValid_t (sp : Option Addr) (n cap : Nat) (w : World) (h : Code w sp n cap) :
    Calls Try.prog 14 #[.slice sp n cap] w (DsT w) := by
  have HC := Lib.hid h
  clear h
  go_enter Try.func14, Try.ntmps14
  go_wp2_with fail
  generalize hW : World.alloc w _ = W
  have hb0 : Below w.heap.size w W := by subst hW; go_grown
  have hx0 : W.cell? ⟨w.heap.size, 0, none⟩ = some (.slice none 0 0) := by subst hW; simp [go_sem]
  have hx1 : W.cell? ⟨w.heap.size, 1, none⟩ = some (.slice none 0 0) := by subst hW; simp [go_sem]
  have hfx : ∀ o, W.frozen? ⟨w.heap.size, o, none⟩ = false := fun o => by subst hW; simp [go_sem]
  have hsW : w.heap.size < W.heap.size := by subst hW; simp
  clear hW
  refine (l17Open_t sp n cap W (code_on HC.out hb0)).mono ?_
  rintro e w1 ⟨r, rfl, hr, hR, hb1⟩
  have hs1 := hb1.size
  have y0 : w1.cell? ⟨w.heap.size, 0, none⟩ = _ := (hb1.cell (p := ⟨w.heap.size, 0, none⟩) hsW).trans hx0
  have y1 : w1.cell? ⟨w.heap.size, 1, none⟩ = _ := (hb1.cell (p := ⟨w.heap.size, 1, none⟩) hsW).trans hx1
  have fy : ∀ o, w1.frozen? ⟨w.heap.size, o, none⟩ = false := fun o => (hb1.frozen (p := ⟨w.heap.size, o, none⟩) hsW).trans (hfx o)
  have hB1 := below_on hb0 hb1
  have HR := Lib.hid hR
  clear hx0 hx1 hfx hb0 hb1 hR
  go_wp2_with fail
  refine (pick_t r 0 12 w1 HR.out (by omega)).mono ?_
  rintro e w2 ⟨x, rfl, x0, x1, ht2⟩
  obtain ⟨N, rfl⟩ : ∃ N : Nat, x = N := ⟨x.toNat, by omega⟩
  have hrw := rd_lt HR.out
  have z0 : w2.cell? ⟨w.heap.size, 0, none⟩ = _ := (cell_only ht2.1 (show w.heap.size < w1.heap.size by omega) (by omega)).trans y0
  have z1 : w2.cell? ⟨w.heap.size, 1, none⟩ = _ := (cell_only ht2.1 (show w.heap.size < w1.heap.size by omega) (by omega)).trans y1
  have fz : ∀ o, w2.frozen? ⟨w.heap.size, o, none⟩ = false := fun o => (frozen_only ht2.1 (show w.heap.size < w1.heap.size by omega) (by omega)).trans (fy o)
  have hs2 := ht2.1.size
  have hB2 : Below w.heap.size w w2 := hB1.trans (below_only ht2.1 (by omega) (by omega))
  obtain ⟨_, q, q0, q1, hR2⟩ := ht2
  have HR2 := Lib.hid hR2
  clear y0 y1 fy hB1 hR2 HR
  go_wp2_with fail
  refine (l10Step_t r q N w2 HR2.out (by omega) (by omega) (by omega)).mono ?_
  rintro e w3 ⟨s, t, F, T, rfl, hs, ht, hF, hT, ht3⟩
  have u0 : w3.cell? ⟨w.heap.size, 0, none⟩ = _ := (cell_only ht3.1 (show w.heap.size < w2.heap.size by omega) (by omega)).trans z0
  have u1 : w3.cell? ⟨w.heap.size, 1, none⟩ = _ := (cell_only ht3.1 (show w.heap.size < w2.heap.size by omega) (by omega)).trans z1
  have fu : ∀ o, w3.frozen? ⟨w.heap.size, o, none⟩ = false := fun o => (frozen_only ht3.1 (show w.heap.size < w2.heap.size by omega) (by omega)).trans (fz o)
  have hB3 : Below w.heap.size w w3 := hB2.trans (below_only ht3.1 (by omega) (by omega))
  have hs' := rdJb_mono hs (show w.heap.size + 1 ≤ w2.heap.size by omega)
  have ht' := rdJb_mono ht (show w.heap.size + 1 ≤ w2.heap.size by omega)
  obtain ⟨sa, sn, sc, rfl⟩ := hs.slice
  obtain ⟨ta, tn, tc, rfl⟩ := ht.slice
  have HSJ := Lib.hid hs'
  have HTJ := Lib.hid ht'
  have HB3 := Lib.hid hB3
  clear z0 z1 fz hB2 hs ht hs' ht' ht3 HR2 hB3
  go_wp2_with fail
  generalize hW4 : World.setCell _ _ _ = W4
  have v0 : W4.cell? ⟨w.heap.size, 0, none⟩ = some (.slice sa sn sc) := by subst hW4; simp [go_sem, *]
  have v1 : W4.cell? ⟨w.heap.size, 1, none⟩ = some (.slice ta tn tc) := by subst hW4; simp [go_sem, *]
  have hB4 : Below w.heap.size w W4 := by subst hW4; exact (HB3.out.setCell (by dsimp only; omega) _).setCell (by dsimp only; omega) _
  have hs4 : RdJb W4 (w.heap.size + 1) (.slice sa sn sc) F := by subst hW4; exact rdJb_put (rdJb_put HSJ.out (by omega)) (by omega)
  have ht4 : RdJb W4 (w.heap.size + 1) (.slice ta tn tc) T := by subst hW4; exact rdJb_put (rdJb_put HTJ.out (by omega)) (by omega)
  clear hW4 u0 u1 fu
  go_wp2
  refine bodyPost_ret (v := .tuple #[.agg #[.slice sa sn sc, .slice ta tn tc], .int .i64 N]) (by simp [results, Try.results14, go_sem, v0, v1]) rfl ?_
  exact ⟨_, _, F, T, N, rfl, hs4.rd, ht4.rd, hF, hT, by omega, hB4⟩

end Go.Proofs.Ytaiajdeognnndaa
