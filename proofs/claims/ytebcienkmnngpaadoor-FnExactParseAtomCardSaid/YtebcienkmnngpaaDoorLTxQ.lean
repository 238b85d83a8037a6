/- The walk of the exact law of ParseAtom. -/
import Derived.Test.YtebcienkmnngpaaDoorAxS
import Derived.Test.YtebcienkmnngpaaDoorAtS
namespace Go.Proofs.YtebcienkmnngpaaDoor
open Go.RowKit

set_option maxHeartbeats 1000000 in
theorem exactParseAtom_walk (t : List UInt8) (w : World) (hE : Errs w) (hT : Tab w) :
    Calls Tryd.prog 4 #[.string (bs t)] w fun e w' => e = .returned (.bool true) ∧ Below w.heap.size w w' := by
  have hs := bs_size t
  obtain ⟨M, hM⟩ : ∃ M, t.length = M := ⟨_, rfl⟩
  rw [hM] at hs
  have HE := Lib.hid hE
  have HT := Lib.hid hT
  clear hE hT
  by_cases hb : M ≤ 1048576
  · have HS := Lib.hid fun w => specParseAtom_any t w (by omega)
    have HI := Lib.hid fun w h1 h2 => ParseAtom_any t w (by omega) h1 h2
    obtain ⟨⟨⟨k, m, a, b, c, d, n⟩, ok⟩, hr⟩ : ∃ r, paT t = r := ⟨_, rfl⟩
    rw [hr] at HS HI
    simp only [PaV, AtV] at HS HI
    have hlt : ¬ (1048576 : Int) < (M : Int) := by omega
    have e3 : (ok != ok) = false := by simp
    clear hr hb hM
    go_enter Tryd.func4, Tryd.ntmps4
    go_wp2_with fail
    refine (HS.out _).mono ?_
    rintro e w1 ⟨rfl, hb1⟩
    have HB1 := Lib.hid hb1
    go_upto_region 4 with fail
    generalize hW : World.alloc w1 _ = W2
    have hx : C7 W2 w1.heap.size k m a b c d n := by subst hW; exact (by refine ⟨?_, ?_, ?_, ?_, ?_, ?_, ?_, ?_⟩ <;> first | (simp [go_sem]; done) | (simp; omega))
    have hb2 : Below w1.heap.size w1 W2 := by subst hW; go_grown
    clear hW
    have hw2 := below_on HB1.out hb2
    clear hb1 hb2
    go_wp2_with fail
    refine (HI.out _ (errs_on HE.out hw2) (tab_on HT.out hw2)).mono ?_
    rintro e w3 ⟨rfl, hb3⟩
    have hx3 := c7_on hx hb3
    have hw3 := below_on hw2 hb3
    clear hx hb3 hw2
    go_upto_region 5 with fail
    generalize hW : World.alloc w3 _ = W4
    have hy : C7 W4 w3.heap.size k m a b c d n := by subst hW; exact (by refine ⟨?_, ?_, ?_, ?_, ?_, ?_, ?_, ?_⟩ <;> first | (simp [go_sem]; done) | (simp; omega))
    have hb4 : Below w3.heap.size w3 W4 := by subst hW; go_grown
    clear hW
    have hx4 := c7_on hx3 hb4
    have hw4 := below_on hw3 hb4
    clear hx3 hb4 hw3
    obtain ⟨x0, x1, x2, x3, x4, x5, x6, x7⟩ := id hx4
    obtain ⟨y0, y1, y2, y3, y4, y5, y6, y7⟩ := id hy
    go_wp2_with fail
    refine (eqAtom_same k m a b c d n _).mono ?_
    rintro e w5 ⟨rfl, hb5'⟩
    go_wp2
    go_ret
    exact ⟨rfl, below_on hw4 hb5'⟩
  · have hlt : (1048576 : Int) < (M : Int) := by omega
    clear hb hM
    go_enter Tryd.func4, Tryd.ntmps4
    go_wp2
    go_ret
    exact ⟨rfl, by go_grown⟩
end Go.Proofs.YtebcienkmnngpaaDoor
