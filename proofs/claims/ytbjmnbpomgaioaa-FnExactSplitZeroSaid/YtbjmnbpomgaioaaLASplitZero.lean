/- The walk of the law that says that SplitZero answers as its model does. -/
import Derived.Test.YtbjmnbpomgaioaaAtO
namespace Go.Proofs.Ytbjmnbpomgaioaa
open Go.RowKit

set_option maxRecDepth 10000 in
set_option maxHeartbeats 2000000 in
theorem exactSplitZero_walk (k m a b c d n : Int) (w : World) :
    Calls Try.prog 5 #[.agg #[.int .i64 k, .int .i64 m, .int .i64 a, .int .i64 b, .int .i64 c, .int .i64 d, .int .i64 n]] w fun e w' => e = .returned (.bool true) ∧ Below w.heap.size w w' := by
  have HSP := Lib.hid fun W => specSplitZero_t k m a b c d n W
  have HIM := Lib.hid fun W => SplitZero_t k m a b c d n W
  have hlen : (if avB k m a b c d n = true ∧ k = 1 then szL a b c d n else []).length ≤ 2 := by split <;> simp [szL]
  obtain ⟨L, hL⟩ : ∃ L, (if avB k m a b c d n = true ∧ k = 1 then szL a b c d n else []) = L := ⟨_, rfl⟩
  obtain ⟨ok, hok⟩ : ∃ ok, decide (avB k m a b c d n = true ∧ k = 1) = ok := ⟨_, rfl⟩
  rw [hL, hok] at HSP HIM
  rw [hL] at hlen
  clear hL hok
  obtain ⟨N, hN⟩ : ∃ N : Int, 1 + ((L.length * 7 : Nat) : Int) = N := ⟨_, rfl⟩
  have hN0 : 0 ≤ N := by omega
  have hN1 : N ≤ 15 := by omega
  have HN := Lib.hid hN
  clear hN
  go_enter Try.func5, Try.ntmps5
  go_wp2_with fail
  generalize hW : World.alloc _ _ = W
  have hx : C7 W w.heap.size k m a b c d n := by subst hW; exact (by refine ⟨?_, ?_, ?_, ?_, ?_, ?_, ?_, ?_⟩ <;> first | (simp [go_sem]; done) | (simp; omega))
  have hw0 : Below w.heap.size w W := by subst hW; go_grown
  clear hW
  refine (toAtom_any k m a b c d n _).mono ?_
  rintro e t1 ⟨rfl, hbt1⟩
  have hwt1 := below_on hw0 hbt1
  go_wp2_with fail
  refine (HSP.out _).mono ?_
  rintro e w1 ⟨v0, rfl, ho, hb⟩
  have hw1 := below_on hwt1 hb
  have HR0 := Lib.hid (ownA_reads ho)
  have hx1 := c7_on hx (below_on hbt1 hb)
  obtain ⟨x0, x1, x2, x3, x4, x5, x6, x7⟩ := id hx1
  clear ho hb hx hbt1
  go_wp2_with fail
  refine (toAtom_any k m a b c d n _).mono ?_
  rintro e t2 ⟨rfl, hbt2⟩
  go_wp2_with fail
  refine (HIM.out _).mono ?_
  rintro e w2 ⟨v1, rfl, ho, hb⟩
  have hb12 := below_on hbt2 hb
  have HO1 := Lib.hid (show OwnA w2 w1.heap.size v1 L from own_mono ho hbt2.size)
  clear x0 x1 x2 x3 x4 x5 x6 x7 ho hb hbt2
  go_wp2_with fail
  refine (eqAtomS_same _ _ L _ (ownA_reads HO1.out) (readsA_on HR0.out hb12) (by omega)).mono ?_
  rintro e w3 ⟨rfl, hb3⟩
  have HO3 := Lib.hid (show OwnA w3 w1.heap.size v1 L from own_below HO1.out hb3)
  have hb13 := below_on hb12 hb3
  clear hb3 hb12
  go_wp2_with fail
  refine (markAtomS_t w1.heap.size _ 1 N L _ HO3.out hb13.size (by omega) (by omega) (by omega) HN.out).mono ?_
  rintro e w4 ⟨rfl, ho4, hb4⟩
  have hb14 := hb13.trans hb4
  have HO4 := Lib.hid ho4
  have hx4 := c7_on hx1 hb14
  obtain ⟨x0, x1, x2, x3, x4, x5, x6, x7⟩ := id hx4
  clear ho4 hb4 hb13
  go_wp2_with fail
  refine (heldAtomS_t _ 1 N L.length _ (ownA_reads HO4.out) (by omega) (by omega) (by omega) HN.out).mono ?_
  rintro e w' ⟨rfl, rfl⟩
  go_wp2_with fail
  refine (toAtom_any k m a b c d n _).mono ?_
  rintro e t5 ⟨rfl, hbt5⟩
  go_wp2_with fail
  refine (HIM.out _).mono ?_
  rintro e w5 ⟨v2, rfl, ho, hb⟩
  have hb45 := below_on hbt5 hb
  have HR5 := Lib.hid (ownA_reads ho)
  have hb15 := below_on hb14 hb45
  have HO5 := Lib.hid (show OwnA w5 w1.heap.size v1 (marksA 1 L.length) from own_below HO4.out hb45)
  clear ho hb hbt5 hb45 x0 x1 x2 x3 x4 x5 x6 x7
  go_wp2_with fail
  refine (eqAtomS_same _ _ L _ HR5.out (readsA_on HR0.out hb15) (by omega)).mono ?_
  rintro e w6 ⟨rfl, hb6⟩
  have hb16 := below_on hb15 hb6
  have HO6 := Lib.hid (show OwnA w6 w1.heap.size v1 (marksA 1 L.length) from own_below HO5.out hb6)
  clear hb6
  go_wp2_with fail
  refine (heldAtomS_t _ 1 N L.length _ (ownA_reads HO6.out) (by omega) (by omega) (by omega) HN.out).mono ?_
  rintro e w' ⟨rfl, rfl⟩
  go_wp2
  go_ret
  exact ⟨rfl, below_on hw1 hb16⟩

end Go.Proofs.Ytbjmnbpomgaioaa
