/- The walk of the law that says that BoundsAt answers as its model does. -/
import Derived.Test.YtmnppdkoehdplaaSyE
import Derived.Deep.RegionHeld3
namespace Go.Proofs.Ytmnppdkoehdplaa
open Go.RowKit

theorem keepP {W w' : World} {B : Nat} {x y z u : Int} (hp : C4 W B x y z u) (hB : Below W.heap.size W w') :
    Below W.heap.size W w' ∧ (w'.cell? ⟨B, 0, none⟩ = some (.int .i64 x) ∧ w'.cell? ⟨B, 1, none⟩ = some (.int .i64 y) ∧ w'.cell? ⟨B, 2, none⟩ = some (.int .i64 z) ∧ w'.cell? ⟨B, 3, none⟩ = some (.int .i64 u)) := ⟨hB, (c4_on hp hB).2⟩

set_option maxRecDepth 100000 in
set_option maxHeartbeats 4000000 in
theorem exactBoundsAt_walk (v : Value) (i x y z u : Int) (L : List AtD) (w : World) (h : RdG w v L) :
    Calls Try.prog 4 #[v, .int .i64 i, .agg #[.int .i64 x, .int .i64 y, .int .i64 z, .int .i64 u]] w fun e w' => e = .returned (.bool true) ∧ Below w.heap.size w w' := by
  have HS := Lib.hid h
  obtain ⟨sp, cap, rfl, _⟩ := h
  by_cases hsz : L.length ≤ 1048576
  · have HZ : Hid (szI L.length 1048576 = ((1048576 - L.length : Nat) : Int)) := szI_pos hsz
    obtain ⟨l, hl⟩ : ∃ l : Nat, 1048576 - L.length = l := ⟨_, rfl⟩
    rw [hl] at HZ
    have hl0 : ¬ (l : Int) < 0 := by omega
    have HSZ := Lib.hid hsz
    have HBA := Lib.hid (fun s W hs => specBoundsAt_any s i x y z u L W hs hsz)
    have HBI := Lib.hid (fun s W hs => BoundsAt_any s i x y z u L W hs hsz)
    obtain ⟨r, hr⟩ : ∃ r, bdT i x y z u L = r := ⟨_, rfl⟩
    rw [hr] at HBA HBI
    obtain ⟨⟨lo, hi⟩, ok⟩ := r
    simp only [BT] at HBA HBI
    have e1 : (lo != lo) = false := by simp
    have e2 : (hi != hi) = false := by simp
    have e3 : (ok != ok) = false := by simp
    clear hl hsz hr
    go_enter Try.func4, Try.ntmps4
    go_wp2_with fail
    generalize hW : World.alloc _ _ = W0
    have hx : C4 W0 w.heap.size x y z u := by subst hW; exact (by refine ⟨?_, ?_, ?_, ?_, ?_⟩ <;> first | (simp [go_sem]; done) | (simp; omega))
    have hw0 : Below w.heap.size w W0 := by subst hW; go_grown
    clear hW
    have HS0 := Lib.hid (rdG_on HS.out hw0)
    refine (szAtomS_is _ _ _ HS0.out).mono ?_
    rintro e w1 ⟨rfl, rfl⟩
    rw [HZ.out]
    go_wp2_with fail
    go_region_held3 (fun w' => Below W0.heap.size W0 w' ∧ (w'.cell? ⟨w.heap.size, 0, none⟩ = some (.int .i64 x) ∧ w'.cell? ⟨w.heap.size, 1, none⟩ = some (.int .i64 y) ∧ w'.cell? ⟨w.heap.size, 2, none⟩ = some (.int .i64 z) ∧ w'.cell? ⟨w.heap.size, 3, none⟩ = some (.int .i64 u))) (exact keepP hx (by go_grown)) (first | (go_at_call 8; refine (toAtomS_is _ L _ HSZ.out (rdG_on HS0.out (by go_grown))).mono ?_; rintro e w2 ⟨s2, rfl, hs2, hb2⟩; obtain ⟨a2, n2, c2, rfl⟩ := hs2.slice; have hbb2 := below_on (w := W0) (by go_grown) hb2; have hs1 : W0.heap.size ≤ w2.heap.size := hbb2.size) | (go_at_call 12; refine (toPoint_any _ _ _ _ _).mono ?_; rintro e w' ⟨rfl, rfl⟩) | (go_at_call 11; refine (HBA.out _ _ (readsA_on hs2 (by go_grown))).mono ?_; rintro e w3 ⟨rfl, hb3⟩; have hbb3 := below_on (w := W0) (by go_grown) hb3; have hs3 : W0.heap.size ≤ w3.heap.size := hbb3.size))
    all_goals
      have hx3 := c4_on hx hbb3
      have HS3 := Lib.hid (rdG_on HS0.out hbb3)
      have hw3 := below_on hw0 hbb3
      clear hb3 hbb3 hs3 hs2 hb2 hbb2 hs1 hx HS0 hw0
      go_wp2_with fail
      refine (toAtomS_is _ L w3 HSZ.out HS3.out).mono ?_
      rintro e w4 ⟨s4, rfl, hs4, hb4⟩
      obtain ⟨a4, n4, c4, rfl⟩ := hs4.slice
      have hw4 := below_on hw3 hb4
      have hx4 := c4_on hx3 hb4
      have HA := Lib.hid hs4
      clear hw3 hb4 hs4 hx3 HS3
      obtain ⟨x0, d0, d1, d2, d3⟩ := id hx4
      go_wp2_with fail
      refine (toPoint_any _ _ _ _ _).mono ?_
      rintro e w5 ⟨rfl, hb5⟩
      have hb5' : Below w4.heap.size w4 w5 := by subst hb5; go_grown
      have hw5 := below_on hw4 hb5'
      have HA5 := Lib.hid (readsA_on HA.out hb5')
      clear hb5 hb5' hw4 hx4 x0 d0 d1 d2 d3
      go_wp2_with fail
      refine (HBI.out _ _ HA5.out).mono ?_
      rintro e w6 ⟨rfl, hb6⟩
      have hw6 := below_on hw5 hb6
      have HA6 := Lib.hid (readsA_on HA5.out hb6)
      clear hw5 hb6
      go_wp2_with fail
      refine (toAtomS_is _ L w6 HSZ.out (rdG_on HS.out hw6)).mono ?_
      rintro e w7 ⟨s7, rfl, hs7, hb7⟩
      obtain ⟨a7, n7, c7, rfl⟩ := hs7.slice
      have HA7 := Lib.hid (readsA_on HA6.out hb7)
      have HS7 := Lib.hid hs7
      clear hs7
      go_wp2_with fail
      refine (eqAtomS_big _ _ L _ HA7.out HS7.out HSZ.out).mono ?_
      rintro e w8 ⟨rfl, hb8⟩
      go_wp2
      go_ret
      exact ⟨rfl, below_on hw6 (below_on hb7 hb8)⟩
  · have hz : szI L.length 1048576 = -1 := szI_neg (by omega)
    have HZ := Lib.hid hz
    clear hz
    go_enter Try.func4, Try.ntmps4
    go_wp2_with fail
    generalize hW : World.alloc _ _ = W0
    have hw0 : Below w.heap.size w W0 := by subst hW; go_grown
    clear hW
    refine (szAtomS_is _ _ _ (rdG_on HS.out hw0)).mono ?_
    rintro e w1 ⟨rfl, rfl⟩
    rw [HZ.out]
    go_wp2
    go_ret
    exact ⟨rfl, hw0⟩

end Go.Proofs.Ytmnppdkoehdplaa
