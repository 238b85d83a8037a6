/- The contract of the program's NegateAtom. -/
import Derived.Test.YtbjmnbpomgaioaaAtO
import Derived.Test.YtbjmnbpomgaioaaFormG
import Derived.Test.YtbjmnbpomgaioaaOwn2
namespace Go.Proofs.Ytbjmnbpomgaioaa
open Go.RowKit

theorem c5_gr {W W' : World} {x : Nat} {a b c d n : Int} {r : Option Nat} (h : C5 W x a b c d n) (hg : W.grownBy W' r) (hne : some x ≠ r) : C5 W' x a b c d n := by
  have f : ∀ o, W'.cell? ⟨x, o, none⟩ = W.cell? ⟨x, o, none⟩ := fun o => World.cell?_of_block (hg.block x h.1 hne)
  exact ⟨Nat.lt_of_lt_of_le h.1 hg.size, (f 0).trans h.2.1, (f 1).trans h.2.2.1, (f 2).trans h.2.2.2.1, (f 3).trans h.2.2.2.2.1, (f 4).trans h.2.2.2.2.2⟩

theorem one_news {e : TypeId} (w : World) (x : Value) : ∀ j u, [x][j]? = some u → (w.alloc (.cells #[x] e)).cell? ((⟨w.heap.size, 0, none⟩ : Addr).add j) = some u := by
  intro j u hj
  match j, hj with
  | 0, hj => simp at hj; subst hj; simp [Addr.add]

set_option maxRecDepth 10000 in
set_option maxHeartbeats 4000000 in
theorem NegateAtom_t (k m a b c d n : Int) (w : World) :
    Calls Try.prog 21 #[.agg #[.int .i64 k, .int .i64 m, .int .i64 a, .int .i64 b, .int .i64 c, .int .i64 d, .int .i64 n]] w (AtsT (if ngOk k m a b c d n = true then ngL k m a b c d n else []) (ngOk k m a b c d n) w) := by
  cases hav : avB k m a b c d n with
  | false =>
    have HA := Lib.hid hav
    rw [show ngOk k m a b c d n = false by unfold ngOk; rw [hav]; rfl, if_neg (by simp)]
    clear hav
    go_enter Try.func21, Try.ntmps21
    go_wp2_with fail
    generalize hW : World.alloc _ _ = W
    have hw : Below w.heap.size w W := by subst hW; go_grown
    clear hW
    refine (AtomValid_is _ _ _ _ _ _ _ false _ HA.out).mono ?_
    rintro e w1 ⟨rfl, hb1⟩
    go_wp2
    go_ret2
    exact ⟨_, rfl, World.ownsRow_nil _ _ _ _, below_on hw hb1⟩
  | true =>
    have HA := Lib.hid hav
    have hok : ngOk k m a b c d n = (ngL k m a b c d n).all avD := by unfold ngOk; rw [hav, Bool.true_and]
    have hk := (avB_cases hav).1
    have htv := (avB_cases hav).2
    obtain ⟨q1, q2, q3, q4, q5⟩ := tv_bd htv
    obtain ⟨i0, hi, hz0, hz1, hz2⟩ := info_parts Try.infoMul
    have HI := Lib.hid (And.intro hi (And.intro hz0 (And.intro hz1 hz2)))
    have HTM := Lib.hid fun bl W hl => times_new a b c d n (-1) (-a) (-b) (-c) (-d) (-n) bl W hl (by omega) (by omega) (by omega) (by omega) (by omega) (by omega)
    have HPM := Lib.hid fun bl bm W hl hm => plus_new (-a) (-b) (-c) (-d) (-n) 0 0 0 0 1 (-a) (-b) (-c) (-d) (-n + 1) bl bm W hl hm (by omega) (by omega) (by omega) (by omega) (by omega) (by omega)
    have HPP := Lib.hid fun bl bm W hl hm => plus_new a b c d n 0 0 0 0 1 a b c d (n + 1) bl bm W hl hm (by omega) (by omega) (by omega) (by omega) (by omega) (by omega)
    rw [hok]
    have hk' : k = 0 ∨ k = 1 ∨ k = 2 ∨ k = 3 := by omega
    have HALL2 := Lib.hid (show k = 2 ∨ k = 3 → (ngL k m a b c d n).all avD = true by
      intro h
      have hm : 1 ≤ m ∧ m ≤ 100 := by omega
      rcases h with rfl | rfl
      · show [(⟨3, m, a, b, c, d, n⟩ : AtD)].all avD = true
        simp only [List.all_cons, List.all_nil, Bool.and_true]
        exact (avB_not hm.1 hm.2).trans htv
      · show [(⟨2, m, a, b, c, d, n⟩ : AtD)].all avD = true
        simp only [List.all_cons, List.all_nil, Bool.and_true]
        exact (avB_div hm.1 hm.2).trans htv)
    clear hav hok hk htv q1 q2 q3 q4 q5 hi hz0 hz1 hz2
    rcases hk' with rfl | rfl | rfl | rfl
    · obtain ⟨t, ht⟩ : ∃ t, [mostD (-a) (-b) (-c) (-d) (-n + 1)].all avD = t := ⟨_, rfl⟩
      obtain ⟨M, hM⟩ : ∃ M, M = if t then [mostD (-a) (-b) (-c) (-d) (-n + 1)] else [] := ⟨_, rfl⟩
      have HT := Lib.hid ht
      have HM := Lib.hid hM
      have e1 : (ngL 0 m a b c d n).all avD = t := ht
      have e2 : (if (ngL 0 m a b c d n).all avD = true then ngL 0 m a b c d n else []) = M := by rw [e1, hM]; rfl
      rw [e2, e1]
      clear ht hM e1 e2
      go_enter Try.func21, Try.ntmps21
      go_wp2_with fail
      generalize hW : World.alloc _ _ = W
      have hx : C7 W w.heap.size 0 m a b c d n := by subst hW; exact (by refine ⟨?_, ?_, ?_, ?_, ?_, ?_, ?_, ?_⟩ <;> first | (simp [go_sem]; done) | (simp; omega))
      have hw : Below w.heap.size w W := by subst hW; go_grown
      clear hW
      refine (AtomValid_is _ _ _ _ _ _ _ true _ HA.out).mono ?_
      rintro e w1 ⟨rfl, hb1⟩
      have hw1 := below_on hw hb1
      have hx1 := c7_on hx hb1
      clear hx hw hb1
      go_wp2_with fail
      refine (multiples_new 0 0 0 0 1 w1).mono ?_
      rintro e w2 ⟨b2, rfl, h2, hb2, hbb2⟩
      obtain ⟨x0, x1, x2, x3, x4, x5, x6, x7⟩ := c7_on hx1 hb2
      have hw2 := below_on hw1 hb2
      clear hx1 hb2
      go_wp2_with fail
      refine (multiples_new a b c d n w2).mono ?_
      rintro e w3 ⟨b3, rfl, h3, hb3, hbb3⟩
      have hw3 := below_on hw2 hb3
      have h23 := c5_on h2 hb3
      obtain ⟨x0, x1, x2, x3, x4, x5, x6, x7⟩ := c7_on ⟨x0, x1, x2, x3, x4, x5, x6, x7⟩ hb3
      clear h2 hb3
      go_wp2_with fail
      refine (HTM.out b3 w3 h3).mono ?_
      rintro e w4 ⟨b4, rfl, h4, hb4, hbb4⟩
      have hw4 := below_on hw3 hb4
      have h24 := c5_on h23 hb4
      clear h3 h23 hb4
      go_wp2_with fail
      refine (HPM.out b4 b2 w4 h4 h24).mono ?_
      rintro e w5 ⟨b5, rfl, h5, hb5, hbb5⟩
      have hw5 := below_on hw4 hb5
      have hs5 := hw5.size
      clear h4 h24 hb5
      have hown0 : w5.ownsRow w5.heap.size 86 1 (.slice none 0 0) 0 [] := World.ownsRow_nil _ _ _ _
      obtain ⟨hi, hz0, hz1, hz2⟩ := HI.out
      obtain ⟨v6, w6, hrun, hown6, hgrow, _⟩ := append_one (P := Try.prog) (ty := 88) Try.underlying88 hi hz0 hz1 hz2 rfl (hown0.alloc (.cells #[.slice (some ⟨b5, 0, none⟩) 5 5] 86)) (a := ⟨w5.heap.size, 0, none⟩) (x := .slice (some ⟨b5, 0, none⟩) 5 5) (by simp) rfl (by omega) (by omega) (by first | (simp; done) | (simp; omega))
      have HRUN := Lib.hid hrun
      clear hrun
      go_wp2_with (at_builtin; refine wpList_append_run rfl _ _ 88 rfl rfl rfl HRUN.out ?_)
      clear HRUN
      have hb6 : Below w5.heap.size w5 w6 := ((Below.refl _ w5).alloc (Nat.le_refl _) _).grown hgrow (by simp) (by simp [Value.ownBlock])
      obtain ⟨g, cap, rfl, _, _, _, hgs, hgc⟩ := own_read hown6 (by omega)
      have hsum : SumsAt w6 (.slice (some ⟨g, 0, none⟩) 1 cap) [mostD (-a) (-b) (-c) (-d) (-n + 1)] := sums_one hgs (hgc 0 (by omega)) (c5_on h5 hb6)
      have hw6 := below_on hw5 hb6
      clear hown6 hgrow hown0 hi hz0 hz1 hz2 hgc h5 hb6 x0 x1 x2 x3 x4 x5 x6 x7
      have HS := Lib.hid hsum
      clear hsum
      go_wp2_with fail
      refine (atMost_t _ _ w6 HS.out M t HT.out HM.out).mono ?_
      rintro e w7 ⟨v7, rfl, ho7, hb7⟩
      have HO := Lib.hid (show OwnA w7 w.heap.size v7 M from own_mono ho7 hw6.size)
      have hw7 := below_on hw6 hb7
      clear ho7
      go_wp2
      go_ret2
      exact ⟨_, rfl, HO.out, hw7⟩
    · obtain ⟨t, ht⟩ : ∃ t, [mostD a b c d (n + 1), mostD (-a) (-b) (-c) (-d) (-n + 1)].all avD = t := ⟨_, rfl⟩
      obtain ⟨M, hM⟩ : ∃ M, M = if t then [mostD a b c d (n + 1), mostD (-a) (-b) (-c) (-d) (-n + 1)] else [] := ⟨_, rfl⟩
      have HT := Lib.hid ht
      have HM := Lib.hid hM
      have e1 : (ngL 1 m a b c d n).all avD = t := ht
      have e2 : (if (ngL 1 m a b c d n).all avD = true then ngL 1 m a b c d n else []) = M := by rw [e1, hM]; rfl
      rw [e2, e1]
      clear ht hM e1 e2
      go_enter Try.func21, Try.ntmps21
      go_wp2_with fail
      generalize hW : World.alloc _ _ = W
      have hx : C7 W w.heap.size 1 m a b c d n := by subst hW; exact (by refine ⟨?_, ?_, ?_, ?_, ?_, ?_, ?_, ?_⟩ <;> first | (simp [go_sem]; done) | (simp; omega))
      have hw : Below w.heap.size w W := by subst hW; go_grown
      clear hW
      refine (AtomValid_is _ _ _ _ _ _ _ true _ HA.out).mono ?_
      rintro e w1 ⟨rfl, hb1⟩
      have hw1 := below_on hw hb1
      have hx1 := c7_on hx hb1
      clear hx hw hb1
      go_wp2_with fail
      refine (multiples_new 0 0 0 0 1 w1).mono ?_
      rintro e w2 ⟨b2, rfl, h2, hb2, hbb2⟩
      obtain ⟨x0, x1, x2, x3, x4, x5, x6, x7⟩ := c7_on hx1 hb2
      have hw2 := below_on hw1 hb2
      clear hx1 hb2
      go_wp2_with fail
      refine (multiples_new a b c d n w2).mono ?_
      rintro e w3 ⟨b3, rfl, h3, hb3, hbb3⟩
      have hw3 := below_on hw2 hb3
      have h23 := c5_on h2 hb3
      obtain ⟨x0, x1, x2, x3, x4, x5, x6, x7⟩ := c7_on ⟨x0, x1, x2, x3, x4, x5, x6, x7⟩ hb3
      clear h2 hb3
      go_wp2_with fail
      refine (HPP.out b3 b2 w3 h3 h23).mono ?_
      rintro e w4 ⟨b4, rfl, h4, hb4, hbb4⟩
      have Hb4 := Lib.hid h4.1
      have hw4 := below_on hw3 hb4
      have hs4 := hw4.size
      have h24 := c5_on h23 hb4
      have h34 := c5_on h3 hb4
      obtain ⟨x0, x1, x2, x3, x4, x5, x6, x7⟩ := c7_on ⟨x0, x1, x2, x3, x4, x5, x6, x7⟩ hb4
      clear h3 h23 hb4
      have hown0 : w4.ownsRow w4.heap.size 86 1 (.slice none 0 0) 0 [] := World.ownsRow_nil _ _ _ _
      obtain ⟨hi, hz0, hz1, hz2⟩ := HI.out
      obtain ⟨v5, w5, hrun, hown5, hgrow, _⟩ := append_one (P := Try.prog) (ty := 88) Try.underlying88 hi hz0 hz1 hz2 rfl (hown0.alloc (.cells #[.slice (some ⟨b4, 0, none⟩) 5 5] 86)) (a := ⟨w4.heap.size, 0, none⟩) (x := .slice (some ⟨b4, 0, none⟩) 5 5) (by simp) rfl (by omega) (by omega) (by first | (simp; done) | (simp; omega))
      have HRUN := Lib.hid hrun
      clear hrun
      go_wp2_with (at_builtin; refine wpList_append_run rfl _ _ 88 rfl rfl rfl HRUN.out ?_)
      clear HRUN
      have hb5 : Below w4.heap.size w4 w5 := ((Below.refl _ w4).alloc (Nat.le_refl _) _).grown hgrow (by simp) (by simp [Value.ownBlock])
      obtain ⟨g, cap, rfl, hcg, hcm, _, hgs, _⟩ := own_read hown5 (by omega)
      simp only [Nat.zero_add, List.nil_append] at hown5
      have hw5 := below_on hw4 hb5
      have h25 := c5_on h24 hb5
      have h35 := c5_on h34 hb5
      have h45 := c5_on h4 hb5
      obtain ⟨x0, x1, x2, x3, x4, x5, x6, x7⟩ := c7_on ⟨x0, x1, x2, x3, x4, x5, x6, x7⟩ hb5
      have HOW5 := Lib.hid hown5
      clear hgrow hown0 hi hz0 hz1 hz2 h4 h24 h34 hb5 hown5
      go_wp2_with fail
      refine (HTM.out b3 w5 h35).mono ?_
      rintro e w6 ⟨b6, rfl, h6, hb6, hbb6⟩
      have hw6 := below_on hw5 hb6
      have h26 := c5_on h25 hb6
      have h46 := c5_on h45 hb6
      have HOW6 := Lib.hid (own_below HOW5.out hb6)
      clear h25 h35 h45 hb6
      go_wp2_with fail
      refine (HPM.out b6 b2 w6 h6 h26).mono ?_
      rintro e w7 ⟨b7, rfl, h7, hb7, hbb7⟩
      have hw7 := below_on hw6 hb7
      have hs7 := hw7.size
      have h47 := c5_on h46 hb7
      have hown7 := own_below HOW6.out hb7
      have hg6 : g < w6.heap.size := (HOW6.out.lt g rfl).2
      have hb47 : w4.heap.size ≤ g := (HOW6.out.lt g rfl).1
      have h4lt : b4 < w4.heap.size := Hb4.out
      have hs47 : w4.heap.size ≤ w7.heap.size := by have := hown7.lt g rfl; omega
      clear h6 h26 h46 hb7
      obtain ⟨hi, hz0, hz1, hz2⟩ := HI.out
      obtain ⟨v8, w8, hrun, hown8, hgrow, _⟩ := append_one (P := Try.prog) (ty := 88) Try.underlying88 hi hz0 hz1 hz2 rfl (hown7.alloc (.cells #[.slice (some ⟨b7, 0, none⟩) 5 5] 86)) (a := ⟨w7.heap.size, 0, none⟩) (x := .slice (some ⟨b7, 0, none⟩) 5 5) (by simp) rfl (by omega) (by omega) (by first | (simp; done) | (simp; omega))
      have HRUN := Lib.hid hrun
      clear hrun
      go_wp2_with (at_builtin; refine wpList_append_run rfl _ _ 88 rfl rfl rfl HRUN.out ?_)
      clear HRUN
      have h48 : C5 w8 b4 a b c d (n + 1) := c5_gr (c5_on h47 (by go_grown : Below w7.heap.size w7 (w7.alloc _))) hgrow (by intro e; simp [Value.ownBlock] at e; omega)
      have h78 : C5 w8 b7 (-a) (-b) (-c) (-d) (-n + 1) := c5_gr (c5_on h7 (by go_grown : Below w7.heap.size w7 (w7.alloc _))) hgrow (by intro e; simp [Value.ownBlock] at e; omega)
      have hw8 : Below w.heap.size w w8 := grown_below2 (below_on hw7 (by go_grown : Below w7.heap.size w7 (w7.alloc _))) (own_below hown7 (by go_grown : Below w7.heap.size w7 (w7.alloc _))) hs4 hgrow
      obtain ⟨g', cap', rfl, _, _, _, hgs', hgc'⟩ := own_read hown8 (by omega)
      have hsum : SumsAt w8 (.slice (some ⟨g', 0, none⟩) 2 cap') [mostD a b c d (n + 1), mostD (-a) (-b) (-c) (-d) (-n + 1)] := sums_two hgs' (hgc' 0 (by omega)) h48 (hgc' 1 (by omega)) h78
      have HS := Lib.hid hsum
      clear hown8 hgrow hown7 hi hz0 hz1 hz2 hgc' h48 h78 h7 h47 hsum x0 x1 x2 x3 x4 x5 x6 x7
      go_wp2_with fail
      refine (atMost_t _ _ w8 HS.out M t HT.out HM.out).mono ?_
      rintro e w9 ⟨v9, rfl, ho9, hb9⟩
      have HO := Lib.hid (show OwnA w9 w.heap.size v9 M from own_mono ho9 hw8.size)
      have hw9 := below_on hw8 hb9
      clear ho9
      go_wp2
      go_ret2
      exact ⟨_, rfl, HO.out, hw9⟩
    · obtain ⟨t, ht⟩ : ∃ t, [(⟨3, m, a, b, c, d, n⟩ : AtD)].all avD = t := ⟨_, rfl⟩
      obtain ⟨M, hM⟩ : ∃ M, M = if t then [(⟨3, m, a, b, c, d, n⟩ : AtD)] else [] := ⟨_, rfl⟩
      have HT := Lib.hid ht
      have HM := Lib.hid hM
      have e1 : (ngL 2 m a b c d n).all avD = t := ht
      have e2 : (if (ngL 2 m a b c d n).all avD = true then ngL 2 m a b c d n else []) = M := by rw [e1, hM]; rfl
      have HALL := Lib.hid (show [(⟨3, m, a, b, c, d, n⟩ : AtD)].all avD = true from HALL2.out (by omega))
      rw [e2, e1]
      clear ht hM e1 e2
      go_enter Try.func21, Try.ntmps21
      go_wp2_with fail
      generalize hW : World.alloc _ _ = W
      have hx : C7 W w.heap.size 2 m a b c d n := by subst hW; exact (by refine ⟨?_, ?_, ?_, ?_, ?_, ?_, ?_, ?_⟩ <;> first | (simp [go_sem]; done) | (simp; omega))
      have fx : Hid (∀ o, W.frozen? ⟨w.heap.size, o, none⟩ = false) := by intro o; subst hW; simp [go_sem]
      have hw : Below w.heap.size w W := by subst hW; go_grown
      clear hW
      refine (AtomValid_is _ _ _ _ _ _ _ true _ HA.out).mono ?_
      rintro e w1 ⟨rfl, hb1⟩
      have hw1 := below_on hw hb1
      have hx1 := c7_on hx hb1
      have fx1 : Hid _ := fz7_on hx.1 fx hb1
      clear hx hw fx hb1
      go_wp2_with fail
      refine (multiples_new 0 0 0 0 1 w1).mono ?_
      rintro e w2 ⟨b2, rfl, h2, hb2, hbb2⟩
      have hx2 := c7_on hx1 hb2
      have fx2 : Hid _ := fz7_on hx1.1 fx1 hb2
      obtain ⟨x0, x1, x2, x3, x4, x5, x6, x7⟩ := id hx2
      have hw2 := below_on hw1 hb2
      clear hx1 fx1 hb2
      go_wp2_with fail
      refine (multiples_new a b c d n w2).mono ?_
      rintro e w3 ⟨b3, rfl, h3, hb3, hbb3⟩
      have hw3 := below_on hw2 hb3
      have fx3 := fz7_on hx2.1 fx2 hb3
      obtain ⟨x0, x1, x2, x3, x4, x5, x6, x7⟩ := c7_on hx2 hb3
      have hs3 := hw3.size
      have htt : t = true := by rw [← HT.out]; exact HALL.out
      subst htt
      have hMM := HM.out
      simp only [if_true] at hMM
      subst hMM
      clear h2 h3 hb3 hx2 fx2
      go_upto_region 11 with fail
      generalize hW : World.setCell _ _ _ = W4
      have hx4 : C7 W4 w.heap.size 3 m a b c d n := by subst hW; refine ⟨?_, ?_, ?_, ?_, ?_, ?_, ?_, ?_⟩ <;> first | (simp [go_sem, *]; done) | (simp [World.setCell]; omega)
      have hw4 : Below w.heap.size w W4 := by subst hW; go_grown
      have hs4 := hw4.size
      clear hW x0 x1 x2 x3 x4 x5 x6 x7
      obtain ⟨x0, x1, x2, x3, x4, x5, x6, x7⟩ := id hx4
      have HO := Lib.hid (ownA_lit (w := W4) (B := w.heap.size) #[.int .i64 3, .int .i64 m, .int .i64 a, .int .i64 b, .int .i64 c, .int .i64 d, .int .i64 n] [⟨3, m, a, b, c, d, n⟩] hw4.size (by simp) rfl)
      go_wp2
      go_ret2
      exact ⟨_, rfl, HO.out, by go_grown⟩
    · obtain ⟨t, ht⟩ : ∃ t, [(⟨2, m, a, b, c, d, n⟩ : AtD)].all avD = t := ⟨_, rfl⟩
      obtain ⟨M, hM⟩ : ∃ M, M = if t then [(⟨2, m, a, b, c, d, n⟩ : AtD)] else [] := ⟨_, rfl⟩
      have HT := Lib.hid ht
      have HM := Lib.hid hM
      have e1 : (ngL 3 m a b c d n).all avD = t := ht
      have e2 : (if (ngL 3 m a b c d n).all avD = true then ngL 3 m a b c d n else []) = M := by rw [e1, hM]; rfl
      have HALL := Lib.hid (show [(⟨2, m, a, b, c, d, n⟩ : AtD)].all avD = true from HALL2.out (by omega))
      rw [e2, e1]
      clear ht hM e1 e2
      go_enter Try.func21, Try.ntmps21
      go_wp2_with fail
      generalize hW : World.alloc _ _ = W
      have hx : C7 W w.heap.size 3 m a b c d n := by subst hW; exact (by refine ⟨?_, ?_, ?_, ?_, ?_, ?_, ?_, ?_⟩ <;> first | (simp [go_sem]; done) | (simp; omega))
      have fx : Hid (∀ o, W.frozen? ⟨w.heap.size, o, none⟩ = false) := by intro o; subst hW; simp [go_sem]
      have hw : Below w.heap.size w W := by subst hW; go_grown
      clear hW
      refine (AtomValid_is _ _ _ _ _ _ _ true _ HA.out).mono ?_
      rintro e w1 ⟨rfl, hb1⟩
      have hw1 := below_on hw hb1
      have hx1 := c7_on hx hb1
      have fx1 : Hid _ := fz7_on hx.1 fx hb1
      clear hx hw fx hb1
      go_wp2_with fail
      refine (multiples_new 0 0 0 0 1 w1).mono ?_
      rintro e w2 ⟨b2, rfl, h2, hb2, hbb2⟩
      have hx2 := c7_on hx1 hb2
      have fx2 : Hid _ := fz7_on hx1.1 fx1 hb2
      obtain ⟨x0, x1, x2, x3, x4, x5, x6, x7⟩ := id hx2
      have hw2 := below_on hw1 hb2
      clear hx1 fx1 hb2
      go_wp2_with fail
      refine (multiples_new a b c d n w2).mono ?_
      rintro e w3 ⟨b3, rfl, h3, hb3, hbb3⟩
      have hw3 := below_on hw2 hb3
      have fx3 := fz7_on hx2.1 fx2 hb3
      obtain ⟨x0, x1, x2, x3, x4, x5, x6, x7⟩ := c7_on hx2 hb3
      have hs3 := hw3.size
      have htt : t = true := by rw [← HT.out]; exact HALL.out
      subst htt
      have hMM := HM.out
      simp only [if_true] at hMM
      subst hMM
      clear h2 h3 hb3 hx2 fx2
      go_upto_region 13 with fail
      generalize hW : World.setCell _ _ _ = W4
      have hx4 : C7 W4 w.heap.size 2 m a b c d n := by subst hW; refine ⟨?_, ?_, ?_, ?_, ?_, ?_, ?_, ?_⟩ <;> first | (simp [go_sem, *]; done) | (simp [World.setCell]; omega)
      have hw4 : Below w.heap.size w W4 := by subst hW; go_grown
      have hs4 := hw4.size
      clear hW x0 x1 x2 x3 x4 x5 x6 x7
      obtain ⟨x0, x1, x2, x3, x4, x5, x6, x7⟩ := id hx4
      have HO := Lib.hid (ownA_lit (w := W4) (B := w.heap.size) #[.int .i64 2, .int .i64 m, .int .i64 a, .int .i64 b, .int .i64 c, .int .i64 d, .int .i64 n] [⟨2, m, a, b, c, d, n⟩] hw4.size (by simp) rfl)
      go_wp2
      go_ret2
      exact ⟨_, rfl, HO.out, by go_grown⟩

end Go.Proofs.Ytbjmnbpomgaioaa
