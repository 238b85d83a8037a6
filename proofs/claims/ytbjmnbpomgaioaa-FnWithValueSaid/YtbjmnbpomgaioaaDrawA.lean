/- What the model draws as a point: l1Spot, l1BadSpot. -/
import Derived.Test.YtbjmnbpomgaioaaDraw9
namespace Go.Proofs.Ytbjmnbpomgaioaa
open Go.RowKit

theorem c4_only {w w' : World} {r x : Nat} {a b c d : Int} (h : C4 w x a b c d) (hg : w.grownBy w' (some r)) (hne : x ≠ r) : C4 w' x a b c d :=
  have f : ∀ o, w'.cell? ⟨x, o, none⟩ = w.cell? ⟨x, o, none⟩ := fun _ => cell_only hg h.1 hne
  ⟨Nat.lt_of_lt_of_le h.1 hg.size, (f 0).trans h.2.1, (f 1).trans h.2.2.1, (f 2).trans h.2.2.2.1, (f 3).trans h.2.2.2.2⟩

set_option maxHeartbeats 1000000 in
theorem l1Spot_t (r : Nat) (p : Int) (w : World) (h : Rd w r p) (hp : p ≤ 800000) :
    Calls Try.prog 57 #[.pointer (some ⟨r, 0, none⟩)] w (PointT r p 5 w) := by
  have hr := rd_lt h
  have H := Lib.hid h
  clear h
  go_enter Try.func57, Try.ntmps57
  go_wp2_with fail
  generalize hW : w.alloc (.cells #[.int .i64 0, .int .i64 0, .int .i64 0, .int .i64 0] 24) = W
  have hz : C4 W w.heap.size 0 0 0 0 := by subst hW; exact (by refine ⟨?_, ?_, ?_, ?_, ?_⟩ <;> first | (simp [go_sem]; done) | (simp; omega))
  have fz : Hid (∀ o, W.frozen? ⟨w.heap.size, o, none⟩ = false) := by intro o; subst hW; simp [go_sem]
  have hb0 : Below w.heap.size w W := by subst hW; go_grown
  have hsz : w.heap.size + 1 = W.heap.size := by subst hW; simp
  rw [hsz]
  clear hW hsz
  refine (num_new r p [5, 12, 3, 60] 4 _ W (rd_on H.out hb0) (by omega) rfl rfl (by simp) (by simp)).mono ?_
  rintro e w1 ⟨s, rfl, _, ht1⟩
  have HT1 := Lib.hid (below_turned hb0 ht1)
  have hz1 := c4_only hz ht1.1 (by omega)
  have fz1 := fz_only fz ht1.1 hz.1 (by omega)
  obtain ⟨_, q1, a1, b1, hR1⟩ := ht1
  have HR1 := Lib.hid hR1
  clear hR1 hz fz
  go_wp2_with fail
  refine (pick_t r q1 s _ HR1.out (by omega)).mono ?_
  rintro e w2 ⟨x, rfl, _, _, ht2⟩
  have HT2 := Lib.hid (turned_two HT1.out HR1.out ht2 a1 b1)
  have hz2 := c4_only hz1 ht2.1 (by omega)
  have fz2 := fz_only fz1 ht2.1 hz1.1 (by omega)
  obtain ⟨_, q2, a2, b2, hR2⟩ := ht2
  have HR2 := Lib.hid hR2
  clear hR2 hz1 fz1
  go_wp2_with fail
  refine (pick_t r q2 s _ HR2.out (by omega)).mono ?_
  rintro e w3 ⟨y, rfl, _, _, ht3⟩
  have HT3 := Lib.hid (turned_two HT2.out HR2.out ht3 (by omega) (by omega))
  have hz3 := c4_only hz2 ht3.1 (by omega)
  have fz3 := fz_only fz2 ht3.1 hz2.1 (by omega)
  obtain ⟨_, q3, a3, b3, hR3⟩ := ht3
  have HR3 := Lib.hid hR3
  clear hR3 hz2 fz2
  go_wp2_with fail
  refine (pick_t r q3 s _ HR3.out (by omega)).mono ?_
  rintro e w4 ⟨z, rfl, _, _, ht4⟩
  have HT4 := Lib.hid (turned_two HT3.out HR3.out ht4 (by omega) (by omega))
  have hz4 := c4_only hz3 ht4.1 (by omega)
  have fz4 := fz_only fz3 ht4.1 hz3.1 (by omega)
  obtain ⟨_, q4, a4, b4, hR4⟩ := ht4
  have HR4 := Lib.hid hR4
  clear hR4 hz3 fz3
  go_wp2_with fail
  refine (pick_t r q4 s _ HR4.out (by omega)).mono ?_
  rintro e w5 ⟨u, rfl, _, _, ht5⟩
  have HT5 := Lib.hid (turned_two HT4.out HR4.out ht5 (by omega) (by omega))
  obtain ⟨z0, z1, z2, z3, z4⟩ := c4_only hz4 ht5.1 (by omega)
  have fz5 := (fz_only fz4 ht5.1 hz4.1 (by omega)).out
  clear ht5 hz4 fz4
  go_wp2
  refine bodyPost_ret (v := .agg #[.int .i64 x, .int .i64 y, .int .i64 z, .int .i64 u]) (by simp [results, Try.results57, go_sem, z1, z2, z3, z4]) rfl ⟨x, y, z, u, rfl, ?_⟩
  repeat (first | (with_reducible refine turned_put ?_ hr (by omega)) | exact turned_more HT5.out (by omega))

def ListAt (w : World) (b : Nat) (L : List Int) : Prop := b < w.heap.size ∧ ∀ i x, L[i]? = some x → w.cell? ⟨b, i, none⟩ = some (.int .i64 x)
theorem list_new (w : World) (L : List Int) (C : Array Value) (hC : C = (L.map (Value.int .i64)).toArray) : ListAt (w.alloc (.cells C 3)) w.heap.size L := by
  subst hC
  exact ⟨by simp, row_cell w _ L⟩
theorem list_only {w w' : World} {r b : Nat} {L : List Int} (h : ListAt w b L) (hg : w.grownBy w' (some r)) (hne : b ≠ r) : ListAt w' b L :=
  ⟨Nat.lt_of_lt_of_le h.1 hg.size, fun i x hx => (cell_only hg h.1 hne).trans (h.2 i x hx)⟩
theorem num_old (r b N : Nat) (p : Int) (L : List Int) (w : World) (hl : ListAt w b L) (hne : b ≠ r) (h : Rd w r p) (hp : p ≤ 1000000) (hN : N = L.length) (hL : 1 ≤ L.length) (hM : L.length ≤ 1000) :
    Calls Try.prog 60 #[.pointer (some ⟨r, 0, none⟩), .slice (some ⟨b, 0, none⟩) N N] w (NumT r p L w) := by
  subst hN
  exact num_t r b p L w h hp hL hM hl.1 hne hl.2

/-- What pick leaves, behind a list made just now. -/
theorem pick_row {r : Nat} {p K : Int} {w w' : World} {L : List Int} {C : Array Value} (hC : C = (L.map (Value.int .i64)).toArray) (ht : Turned r p K (w.alloc (.cells C 3)) w') (hr : r < w.heap.size) : ListAt w' w.heap.size L ∧ Turned r p K w w' :=
  ⟨list_only (list_new w L C hC) ht.1 (by omega), below_turned (by go_grown) ht⟩
theorem pick_rowd {r : Nat} {p K : Int} {w w' : World} {L : List Int} {C : Array Value} (hC : C = (L.map (Value.int .i64)).toArray) (ht : Turned r p K (w.alloc (.cells C 3)).drew w') (hr : r < w.heap.size) : ListAt w' w.heap.size L ∧ Turned r p K w w' := pick_row hC (turned_drew ht) hr
theorem pick_rown {r k : Nat} {p K : Int} {w w' : World} {L : List Int} {C : Array Value} (hC : C = (L.map (Value.int .i64)).toArray) (ht : Turned r p K ((w.alloc (.cells C 3)).drewN k) w') (hr : r < w.heap.size) : ListAt w' w.heap.size L ∧ Turned r p K w w' := pick_row hC (turned_drewN ht) hr


def badL : List Int := [-1, 1000, 1001, 9223372036854775807]
theorem num4_new (r : Nat) (p : Int) (w : World) (h : Rd w r p) (hp : p ≤ 1000000) : Calls Try.prog 60 #[.pointer (some ⟨r, 0, none⟩), .slice (some ⟨w.heap.size, 0, none⟩) 4 4] (w.alloc (.cells #[.int .i64 (-1), .int .i64 1000, .int .i64 1001, .int .i64 9223372036854775807] 3)) (NumN r p badL w) :=
  num_new r p badL 4 _ w h hp rfl rfl (by decide) (by decide)
theorem num4_newd (r : Nat) (p : Int) (w : World) (h : Rd w r p) (hp : p ≤ 1000000) : Calls Try.prog 60 #[.pointer (some ⟨r, 0, none⟩), .slice (some ⟨w.heap.size, 0, none⟩) 4 4] (w.alloc (.cells #[.int .i64 (-1), .int .i64 1000, .int .i64 1001, .int .i64 9223372036854775807] 3)).drew (NumN r p badL w) :=
  num_newd r p badL 4 _ w h hp rfl rfl (by decide) (by decide)
theorem num4_newn (r k : Nat) (p : Int) (w : World) (h : Rd w r p) (hp : p ≤ 1000000) : Calls Try.prog 60 #[.pointer (some ⟨r, 0, none⟩), .slice (some ⟨w.heap.size, 0, none⟩) 4 4] ((w.alloc (.cells #[.int .i64 (-1), .int .i64 1000, .int .i64 1001, .int .i64 9223372036854775807] 3)).drewN k) (NumN r p badL w) :=
  num_newn r k p badL 4 _ w h hp rfl rfl (by decide) (by decide)
theorem num4_old (r b : Nat) (p : Int) (w w2 : World) (hl : ListAt w2 b badL) (hne : b ≠ r) (h : Rd w2 r p) (hp : p ≤ 1000000) (hw : w = w2 ∨ w = w2.drew) : Calls Try.prog 60 #[.pointer (some ⟨r, 0, none⟩), .slice (some ⟨b, 0, none⟩) 4 4] w (NumT r p badL w) := by
  rcases hw with rfl | rfl
  · exact num_old r b 4 p badL _ hl hne h hp rfl (by decide) (by decide)
  · exact num_old r b 4 p badL _ hl hne (rd_drew h) hp rfl (by decide) (by decide)
theorem pick4_row {r : Nat} {p K : Int} {w w' : World} (ht : Turned r p K (w.alloc (.cells #[.int .i64 (-1), .int .i64 1000, .int .i64 1001, .int .i64 9223372036854775807] 3)) w') (hr : r < w.heap.size) : ListAt w' w.heap.size badL ∧ Turned r p K w w' := pick_row rfl ht hr
theorem pick4_rowd {r : Nat} {p K : Int} {w w' : World} (ht : Turned r p K (w.alloc (.cells #[.int .i64 (-1), .int .i64 1000, .int .i64 1001, .int .i64 9223372036854775807] 3)).drew w') (hr : r < w.heap.size) : ListAt w' w.heap.size badL ∧ Turned r p K w w' := pick_rowd rfl ht hr
theorem pick4_rown {r k : Nat} {p K : Int} {w w' : World} (ht : Turned r p K ((w.alloc (.cells #[.int .i64 (-1), .int .i64 1000, .int .i64 1001, .int .i64 9223372036854775807] 3)).drewN k) w') (hr : r < w.heap.size) : ListAt w' w.heap.size badL ∧ Turned r p K w w' := pick_rown rfl ht hr

set_option maxHeartbeats 4000000 in
theorem l1BadSpot_t (r : Nat) (p x y z u : Int) (w : World) (h : Rd w r p) (hp : p ≤ 800000) :
    Calls Try.prog 56 #[.pointer (some ⟨r, 0, none⟩), .agg #[.int .i64 x, .int .i64 y, .int .i64 z, .int .i64 u]] w (PointT r p 3 w) := by
  have hr := rd_lt h
  have H := Lib.hid h
  clear h
  go_enter Try.func56, Try.ntmps56
  go_wp2_with fail
  generalize hW : (w.alloc (.cells #[.int .i64 x, .int .i64 y, .int .i64 z, .int .i64 u] 24)).alloc (.cells #[.int .i64 0, .int .i64 0, .int .i64 0, .int .i64 0] 24) = W
  have hx : C4 W w.heap.size x y z u := by subst hW; exact (by refine ⟨?_, ?_, ?_, ?_, ?_⟩ <;> first | (simp [go_sem]; done) | (simp; omega))
  have hz : C4 W (w.heap.size + 1) 0 0 0 0 := by subst hW; exact (by refine ⟨?_, ?_, ?_, ?_, ?_⟩ <;> first | (simp [go_sem]; done) | (simp; omega))
  have fz : Hid (∀ o, W.frozen? ⟨w.heap.size + 1, o, none⟩ = false) := by intro o; subst hW; simp [go_sem]
  have hb0 : Below w.heap.size w W := by subst hW; go_grown
  clear hW
  refine (pick_t r p 24 W (rd_on H.out hb0) (by omega)).mono ?_
  rintro e w1 ⟨v, rfl, v0, v1, ht1⟩
  have HT1 := Lib.hid (below_turned hb0 ht1)
  have hx1 := c4_only hx ht1.1 (by omega)
  have hz1 := c4_only hz ht1.1 (by omega)
  have fz1 := fz_only fz ht1.1 hz.1 (by omega)
  have hs1 := ht1.1.size
  obtain ⟨_, q1, a1, b1, hR1⟩ := ht1
  have HR1 := Lib.hid hR1
  clear hR1
  by_cases hv : v = 0
  · subst hv
    obtain ⟨x0, x1, x2, x3, x4⟩ := id hx1
    have hrl := rd_lt HR1.out
    go_wp2_with fail
    go_region_with (first
      | (go_at_call 59; refine (pick_t r q1 4 _ (by first | exact HR1.out | exact rd_drew HR1.out | exact rd_drewN HR1.out | exact rd_on HR1.out (by go_grown) | exact rd_drew (rd_on HR1.out (by go_grown)) | exact rd_drewN (rd_on HR1.out (by go_grown))) (by omega)).mono ?_; rintro e w2 ⟨i, rfl, i0, i1, ht2⟩; (first | (with_reducible have hl2 := pick4_rowd ht2 hrl) | (with_reducible have hl2 := pick4_rown ht2 hrl) | (with_reducible have hl2 := pick4_row ht2 hrl) | (have hl2 := And.intro True.intro (turned_drew ht2)) | (have hl2 := And.intro True.intro (turned_drewN ht2)) | (have hl2 := And.intro True.intro ht2)); have ht3 : Turned r q1 1 w1 w2 := hl2.2; have HI4 := Lib.hid (And.intro i0 (show i < 4 by omega)); obtain ⟨x0, x1, x2, x3, x4⟩ := c4_only hx1 ht3.1 (by omega); have hx2 := c4_only hx1 ht3.1 (by omega); have hz2 := c4_only hz1 ht3.1 (by omega); have fz2 := fz_only fz1 ht3.1 hz1.1 (by omega); have HT2 := Lib.hid (turned_two HT1.out HR1.out ht3 a1 b1); have HL2 := Lib.hid hl2.1; obtain ⟨_, q2, a2, b2, hR2⟩ := ht3; have HR2 := Lib.hid hR2; have hq2 : q2 ≤ 1000000 := (by omega); have hne2 : w1.heap.size ≠ r := (by omega); clear ht2 hl2 hR2)
      | (go_at_call 60; (first | (with_reducible refine (num4_newd r q2 w2 HR2.out hq2).mono ?_) | (with_reducible refine (num4_newn r _ q2 w2 HR2.out hq2).mono ?_) | (with_reducible refine (num4_new r q2 w2 HR2.out hq2).mono ?_) | (with_reducible refine (num4_old r w1.heap.size q2 _ w2 HL2.out hne2 HR2.out hq2 (Or.inl rfl)).mono ?_) | (with_reducible refine (num4_old r w1.heap.size q2 _ w2 HL2.out hne2 HR2.out hq2 (Or.inr rfl)).mono ?_)); rintro e w3 ⟨nv, rfl, _, ht4⟩; have ht5 : Turned r q2 1 w2 w3 := (by first | exact ht4 | exact turned_drew ht4 | exact turned_drewN ht4); obtain ⟨x0, x1, x2, x3, x4⟩ := c4_only hx2 ht5.1 (by omega); have hz3 := c4_only hz2 ht5.1 (by omega); have fz3 := fz_only fz2 ht5.1 hz2.1 (by omega); have HT3 := Lib.hid (turned_two HT2.out HR2.out ht5 (by omega) (by omega)); clear ht4 ht5)
      | (go_at_call 66; have HWI := Lib.hid (fun W => l1With_any x y z u i nv W HI4.out); obtain ⟨X, hX⟩ : ∃ q, (if i = 0 then nv else x) = q := ⟨_, rfl⟩; obtain ⟨Y, hY⟩ : ∃ q, (if i = 1 then nv else y) = q := ⟨_, rfl⟩; obtain ⟨Z, hZ⟩ : ∃ q, (if i = 2 then nv else z) = q := ⟨_, rfl⟩; obtain ⟨U, hU⟩ : ∃ q, (if i = 3 then nv else u) = q := ⟨_, rfl⟩; rw [hX, hY, hZ, hU] at HWI; clear hX hY hZ hU; refine (HWI.out _).mono ?_; rintro e w5 ⟨rfl, hb5⟩; have hb6 : Below w3.heap.size w3 w5 := ⟨hb5.os, hb5.tape, hb5.output, hb5.size, hb5.block⟩; obtain ⟨z0, z1, z2, z3, z4⟩ := c4_on hz3 hb6; have fz5 : ∀ o, w5.frozen? ⟨w.heap.size + 1, o, none⟩ = false := fun o => ((bcell hb6).2 _ o hz3.1).trans (fz3.out o); have HT5 := Lib.hid (turned_below HT3.out hb6); clear hb5 hb6))
    all_goals
      go_wp2
      refine bodyPost_ret (v := .agg #[.int .i64 X, .int .i64 Y, .int .i64 Z, .int .i64 U]) (by simp [results, Try.results56, go_sem, z1, z2, z3, z4]) rfl ⟨X, Y, Z, U, rfl, ?_⟩
      repeat (first | (with_reducible refine turned_put ?_ hr (by omega)) | exact turned_more HT5.out (by omega))
  · have e0 : (v == 0) = false := by simpa using hv
    clear hv
    obtain ⟨x0, x1, x2, x3, x4⟩ := id hx1
    obtain ⟨z0, z1, z2, z3, z4⟩ := id hz1
    have fz5 := fz1.out
    go_wp2
    refine bodyPost_ret (v := .agg #[.int .i64 x, .int .i64 y, .int .i64 z, .int .i64 u]) (by simp [results, Try.results56, go_sem, z1, z2, z3, z4]) rfl ⟨x, y, z, u, rfl, ?_⟩
    repeat (first | (with_reducible refine turned_put ?_ hr (by omega)) | exact turned_more HT1.out (by omega))

end Go.Proofs.Ytbjmnbpomgaioaa
