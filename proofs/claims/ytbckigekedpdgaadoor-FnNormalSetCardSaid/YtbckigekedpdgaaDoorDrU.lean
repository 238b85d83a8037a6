/- What the laws of chapter 7 draw as arguments: a set, a set and a number, two sets; nothing old turns. -/
import Derived.Test.YtbckigekedpdgaaDoorDrT
import Derived.Test.YtbckigekedpdgaaDoorSf7
namespace Go.Proofs.YtbckigekedpdgaaDoor
open Go.RowKit

def Dr1S (w : World) (e : Ending) (w' : World) : Prop := ∃ h l : List UInt8, e = .returned (.agg #[.string (bs h), .string (bs l)]) ∧ SmL h l ∧ Below w.heap.size w w'
def Dr1N (w : World) (e : Ending) (w' : World) : Prop := ∃ (h l : List UInt8) (n : Int), e = .returned (.tuple #[.agg #[.string (bs h), .string (bs l)], .int .i64 n]) ∧ SmL h l ∧ BigN n ∧ Below w.heap.size w w'
def Dr2S (w : World) (e : Ending) (w' : World) : Prop := ∃ h l h' l' : List UInt8, e = .returned (.tuple #[.agg #[.string (bs h), .string (bs l)], .agg #[.string (bs h'), .string (bs l')]]) ∧ SmL h l ∧ SmL h' l' ∧ Below w.heap.size w w'
def IntB (r : Nat) (p K : Int) (w : World) (e : Ending) (w' : World) : Prop := ∃ x : Int, e = .returned (.int .i64 x) ∧ BigN x ∧ Turned r p K w w'

set_option maxHeartbeats 2000000 in
theorem DrawNormalSet_t (sp : Option Addr) (n cap : Nat) (w : World) (h : Code w sp n cap) :
    Calls Tryd.prog 12 #[.slice sp n cap] w (Dr1S w) := by
  have HC := Lib.hid h
  clear h
  go_enter Tryd.func12, Tryd.ntmps12
  go_wp2_with fail
  generalize hW : World.alloc w _ = W
  obtain ⟨hz, hsz, hbz⟩ := s2_new hW
  clear hW
  refine (l17Open_t sp n cap W (code_on HC.out hbz)).mono ?_
  rintro e w1 ⟨r, rfl, hr, hR, hb1⟩
  have hz1 := s2_on hz hb1
  have hb := below_on hbz hb1
  have HR := Lib.hid hR
  have hzr : w.heap.size ≠ r := by have := hz.1; omega
  clear hR hb1 hz
  go_wp2_with fail
  refine (l7Open_t r 0 w1 HR.out (by omega)).mono ?_
  rintro e w2 ⟨h, l, rfl, hs, ht2⟩
  have hz2 := s2_turned hz1 ht2.1 hzr
  have HB2 := Lib.hid (opened_below hb (by omega) ht2)
  have HS := Lib.hid hs
  clear hz1 ht2 hs hb
  obtain ⟨z0, z1, z2, z3⟩ := id hz2
  go_wp2
  generalize hW9 : World.setCell _ _ _ = W9
  obtain ⟨⟨_, r1, r2, _⟩, _, _, hb9⟩ := s2_put hW9 _ _ hz2
  refine bodyPost_ret (v := .agg #[.string (bs h), .string (bs l)]) (by simp [results, Tryd.results12, go_sem, r1, r2]) rfl ⟨h, l, rfl, HS.out, hb9 w HB2.out (Nat.le_refl _)⟩

set_option maxHeartbeats 2000000 in
theorem DrawHasNumber_t (sp : Option Addr) (n cap : Nat) (w : World) (h : Code w sp n cap) :
    Calls Tryd.prog 7 #[.slice sp n cap] w (Dr1N w) := by
  have HC := Lib.hid h
  clear h
  go_enter Tryd.func7, Tryd.ntmps7
  go_wp2_with fail
  generalize hW : World.alloc w _ = W
  obtain ⟨hz, hsz, hbz⟩ := s2_new hW
  clear hW
  refine (l17Open_t sp n cap W (code_on HC.out hbz)).mono ?_
  rintro e w1 ⟨r, rfl, hr, hR, hb1⟩
  have hz1 := s2_on hz hb1
  have hb := below_on hbz hb1
  have HR := Lib.hid hR
  have hzr : w.heap.size ≠ r := by have := hz.1; omega
  have hrw1 := rd_lt hR
  clear hR hb1 hz
  go_wp2_with fail
  refine (l7Open_t r 0 w1 HR.out (by omega)).mono ?_
  rintro e w2 ⟨h, l, rfl, hs, ht2⟩
  have hz2 := s2_turned hz1 ht2.1 hzr
  have HB2 := Lib.hid (opened_below hb (by omega) ht2)
  have HS := Lib.hid hs
  have hrw2 : r < w2.heap.size := Nat.lt_of_lt_of_le hrw1 ht2.1.size
  obtain ⟨_, q2, q20, q21, hR2⟩ := ht2
  clear hz1 hs hb
  go_upto_region 3 with fail
  generalize hW : World.alloc w2 _ = W3
  obtain ⟨hx, hsx, hbx⟩ := s2_new hW
  have hz3 := s2_on hz2 hbx
  have HB3 := Lib.hid (below_on HB2.out hbx)
  have HR3 := Lib.hid (rd_on hR2 hbx)
  have hne : w.heap.size ≠ w2.heap.size := by have := hz2.1; omega
  clear hW hbx hR2 hz2
  obtain ⟨x0, x1, x2, x3⟩ := id hx
  refine wp_region_held_drew (S := fun _ => True) (by kernel_rfl) trivial (fun _ => ?_)
  refine wpAnyH_take (i := 1) (oi := { dst := some 11, op := Go.Op.move (Go.Operand.tmp 4), type := 38, pos := "l7_sets.go:327", after := #[], guard := none }) (v := ?_) rfl (by kernel_rfl) (by kernel_rfl) (by kernel_rfl) (fun _ _ _ h => h) (Or.inl ⟨by rfl, ?_⟩) (by assumption) ?_
  rotate_left
  · (intro w _; first | (go_simp; done) | (go_simp; with_reducible rfl))
  try simp only [Act.put, List.setIfInBounds_toArray, List.set_cons_zero, List.set_cons_succ]
  refine wpAnyH_ready (rs := [0, 2]) (by kernel_rfl) (by simp) ?_
  refine AllReadyH.cons (o := { dst := some 10, op := Go.Op.load 24 (Go.Operand.tmp 5), type := 24, pos := "l7_sets.go:327", after := #[], guard := none }) rfl (fun K hK => ?_) (AllReadyH.cons (o := { dst := some 12, op := Go.Op.call { callee := Go.Callee.value (Go.Operand.func 26), args := #[Go.Operand.tmp 11], argTypes := #[38] }, type := 3, pos := "l7_sets.go:327", after := #[{ on := 1, ground := Go.Ground.data }], guard := none }) rfl (fun K hK => ?_) AllReadyH.nil)
  ·
    go_simp
    refine hK.out _ _ trivial (fun _ => ?_)
    clear hK K
    try simp only [Act.put, List.setIfInBounds_toArray, List.set_cons_zero, List.set_cons_succ]
    refine wpAnyH_ready (rs := [2]) (by kernel_rfl) (by simp) ?_
    refine AllReadyH.cons (o := { dst := some 12, op := Go.Op.call { callee := Go.Callee.value (Go.Operand.func 26), args := #[Go.Operand.tmp 11], argTypes := #[38] }, type := 3, pos := "l7_sets.go:327", after := #[{ on := 1, ground := Go.Ground.data }], guard := none }) rfl (fun K hK => ?_) AllReadyH.nil
    go_simp
    (go_at_call 26; refine (l7Number_t r q2 _ (rd_on HR3.out (by go_grown)) (by omega)).mono ?_; rintro e w5 ⟨y, rfl, hy, ht5'⟩; have ht5 : Turned r _ _ W3 w5 := below_turned (by go_grown) ht5'; have hx5 := s2_turned hx ht5.1 (by omega); have hz5 := s2_turned hz3 ht5.1 hzr; have HY : Hid (BigN y) := Lib.hid hy; have HB5 := Lib.hid (opened_below HB3.out (by omega) ht5); obtain ⟨x50, x51, x52, x53⟩ := id hx5; obtain ⟨z50, z51, z52, z53⟩ := id hz5; clear ht5 ht5')
    refine hK.out _ _ trivial (fun _ => ?_)
    clear hK K
    try simp only [Act.put, List.setIfInBounds_toArray, List.set_cons_zero, List.set_cons_succ]
    refine wpAnyH_ready (rs := [3]) (by kernel_rfl) (by simp) ?_
    refine AllReadyH.cons (o := { dst := none, op := Go.Op.store 24 (Go.Operand.tmp 2) (Go.Operand.tmp 10), type := 0, pos := "l7_sets.go:327", after := #[{ on := 0, ground := Go.Ground.data }, { on := 2, ground := Go.Ground.chain }, { on := 0, ground := Go.Ground.phase }, { on := 1, ground := Go.Ground.textOnly Go.Departure.lateStores }, { on := 2, ground := Go.Ground.textOnly Go.Departure.lateStoresUnsure }], guard := none }) rfl (fun K hK => ?_) AllReadyH.nil
    go_simp
    refine hK.out _ _ trivial (fun _ => ?_)
    clear hK K
    try simp only [Act.put, List.setIfInBounds_toArray, List.set_cons_zero, List.set_cons_succ]
    refine wpAnyH_take (i := 4) (oi := { dst := some 3, op := Go.Op.assign (Go.Operand.tmp 12), type := 3, pos := "l7_sets.go:327", after := #[{ on := 2, ground := Go.Ground.data }, { on := 3, ground := Go.Ground.chain }, { on := 0, ground := Go.Ground.phase }, { on := 1, ground := Go.Ground.phase }, { on := 2, ground := Go.Ground.phase }, { on := 3, ground := Go.Ground.phase }], guard := none }) (v := ?_) rfl (by kernel_rfl) (by kernel_rfl) (by kernel_rfl) (fun _ _ _ h => h) (Or.inl ⟨by rfl, ?_⟩) (by assumption) ?_
    rotate_left
    · (intro w _; first | (go_simp; done) | (go_simp; with_reducible rfl))
    try simp only [Act.put, List.setIfInBounds_toArray, List.set_cons_zero, List.set_cons_succ]
    refine wpAnyH_done (by kernel_rfl) ?_ _
    go_wp2
    generalize hW6 : World.setCell _ _ _ = W6
    obtain ⟨⟨_, r1, r2, _⟩, _, _, hb6⟩ := s2_put hW6 _ _ hz5
    refine bodyPost_ret (v := .tuple #[.agg #[.string (bs h), .string (bs l)], .int .i64 y]) (by simp [results, Tryd.results7, go_sem, r1, r2]) rfl ⟨h, l, y, rfl, HS.out, HY.out, below_on (hb6 w HB5.out (Nat.le_refl _)) (by go_grown)⟩
  ·
    go_simp
    (go_at_call 26; refine (l7Number_t r q2 _ (rd_on HR3.out (by go_grown)) (by omega)).mono ?_; rintro e w5 ⟨y, rfl, hy, ht5'⟩; have ht5 : Turned r _ _ W3 w5 := below_turned (by go_grown) ht5'; have hx5 := s2_turned hx ht5.1 (by omega); have hz5 := s2_turned hz3 ht5.1 hzr; have HY : Hid (BigN y) := Lib.hid hy; have HB5 := Lib.hid (opened_below HB3.out (by omega) ht5); obtain ⟨x50, x51, x52, x53⟩ := id hx5; obtain ⟨z50, z51, z52, z53⟩ := id hz5; clear ht5 ht5')
    refine hK.out _ _ trivial (fun _ => ?_)
    clear hK K
    try simp only [Act.put, List.setIfInBounds_toArray, List.set_cons_zero, List.set_cons_succ]
    refine wpAnyH_ready (rs := [0]) (by kernel_rfl) (by simp) ?_
    refine AllReadyH.cons (o := { dst := some 10, op := Go.Op.load 24 (Go.Operand.tmp 5), type := 24, pos := "l7_sets.go:327", after := #[], guard := none }) rfl (fun K hK => ?_) AllReadyH.nil
    go_simp
    refine hK.out _ _ trivial (fun _ => ?_)
    clear hK K
    try simp only [Act.put, List.setIfInBounds_toArray, List.set_cons_zero, List.set_cons_succ]
    refine wpAnyH_ready (rs := [3]) (by kernel_rfl) (by simp) ?_
    refine AllReadyH.cons (o := { dst := none, op := Go.Op.store 24 (Go.Operand.tmp 2) (Go.Operand.tmp 10), type := 0, pos := "l7_sets.go:327", after := #[{ on := 0, ground := Go.Ground.data }, { on := 2, ground := Go.Ground.chain }, { on := 0, ground := Go.Ground.phase }, { on := 1, ground := Go.Ground.textOnly Go.Departure.lateStores }, { on := 2, ground := Go.Ground.textOnly Go.Departure.lateStoresUnsure }], guard := none }) rfl (fun K hK => ?_) AllReadyH.nil
    go_simp
    refine hK.out _ _ trivial (fun _ => ?_)
    clear hK K
    try simp only [Act.put, List.setIfInBounds_toArray, List.set_cons_zero, List.set_cons_succ]
    refine wpAnyH_take (i := 4) (oi := { dst := some 3, op := Go.Op.assign (Go.Operand.tmp 12), type := 3, pos := "l7_sets.go:327", after := #[{ on := 2, ground := Go.Ground.data }, { on := 3, ground := Go.Ground.chain }, { on := 0, ground := Go.Ground.phase }, { on := 1, ground := Go.Ground.phase }, { on := 2, ground := Go.Ground.phase }, { on := 3, ground := Go.Ground.phase }], guard := none }) (v := ?_) rfl (by kernel_rfl) (by kernel_rfl) (by kernel_rfl) (fun _ _ _ h => h) (Or.inl ⟨by rfl, ?_⟩) (by assumption) ?_
    rotate_left
    · (intro w _; first | (go_simp; done) | (go_simp; with_reducible rfl))
    try simp only [Act.put, List.setIfInBounds_toArray, List.set_cons_zero, List.set_cons_succ]
    refine wpAnyH_done (by kernel_rfl) ?_ _
    go_wp2
    generalize hW6 : World.setCell _ _ _ = W6
    obtain ⟨⟨_, r1, r2, _⟩, _, _, hb6⟩ := s2_put hW6 _ _ hz5
    refine bodyPost_ret (v := .tuple #[.agg #[.string (bs h), .string (bs l)], .int .i64 y]) (by simp [results, Tryd.results7, go_sem, r1, r2]) rfl ⟨h, l, y, rfl, HS.out, HY.out, below_on (hb6 w HB5.out (Nat.le_refl _)) (by go_grown)⟩

theorem four_at_i {w : World} {b : Nat} {x y z u : Int} (h0 : w.cell? ⟨b, 0, none⟩ = some (.int .i64 x)) (h1 : w.cell? ⟨b, 1, none⟩ = some (.int .i64 y)) (h2 : w.cell? ⟨b, 2, none⟩ = some (.int .i64 z)) (h3 : w.cell? ⟨b, 3, none⟩ = some (.int .i64 u)) :
    ∀ (i : Nat) v, ([x, y, z, u] : List Int)[i]? = some v → w.cell? ⟨b, i, none⟩ = some (.int .i64 v) := by
  intro i v hv
  match i, hv with
  | 0, hv => simp at hv; subst hv; exact h0
  | 1, hv => simp at hv; subst hv; exact h1
  | 2, hv => simp at hv; subst hv; exact h2
  | 3, hv => simp at hv; subst hv; exact h3

set_option maxHeartbeats 2000000 in
theorem DrawGreatestOf_t (sp : Option Addr) (n cap : Nat) (w : World) (h : Code w sp n cap) :
    Calls Tryd.prog 19 #[.slice sp n cap] w (Dr1S w) := by
  have HC := Lib.hid h
  clear h
  go_enter Tryd.func19, Tryd.ntmps19
  go_wp2_with fail
  generalize hW : World.alloc w _ = W
  obtain ⟨hz, hsz, hbz⟩ := s2_new hW
  clear hW
  refine (l17Open_t sp n cap W (code_on HC.out hbz)).mono ?_
  rintro e w1 ⟨r, rfl, hr, hR, hb1⟩
  have hz1 := s2_on hz hb1
  have hb := below_on hbz hb1
  have HR := Lib.hid hR
  have hzr : w.heap.size ≠ r := by have := hz.1; omega
  have hrw1 := rd_lt hR
  clear hR hb1 hz
  go_wp2_with fail
  refine (l7Open_t r 0 w1 HR.out (by omega)).mono ?_
  rintro e w2 ⟨h, l, rfl, hs, ht2⟩
  have hz2 := s2_turned hz1 ht2.1 hzr
  have HB2 := Lib.hid (opened_below hb (by omega) ht2)
  have HS := Lib.hid hs
  have hrw2 : r < w2.heap.size := Nat.lt_of_lt_of_le hrw1 ht2.1.size
  obtain ⟨_, q2, q20, q21, hR2⟩ := ht2
  clear hz1 hs hb
  go_upto_region 3 with fail
  generalize hW : World.alloc w2 _ = W3
  obtain ⟨hx, hsx, hbx⟩ := s2_new hW
  have hz3 := s2_on hz2 hbx
  have HB3 := Lib.hid (below_on HB2.out hbx)
  have HR3 := Lib.hid (rd_on hR2 hbx)
  have hne : w.heap.size ≠ w2.heap.size := by have := hz2.1; omega
  clear hW hbx hR2 hz2
  go_wp2_with fail
  refine (pick_t r q2 2 W3 HR3.out (by omega)).mono ?_
  rintro e w4 ⟨x, rfl, x0, x1, ht4⟩
  have hx4 := s2_turned hx ht4.1 (by omega)
  have hz4 := s2_turned hz3 ht4.1 hzr
  have HB4 := Lib.hid (opened_below HB3.out (by omega) ht4)
  have hxw : w.heap.size ≤ w2.heap.size := HB2.out.size
  clear hz3 hx ht4 x0 x1
  by_cases hx0 : x = 0
  · subst hx0
    obtain ⟨x0, x1, x2, x3⟩ := id hx4
    go_upto_region 5 with fail
    generalize hW : World.setCell _ _ _ = W5
    obtain ⟨hx5, ho5⟩ := s2_put1 hW hx4
    have hz5 := ho5 _ _ _ hne hz4
    have HB5 : Hid (Below w.heap.size w W5) := Lib.hid (by subst hW; exact HB4.out.setCell hxw _)
    clear hW ho5 hx4 hz4 x0 x1 x2 x3
    obtain ⟨x0, x1, x2, x3⟩ := id hx5
    obtain ⟨z0, z1, z2, z3⟩ := id hz5
    go_wp2
    generalize hW9 : World.setCell _ _ _ = W9
    obtain ⟨⟨_, r1, r2, _⟩, _, _, hb9⟩ := s2_put hW9 _ _ hz5
    refine bodyPost_ret (v := .agg #[.string (bs h), .string (bs ([48]))]) (by simp [results, Tryd.results19, go_sem, r1, r2]; try rfl) rfl ⟨h, [48], rfl, ⟨HS.out.1, by simp⟩, hb9 w HB5.out (Nat.le_refl _)⟩
  · have hxe : (x == 0) = false := by simpa using hx0
    obtain ⟨x0, x1, x2, x3⟩ := id hx4
    obtain ⟨z0, z1, z2, z3⟩ := id hz4
    go_wp2
    generalize hW9 : World.setCell _ _ _ = W9
    obtain ⟨⟨_, r1, r2, _⟩, _, _, hb9⟩ := s2_put hW9 _ _ hz4
    refine bodyPost_ret (v := .agg #[.string (bs h), .string (bs l)]) (by simp [results, Tryd.results19, go_sem, r1, r2]) rfl ⟨h, l, rfl, HS.out, hb9 w HB4.out (Nat.le_refl _)⟩

theorem res_small7 (a : Nat → UInt8) : (resA a).1.1.length ≤ 400 ∧ (resA a).1.2.length ≤ 240 := by
  unfold resA
  split
  · rename_i q
    exact q
  · simp
def TwoS (r : Nat) (p K : Int) (w : World) (e : Ending) (w' : World) : Prop := ∃ h l h' l' : List UInt8, e = .returned (.tuple #[.agg #[.string (bs h), .string (bs l)], .agg #[.string (bs h'), .string (bs l')]]) ∧ SmL h l ∧ SmL h' l' ∧ Turned r p K w w'
theorem norm_small (h l : List UInt8) : SmL (normR h l).1.1 (normR h l).1.2 := by
  unfold normR
  split
  · have := res_small7 (atS h l)
    exact ⟨by omega, by omega⟩
  · exact ⟨by simp, by simp⟩

set_option maxRecDepth 10000 in
set_option maxHeartbeats 4000000 in
theorem l7Two_t (r : Nat) (p : Int) (w : World) (hr : Rd w r p) (hp : p ≤ 400000) :
    Calls Tryd.prog 33 #[.pointer (some ⟨r, 0, none⟩)] w (TwoS r p 440 w) := by
  have H := Lib.hid hr
  have hrw := rd_lt hr
  clear hr
  go_enter Tryd.func33, Tryd.ntmps33
  go_wp2_with fail
  generalize hW : World.alloc w _ = W
  obtain ⟨ha, hsa, hba⟩ := s2_new hW
  clear hW
  generalize hW : World.alloc W _ = W2
  obtain ⟨hc, hsc, hbc⟩ := s2_new hW
  rw [hsa] at hc
  have ha2 := s2_on ha hbc
  have hb2 := below_on hba hbc
  clear hW ha hba hbc
  refine (l7Open_t r p W2 (rd_on H.out hb2) (by omega)).mono ?_
  rintro e w3 ⟨h, l, rfl, hs, ht3⟩
  have ha3 := s2_turned ha2 ht3.1 (by omega)
  have hc3 := s2_turned hc ht3.1 (by omega)
  have HS := Lib.hid hs
  have HT3 := Lib.hid (below_turned hb2 ht3)
  obtain ⟨_, q3, q30, q31, hR3⟩ := ht3
  have hw3 : w.heap.size + 1 < w3.heap.size := hc3.1
  clear ha2 hc hb2 hs hsa hsc
  go_upto_region 2 with fail
  generalize hW : World.alloc w3 _ = W4
  obtain ⟨hx, _, hbx⟩ := s2_new hW
  have ha4 := s2_on ha3 hbx
  have hc4 := s2_on hc3 hbx
  have HT4 := Lib.hid (turned_below HT3.out hbx)
  have HR4 := Lib.hid (rd_on hR3 hbx)
  have hx0w := hx.1
  clear hW hbx hR3 ha3 hc3
  go_wp2_with fail
  refine (pick_t r q3 4 W4 HR4.out (by omega)).mono ?_
  rintro e w5 ⟨x, rfl, x0, x1, ht5⟩
  have ha5 := s2_turned ha4 ht5.1 (by omega)
  have hc5 := s2_turned hc4 ht5.1 (by omega)
  have hx5 := s2_turned hx ht5.1 (by omega)
  have HT5 := Lib.hid (turned_two HT4.out HR4.out ht5 (by omega) (by omega))
  obtain ⟨_, q5, q50, q51, hR5⟩ := ht5
  have HR5 := Lib.hid hR5
  have hx5w := hx5.1
  clear hR5 ha4 hc4 hx x0 x1
  by_cases hx0 : x = 0
  · subst hx0
    have HN := Lib.hid fun w => specNormalSet_any h l w (by have := HS.out.1; omega) (by have := HS.out.2; omega)
    have HNS := Lib.hid (norm_small h l)
    obtain ⟨R, hR⟩ : ∃ R, normR h l = R := ⟨_, rfl⟩
    obtain ⟨⟨X, Y⟩, b⟩ := R
    rw [hR] at HN HNS
    clear hR
    obtain ⟨x0, x1, x2, x3⟩ := id hx5
    go_wp2_with fail
    refine (HN.out _).mono ?_
    rintro e w6 ⟨rfl, hb6⟩
    have ha6 := s2_on ha5 hb6
    have hc6 := s2_on hc5 hb6
    have hx6 := s2_on hx5 hb6
    have HT6 := Lib.hid (turned_below HT5.out hb6)
    have HR6 := Lib.hid (rd_on HR5.out hb6)
    clear ha5 hc5 hx5 hb6 x0 x1 x2 x3
    go_upto_region 4 with fail
    generalize hW : World.alloc w6 _ = W7
    obtain ⟨hy, _, hby⟩ := s2_new hW
    have ha7 := s2_on ha6 hby
    have hc7 := s2_on hc6 hby
    have hx7 := s2_on hx6 hby
    have HT7 := Lib.hid (turned_below HT6.out hby)
    have HR7 := Lib.hid (rd_on HR6.out hby)
    clear hW hby ha6 hc6 hx6
    obtain ⟨x0, x1, x2, x3⟩ := id hx7
    obtain ⟨y0, y1, y2, y3⟩ := id hy
    obtain ⟨a0, a1, a2, a3⟩ := id ha7
    obtain ⟨c0, c1, c2, c3⟩ := id hc7
    cases b with
    | true =>
      go_wp2_with fail
      go_region
      go_wp2
      generalize hW8 : World.setCell (World.setCell W7 _ _) _ _ = W8
      obtain ⟨f1, _, ho8, hb8⟩ := s2_put hW8 _ _ ha7
      have hc8 := ho8 _ _ _ (by omega) hc7
      generalize hW9 : World.setCell _ _ _ = W9
      obtain ⟨⟨_, g1, g2, _⟩, _, ho9, hb9⟩ := s2_put hW9 _ _ hc8
      obtain ⟨_, r1, r2, _⟩ := ho9 _ _ _ (by omega) f1
      refine bodyPost_ret (v := .tuple #[.agg #[.string (bs h), .string (bs l)], .agg #[.string (bs X), .string (bs Y)]]) (by simp [results, Tryd.results33, go_sem, r1, r2, g1, g2]) rfl ⟨h, l, X, Y, rfl, HS.out, HNS.out, ?_⟩
      subst hW9 hW8
      exact turned_more (turned_below (turned_put (turned_put (turned_put (turned_put HT7.out hrw (Nat.le_refl _)) hrw (Nat.le_refl _)) hrw (Nat.le_succ _)) hrw (Nat.le_succ _)) (by go_grown)) (by omega)
    | false =>
      go_upto_region 6 with fail
      have hx7' := hx7
      refine wp_region_held_drew (S := fun _ => True) (by kernel_rfl) trivial (fun _ => ?_)
      refine wpAnyH_take (i := 1) (oi := { dst := some 21, op := Go.Op.move (Go.Operand.tmp 0), type := 38, pos := "l7_sets.go:339", after := #[], guard := none }) (v := ?_) rfl (by kernel_rfl) (by kernel_rfl) (by kernel_rfl) (fun _ _ _ h => h) (Or.inl ⟨by rfl, ?_⟩) (by assumption) ?_
      rotate_left
      · (intro w _; first | (go_simp; done) | (go_simp; with_reducible rfl))
      try simp only [Act.put, List.setIfInBounds_toArray, List.set_cons_zero, List.set_cons_succ]
      refine wpAnyH_ready (rs := [0, 2]) (by kernel_rfl) (by simp) ?_
      refine AllReadyH.cons (o := { dst := some 20, op := Go.Op.load 24 (Go.Operand.tmp 4), type := 24, pos := "l7_sets.go:339", after := #[], guard := none }) rfl (fun K hK => ?_) (AllReadyH.cons (o := { dst := some 22, op := Go.Op.call { callee := Go.Callee.value (Go.Operand.func 25), args := #[Go.Operand.tmp 21], argTypes := #[38] }, type := 24, pos := "l7_sets.go:339", after := #[{ on := 1, ground := Go.Ground.data }], guard := none }) rfl (fun K hK => ?_) AllReadyH.nil)
      ·
        go_simp
        refine hK.out _ _ trivial (fun _ => ?_)
        clear hK K
        try simp only [Act.put, List.setIfInBounds_toArray, List.set_cons_zero, List.set_cons_succ]
        refine wpAnyH_ready (rs := [2]) (by kernel_rfl) (by simp) ?_
        refine AllReadyH.cons (o := { dst := some 22, op := Go.Op.call { callee := Go.Callee.value (Go.Operand.func 25), args := #[Go.Operand.tmp 21], argTypes := #[38] }, type := 24, pos := "l7_sets.go:339", after := #[{ on := 1, ground := Go.Ground.data }], guard := none }) rfl (fun K hK => ?_) AllReadyH.nil
        go_simp
        (go_at_call 25; refine (l7Open_t r q5 _ (rd_on HR7.out (by go_grown)) (by omega)).mono ?_; rintro e w9 ⟨h2, l2, rfl, hs2, ht9'⟩; have ht9 : Turned r _ _ W7 w9 := below_turned (by go_grown) ht9'; have hx9 := s2_turned hx7 ht9.1 (by omega); have ha9 := s2_turned ha7 ht9.1 (by omega); have hc9 := s2_turned hc7 ht9.1 (by omega); have HT9 := Lib.hid (turned_two HT7.out HR7.out ht9 (by omega) (by omega)); have HS2 := Lib.hid hs2; obtain ⟨x90, x91, x92, x93⟩ := id hx9; obtain ⟨a90, a91, a92, a93⟩ := id ha9; obtain ⟨c90, c91, c92, c93⟩ := id hc9; clear ht9 ht9' hs2)
        refine hK.out _ _ trivial (fun _ => ?_)
        clear hK K
        try simp only [Act.put, List.setIfInBounds_toArray, List.set_cons_zero, List.set_cons_succ]
        refine wpAnyH_ready (rs := [3]) (by kernel_rfl) (by simp) ?_
        refine AllReadyH.cons (o := { dst := none, op := Go.Op.store 24 (Go.Operand.tmp 2) (Go.Operand.tmp 20), type := 0, pos := "l7_sets.go:339", after := #[{ on := 0, ground := Go.Ground.data }, { on := 2, ground := Go.Ground.chain }, { on := 0, ground := Go.Ground.phase }, { on := 1, ground := Go.Ground.textOnly Go.Departure.lateStores }, { on := 2, ground := Go.Ground.textOnly Go.Departure.lateStoresUnsure }], guard := none }) rfl (fun K hK => ?_) AllReadyH.nil
        go_simp
        refine hK.out _ _ trivial (fun _ => ?_)
        clear hK K
        try simp only [Act.put, List.setIfInBounds_toArray, List.set_cons_zero, List.set_cons_succ]
        refine wpAnyH_ready (rs := [4]) (by kernel_rfl) (by simp) ?_
        refine AllReadyH.cons (o := { dst := none, op := Go.Op.store 24 (Go.Operand.tmp 3) (Go.Operand.tmp 22), type := 0, pos := "l7_sets.go:339", after := #[{ on := 2, ground := Go.Ground.data }, { on := 3, ground := Go.Ground.chain }, { on := 0, ground := Go.Ground.phase }, { on := 1, ground := Go.Ground.phase }, { on := 2, ground := Go.Ground.phase }, { on := 3, ground := Go.Ground.phase }], guard := none }) rfl (fun K hK => ?_) AllReadyH.nil
        go_simp
        refine hK.out _ _ trivial (fun _ => ?_)
        clear hK K
        try simp only [Act.put, List.setIfInBounds_toArray, List.set_cons_zero, List.set_cons_succ]
        refine wpAnyH_done (by kernel_rfl) ?_ _
        go_wp2
        generalize hW8 : World.setCell (World.setCell w9 _ _) _ _ = W8
        obtain ⟨f1, _, ho8, hb8⟩ := s2_put hW8 _ _ ha9
        have hc8 := ho8 _ _ _ (by omega) hc9
        generalize hW10 : World.setCell _ _ _ = W10
        obtain ⟨⟨_, g1, g2, _⟩, _, ho10, hb10⟩ := s2_put hW10 _ _ hc8
        obtain ⟨_, r1, r2, _⟩ := ho10 _ _ _ (by omega) f1
        refine bodyPost_ret (v := .tuple #[.agg #[.string (bs h), .string (bs l)], .agg #[.string (bs h2), .string (bs l2)]]) (by simp [results, Tryd.results33, go_sem, r1, r2, g1, g2]) rfl ⟨h, l, h2, l2, rfl, HS.out, HS2.out, ?_⟩
        subst hW10 hW8
        exact turned_more (turned_below (turned_put (turned_put (turned_put (turned_put HT9.out hrw (Nat.le_refl _)) hrw (Nat.le_refl _)) hrw (Nat.le_succ _)) hrw (Nat.le_succ _)) (by go_grown)) (by omega)
      ·
        go_simp
        (go_at_call 25; refine (l7Open_t r q5 _ (rd_on HR7.out (by go_grown)) (by omega)).mono ?_; rintro e w9 ⟨h2, l2, rfl, hs2, ht9'⟩; have ht9 : Turned r _ _ W7 w9 := below_turned (by go_grown) ht9'; have hx9 := s2_turned hx7 ht9.1 (by omega); have ha9 := s2_turned ha7 ht9.1 (by omega); have hc9 := s2_turned hc7 ht9.1 (by omega); have HT9 := Lib.hid (turned_two HT7.out HR7.out ht9 (by omega) (by omega)); have HS2 := Lib.hid hs2; obtain ⟨x90, x91, x92, x93⟩ := id hx9; obtain ⟨a90, a91, a92, a93⟩ := id ha9; obtain ⟨c90, c91, c92, c93⟩ := id hc9; clear ht9 ht9' hs2)
        refine hK.out _ _ trivial (fun _ => ?_)
        clear hK K
        try simp only [Act.put, List.setIfInBounds_toArray, List.set_cons_zero, List.set_cons_succ]
        refine wpAnyH_ready (rs := [0]) (by kernel_rfl) (by simp) ?_
        refine AllReadyH.cons (o := { dst := some 20, op := Go.Op.load 24 (Go.Operand.tmp 4), type := 24, pos := "l7_sets.go:339", after := #[], guard := none }) rfl (fun K hK => ?_) AllReadyH.nil
        go_simp
        refine hK.out _ _ trivial (fun _ => ?_)
        clear hK K
        try simp only [Act.put, List.setIfInBounds_toArray, List.set_cons_zero, List.set_cons_succ]
        refine wpAnyH_ready (rs := [3]) (by kernel_rfl) (by simp) ?_
        refine AllReadyH.cons (o := { dst := none, op := Go.Op.store 24 (Go.Operand.tmp 2) (Go.Operand.tmp 20), type := 0, pos := "l7_sets.go:339", after := #[{ on := 0, ground := Go.Ground.data }, { on := 2, ground := Go.Ground.chain }, { on := 0, ground := Go.Ground.phase }, { on := 1, ground := Go.Ground.textOnly Go.Departure.lateStores }, { on := 2, ground := Go.Ground.textOnly Go.Departure.lateStoresUnsure }], guard := none }) rfl (fun K hK => ?_) AllReadyH.nil
        go_simp
        refine hK.out _ _ trivial (fun _ => ?_)
        clear hK K
        try simp only [Act.put, List.setIfInBounds_toArray, List.set_cons_zero, List.set_cons_succ]
        refine wpAnyH_ready (rs := [4]) (by kernel_rfl) (by simp) ?_
        refine AllReadyH.cons (o := { dst := none, op := Go.Op.store 24 (Go.Operand.tmp 3) (Go.Operand.tmp 22), type := 0, pos := "l7_sets.go:339", after := #[{ on := 2, ground := Go.Ground.data }, { on := 3, ground := Go.Ground.chain }, { on := 0, ground := Go.Ground.phase }, { on := 1, ground := Go.Ground.phase }, { on := 2, ground := Go.Ground.phase }, { on := 3, ground := Go.Ground.phase }], guard := none }) rfl (fun K hK => ?_) AllReadyH.nil
        go_simp
        refine hK.out _ _ trivial (fun _ => ?_)
        clear hK K
        try simp only [Act.put, List.setIfInBounds_toArray, List.set_cons_zero, List.set_cons_succ]
        refine wpAnyH_done (by kernel_rfl) ?_ _
        go_wp2
        generalize hW8 : World.setCell (World.setCell w9 _ _) _ _ = W8
        obtain ⟨f1, _, ho8, hb8⟩ := s2_put hW8 _ _ ha9
        have hc8 := ho8 _ _ _ (by omega) hc9
        generalize hW10 : World.setCell _ _ _ = W10
        obtain ⟨⟨_, g1, g2, _⟩, _, ho10, hb10⟩ := s2_put hW10 _ _ hc8
        obtain ⟨_, r1, r2, _⟩ := ho10 _ _ _ (by omega) f1
        refine bodyPost_ret (v := .tuple #[.agg #[.string (bs h), .string (bs l)], .agg #[.string (bs h2), .string (bs l2)]]) (by simp [results, Tryd.results33, go_sem, r1, r2, g1, g2]) rfl ⟨h, l, h2, l2, rfl, HS.out, HS2.out, ?_⟩
        subst hW10 hW8
        exact turned_more (turned_below (turned_put (turned_put (turned_put (turned_put HT9.out hrw (Nat.le_refl _)) hrw (Nat.le_refl _)) hrw (Nat.le_succ _)) hrw (Nat.le_succ _)) (by go_grown)) (by omega)
  · have hxe : (x == 0) = false := by simpa using hx0
    obtain ⟨x0, x1, x2, x3⟩ := id hx5
    obtain ⟨a0, a1, a2, a3⟩ := id ha5
    obtain ⟨c0, c1, c2, c3⟩ := id hc5
    go_upto_region 6 with fail
    refine wp_region_held_drew (S := fun _ => True) (by kernel_rfl) trivial (fun _ => ?_)
    refine wpAnyH_take (i := 1) (oi := { dst := some 21, op := Go.Op.move (Go.Operand.tmp 0), type := 38, pos := "l7_sets.go:339", after := #[], guard := none }) (v := ?_) rfl (by kernel_rfl) (by kernel_rfl) (by kernel_rfl) (fun _ _ _ h => h) (Or.inl ⟨by rfl, ?_⟩) (by assumption) ?_
    rotate_left
    · (intro w _; first | (go_simp; done) | (go_simp; with_reducible rfl))
    try simp only [Act.put, List.setIfInBounds_toArray, List.set_cons_zero, List.set_cons_succ]
    refine wpAnyH_ready (rs := [0, 2]) (by kernel_rfl) (by simp) ?_
    refine AllReadyH.cons (o := { dst := some 20, op := Go.Op.load 24 (Go.Operand.tmp 4), type := 24, pos := "l7_sets.go:339", after := #[], guard := none }) rfl (fun K hK => ?_) (AllReadyH.cons (o := { dst := some 22, op := Go.Op.call { callee := Go.Callee.value (Go.Operand.func 25), args := #[Go.Operand.tmp 21], argTypes := #[38] }, type := 24, pos := "l7_sets.go:339", after := #[{ on := 1, ground := Go.Ground.data }], guard := none }) rfl (fun K hK => ?_) AllReadyH.nil)
    ·
      go_simp
      refine hK.out _ _ trivial (fun _ => ?_)
      clear hK K
      try simp only [Act.put, List.setIfInBounds_toArray, List.set_cons_zero, List.set_cons_succ]
      refine wpAnyH_ready (rs := [2]) (by kernel_rfl) (by simp) ?_
      refine AllReadyH.cons (o := { dst := some 22, op := Go.Op.call { callee := Go.Callee.value (Go.Operand.func 25), args := #[Go.Operand.tmp 21], argTypes := #[38] }, type := 24, pos := "l7_sets.go:339", after := #[{ on := 1, ground := Go.Ground.data }], guard := none }) rfl (fun K hK => ?_) AllReadyH.nil
      go_simp
      (go_at_call 25; refine (l7Open_t r q5 _ (rd_on HR5.out (by go_grown)) (by omega)).mono ?_; rintro e w9 ⟨h2, l2, rfl, hs2, ht9'⟩; have ht9 : Turned r _ _ w5 w9 := below_turned (by go_grown) ht9'; have hx9 := s2_turned hx5 ht9.1 (by omega); have ha9 := s2_turned ha5 ht9.1 (by omega); have hc9 := s2_turned hc5 ht9.1 (by omega); have HT9 := Lib.hid (turned_two HT5.out HR5.out ht9 (by omega) (by omega)); have HS2 := Lib.hid hs2; obtain ⟨x90, x91, x92, x93⟩ := id hx9; obtain ⟨a90, a91, a92, a93⟩ := id ha9; obtain ⟨c90, c91, c92, c93⟩ := id hc9; clear ht9 ht9' hs2)
      refine hK.out _ _ trivial (fun _ => ?_)
      clear hK K
      try simp only [Act.put, List.setIfInBounds_toArray, List.set_cons_zero, List.set_cons_succ]
      refine wpAnyH_ready (rs := [3]) (by kernel_rfl) (by simp) ?_
      refine AllReadyH.cons (o := { dst := none, op := Go.Op.store 24 (Go.Operand.tmp 2) (Go.Operand.tmp 20), type := 0, pos := "l7_sets.go:339", after := #[{ on := 0, ground := Go.Ground.data }, { on := 2, ground := Go.Ground.chain }, { on := 0, ground := Go.Ground.phase }, { on := 1, ground := Go.Ground.textOnly Go.Departure.lateStores }, { on := 2, ground := Go.Ground.textOnly Go.Departure.lateStoresUnsure }], guard := none }) rfl (fun K hK => ?_) AllReadyH.nil
      go_simp
      refine hK.out _ _ trivial (fun _ => ?_)
      clear hK K
      try simp only [Act.put, List.setIfInBounds_toArray, List.set_cons_zero, List.set_cons_succ]
      refine wpAnyH_ready (rs := [4]) (by kernel_rfl) (by simp) ?_
      refine AllReadyH.cons (o := { dst := none, op := Go.Op.store 24 (Go.Operand.tmp 3) (Go.Operand.tmp 22), type := 0, pos := "l7_sets.go:339", after := #[{ on := 2, ground := Go.Ground.data }, { on := 3, ground := Go.Ground.chain }, { on := 0, ground := Go.Ground.phase }, { on := 1, ground := Go.Ground.phase }, { on := 2, ground := Go.Ground.phase }, { on := 3, ground := Go.Ground.phase }], guard := none }) rfl (fun K hK => ?_) AllReadyH.nil
      go_simp
      refine hK.out _ _ trivial (fun _ => ?_)
      clear hK K
      try simp only [Act.put, List.setIfInBounds_toArray, List.set_cons_zero, List.set_cons_succ]
      refine wpAnyH_done (by kernel_rfl) ?_ _
      go_wp2
      generalize hW8 : World.setCell (World.setCell w9 _ _) _ _ = W8
      obtain ⟨f1, _, ho8, hb8⟩ := s2_put hW8 _ _ ha9
      have hc8 := ho8 _ _ _ (by omega) hc9
      generalize hW10 : World.setCell _ _ _ = W10
      obtain ⟨⟨_, g1, g2, _⟩, _, ho10, hb10⟩ := s2_put hW10 _ _ hc8
      obtain ⟨_, r1, r2, _⟩ := ho10 _ _ _ (by omega) f1
      refine bodyPost_ret (v := .tuple #[.agg #[.string (bs h), .string (bs l)], .agg #[.string (bs h2), .string (bs l2)]]) (by simp [results, Tryd.results33, go_sem, r1, r2, g1, g2]) rfl ⟨h, l, h2, l2, rfl, HS.out, HS2.out, ?_⟩
      subst hW10 hW8
      exact turned_more (turned_below (turned_put (turned_put (turned_put (turned_put HT9.out hrw (Nat.le_refl _)) hrw (Nat.le_refl _)) hrw (Nat.le_succ _)) hrw (Nat.le_succ _)) (by go_grown)) (by omega)
    ·
      go_simp
      (go_at_call 25; refine (l7Open_t r q5 _ (rd_on HR5.out (by go_grown)) (by omega)).mono ?_; rintro e w9 ⟨h2, l2, rfl, hs2, ht9'⟩; have ht9 : Turned r _ _ w5 w9 := below_turned (by go_grown) ht9'; have hx9 := s2_turned hx5 ht9.1 (by omega); have ha9 := s2_turned ha5 ht9.1 (by omega); have hc9 := s2_turned hc5 ht9.1 (by omega); have HT9 := Lib.hid (turned_two HT5.out HR5.out ht9 (by omega) (by omega)); have HS2 := Lib.hid hs2; obtain ⟨x90, x91, x92, x93⟩ := id hx9; obtain ⟨a90, a91, a92, a93⟩ := id ha9; obtain ⟨c90, c91, c92, c93⟩ := id hc9; clear ht9 ht9' hs2)
      refine hK.out _ _ trivial (fun _ => ?_)
      clear hK K
      try simp only [Act.put, List.setIfInBounds_toArray, List.set_cons_zero, List.set_cons_succ]
      refine wpAnyH_ready (rs := [0]) (by kernel_rfl) (by simp) ?_
      refine AllReadyH.cons (o := { dst := some 20, op := Go.Op.load 24 (Go.Operand.tmp 4), type := 24, pos := "l7_sets.go:339", after := #[], guard := none }) rfl (fun K hK => ?_) AllReadyH.nil
      go_simp
      refine hK.out _ _ trivial (fun _ => ?_)
      clear hK K
      try simp only [Act.put, List.setIfInBounds_toArray, List.set_cons_zero, List.set_cons_succ]
      refine wpAnyH_ready (rs := [3]) (by kernel_rfl) (by simp) ?_
      refine AllReadyH.cons (o := { dst := none, op := Go.Op.store 24 (Go.Operand.tmp 2) (Go.Operand.tmp 20), type := 0, pos := "l7_sets.go:339", after := #[{ on := 0, ground := Go.Ground.data }, { on := 2, ground := Go.Ground.chain }, { on := 0, ground := Go.Ground.phase }, { on := 1, ground := Go.Ground.textOnly Go.Departure.lateStores }, { on := 2, ground := Go.Ground.textOnly Go.Departure.lateStoresUnsure }], guard := none }) rfl (fun K hK => ?_) AllReadyH.nil
      go_simp
      refine hK.out _ _ trivial (fun _ => ?_)
      clear hK K
      try simp only [Act.put, List.setIfInBounds_toArray, List.set_cons_zero, List.set_cons_succ]
      refine wpAnyH_ready (rs := [4]) (by kernel_rfl) (by simp) ?_
      refine AllReadyH.cons (o := { dst := none, op := Go.Op.store 24 (Go.Operand.tmp 3) (Go.Operand.tmp 22), type := 0, pos := "l7_sets.go:339", after := #[{ on := 2, ground := Go.Ground.data }, { on := 3, ground := Go.Ground.chain }, { on := 0, ground := Go.Ground.phase }, { on := 1, ground := Go.Ground.phase }, { on := 2, ground := Go.Ground.phase }, { on := 3, ground := Go.Ground.phase }], guard := none }) rfl (fun K hK => ?_) AllReadyH.nil
      go_simp
      refine hK.out _ _ trivial (fun _ => ?_)
      clear hK K
      try simp only [Act.put, List.setIfInBounds_toArray, List.set_cons_zero, List.set_cons_succ]
      refine wpAnyH_done (by kernel_rfl) ?_ _
      go_wp2
      generalize hW8 : World.setCell (World.setCell w9 _ _) _ _ = W8
      obtain ⟨f1, _, ho8, hb8⟩ := s2_put hW8 _ _ ha9
      have hc8 := ho8 _ _ _ (by omega) hc9
      generalize hW10 : World.setCell _ _ _ = W10
      obtain ⟨⟨_, g1, g2, _⟩, _, ho10, hb10⟩ := s2_put hW10 _ _ hc8
      obtain ⟨_, r1, r2, _⟩ := ho10 _ _ _ (by omega) f1
      refine bodyPost_ret (v := .tuple #[.agg #[.string (bs h), .string (bs l)], .agg #[.string (bs h2), .string (bs l2)]]) (by simp [results, Tryd.results33, go_sem, r1, r2, g1, g2]) rfl ⟨h, l, h2, l2, rfl, HS.out, HS2.out, ?_⟩
      subst hW10 hW8
      exact turned_more (turned_below (turned_put (turned_put (turned_put (turned_put HT9.out hrw (Nat.le_refl _)) hrw (Nat.le_refl _)) hrw (Nat.le_succ _)) hrw (Nat.le_succ _)) (by go_grown)) (by omega)
set_option maxHeartbeats 2000000 in
theorem DrawSameSet_t (sp : Option Addr) (n cap : Nat) (w : World) (h : Code w sp n cap) :
    Calls Tryd.prog 16 #[.slice sp n cap] w (Dr2S w) := by
  have HC := Lib.hid h
  clear h
  go_enter Tryd.func16, Tryd.ntmps16
  go_wp2_with fail
  generalize hW : World.alloc w _ = W
  obtain ⟨ha, hsa, hba⟩ := s2_new hW
  clear hW
  generalize hW : World.alloc W _ = W2
  obtain ⟨hc, hsc, hbc⟩ := s2_new hW
  rw [hsa] at hc
  have ha2 := s2_on ha hbc
  have hb2 := below_on hba hbc
  clear hW ha hba hbc
  refine (l17Open_t sp n cap W2 (code_on HC.out hb2)).mono ?_
  rintro e w1 ⟨r, rfl, hr, hR, hb1⟩
  have ha1 := s2_on ha2 hb1
  have hc1 := s2_on hc hb1
  have hb := below_on hb2 hb1
  have HR := Lib.hid hR
  have hw2 := hc.1
  have hrw1 := rd_lt hR
  clear hR hb1 ha2 hc hb2
  go_wp2_with fail
  refine (l7Two_t r 0 w1 HR.out (by omega)).mono ?_
  rintro e w3 ⟨h, l, h', l', rfl, hs, hs', ht3⟩
  have ha3 := s2_turned ha1 ht3.1 (by omega)
  have hc3 := s2_turned hc1 ht3.1 (by omega)
  have HB3 := Lib.hid (opened_below hb (by omega) ht3)
  have HS := Lib.hid hs
  have HS' := Lib.hid hs'
  clear ha1 hc1 ht3 hs hs' hb
  obtain ⟨a0, a1, a2, a3⟩ := id ha3
  obtain ⟨c0, c1, c2, c3⟩ := id hc3
  go_wp2
  generalize hW8 : World.setCell (World.setCell w3 _ _) _ _ = W8
  obtain ⟨f1, _, ho8, hb8⟩ := s2_put hW8 _ _ ha3
  have hc8 := ho8 _ _ _ (by omega) hc3
  generalize hW9 : World.setCell _ _ _ = W9
  obtain ⟨⟨_, g1, g2, _⟩, _, ho9, hb9⟩ := s2_put hW9 _ _ hc8
  obtain ⟨_, r1, r2, _⟩ := ho9 _ _ _ (by omega) f1
  refine bodyPost_ret (v := .tuple #[.agg #[.string (bs h), .string (bs l)], .agg #[.string (bs h'), .string (bs l')]]) (by simp [results, Tryd.results16, go_sem, r1, r2, g1, g2]) rfl ⟨h, l, h', l', rfl, HS.out, HS'.out, below_on (hb9 w (hb8 w HB3.out (Nat.le_refl _)) (Nat.le_succ _)) (by go_grown)⟩

end Go.Proofs.YtbckigekedpdgaaDoor
