/- What the model draws for the laws on one formula: l3Some, l3Open, DrawNodeCount, DrawNestedCount, DrawAtomsOf. -/
import Derived.Test.YthhbmnfmhomggaaDrJ
namespace Go.Proofs.Ythhbmnfmhomggaa
open Go.RowKit

set_option maxRecDepth 10000 in
set_option maxHeartbeats 2000000 in
theorem l3Some_t (r : Nat) (p : Int) (w : World) (h : Rd w r p) (hp : p ≤ 600000) : Calls Try.prog 77 #[.pointer (some ⟨r, 0, none⟩)] w (FdT r p 400 w) := by
  have hr := rd_lt h
  have H := Lib.hid h
  clear h
  go_enter Try.func77, Try.ntmps77
  go_wp2_with fail
  generalize hW : World.alloc _ _ = W
  have hd : D3 w r p 0 w.heap.size W := by
    have hb0 : Below w.heap.size w W := by subst hW; go_grown
    exact ⟨by subst hW; exact (by refine ⟨?_, ?_, ?_, ?_, ?_, ?_, ?_, ?_, ?_, ?_, ?_⟩ <;> first | (simp [go_sem]; done) | (simp; omega)), by intro o; subst hW; simp [go_sem], turned_below (turned_none H.out) hb0, hr, Nat.le_refl _, hr⟩
  have hR0 : Rd W r p := rd_on H.out (by subst hW; go_grown)
  clear hW
  refine (pick_t r p 4 W hR0 (by omega)).mono ?_
  rintro e w1 ⟨x, rfl, x0, x1, ht1⟩
  have HD1 := Lib.hid (d3_turn hd ht1 hR0 (by omega) (by omega))
  have hx : x = 0 ∨ x = 1 ∨ x = 2 ∨ x = 3 := by omega
  clear ht1 hR0 hd x1 x0
  obtain ⟨q1, p2, p3, hR1⟩ := d3_rd HD1.out
  have HR1 := Lib.hid hR1
  clear hR1
  go_wp2_with fail
  refine (pick_t r q1 3 w1 HR1.out (by omega)).mono ?_
  rintro e w2 ⟨y, rfl, _, _, ht2⟩
  have HD2 := Lib.hid (d3_turn HD1.out ht2 HR1.out p2 p3)
  clear ht2
  obtain ⟨q2, p4, p5, hR2⟩ := d3_rd HD2.out
  have HR2 := Lib.hid hR2
  obtain ⟨hz2, _, _⟩ := d3_size HD2.out
  clear hR2
  obtain ⟨qb, hqb⟩ : ∃ qb, decide (0 < y) = qb := ⟨_, rfl⟩
  rcases hx with rfl | rfl | rfl | rfl
  · have hk : KD 1 = 44 := rfl
    have HC := Lib.hid (draw_any 1 (by omega) r q2 qb w2 HR2.out (by rw [hk]; omega))
    rw [hk] at HC
    go_wp2_with fail
    refine HC.out.mono ?_
    rintro e w3 ⟨h3, f3, s3, rfl, hs3, hl3, hn3, ht3⟩
    have HD3 := Lib.hid (d3_turn HD2.out ht3 HR2.out p4 p5)
    have HS3 := Lib.hid (FS.mono (lo' := w.heap.size + 1) (by omega) hs3)
    obtain ⟨a3, n3, c3, rfl⟩ := hs3.slice
    clear ht3 hs3 hqb
    obtain ⟨⟨zz0, zc0, zc1, zc2, zc3, zc4, zc5, zc6, zc7, zc8, zc9⟩, zf, _⟩ := id HD3.out
    have zff := zf.out
    go_upto_region 16 with fail
    (generalize hW9 : World.setCell _ _ _ = W9)
    obtain ⟨⟨z0, y0, y1, y2, y3, y4, y5, y6, y7, y8, y9⟩, ht9, hfs9⟩ := d3_put (g := h3) HD3.out hW9
    clear hW9
    go_wp2
    refine bodyPost_ret (v := .agg #[.int .i64 h3.k, .int .i64 h3.ak, .int .i64 h3.am, .int .i64 h3.a, .int .i64 h3.b, .int .i64 h3.c, .int .i64 h3.d, .int .i64 h3.n, .int .i64 h3.v, .slice a3 n3 c3]) (by simp [results, Try.results77, go_sem, y0, y1, y2, y3, y4, y5, y6, y7, y8, y9]) rfl ⟨h3, f3, .slice a3 n3 c3, rfl, hfs9 _ _ HS3.out, hl3, hn3, turned_more ht9 (by omega)⟩
  · have hk : KD 2 = 92 := rfl
    have HC := Lib.hid (draw_any 2 (by omega) r q2 qb w2 HR2.out (by rw [hk]; omega))
    rw [hk] at HC
    go_wp2_with fail
    refine HC.out.mono ?_
    rintro e w3 ⟨h3, f3, s3, rfl, hs3, hl3, hn3, ht3⟩
    have HD3 := Lib.hid (d3_turn HD2.out ht3 HR2.out p4 p5)
    have HS3 := Lib.hid (FS.mono (lo' := w.heap.size + 1) (by omega) hs3)
    obtain ⟨a3, n3, c3, rfl⟩ := hs3.slice
    clear ht3 hs3 hqb
    obtain ⟨⟨zz0, zc0, zc1, zc2, zc3, zc4, zc5, zc6, zc7, zc8, zc9⟩, zf, _⟩ := id HD3.out
    have zff := zf.out
    go_upto_region 16 with fail
    (generalize hW9 : World.setCell _ _ _ = W9)
    obtain ⟨⟨z0, y0, y1, y2, y3, y4, y5, y6, y7, y8, y9⟩, ht9, hfs9⟩ := d3_put (g := h3) HD3.out hW9
    clear hW9
    go_wp2
    refine bodyPost_ret (v := .agg #[.int .i64 h3.k, .int .i64 h3.ak, .int .i64 h3.am, .int .i64 h3.a, .int .i64 h3.b, .int .i64 h3.c, .int .i64 h3.d, .int .i64 h3.n, .int .i64 h3.v, .slice a3 n3 c3]) (by simp [results, Try.results77, go_sem, y0, y1, y2, y3, y4, y5, y6, y7, y8, y9]) rfl ⟨h3, f3, .slice a3 n3 c3, rfl, hfs9 _ _ HS3.out, hl3, hn3, turned_more ht9 (by omega)⟩
  · have hk : KD 3 = 188 := rfl
    have HC := Lib.hid (draw_any 3 (by omega) r q2 qb w2 HR2.out (by rw [hk]; omega))
    rw [hk] at HC
    go_wp2_with fail
    refine HC.out.mono ?_
    rintro e w3 ⟨h3, f3, s3, rfl, hs3, hl3, hn3, ht3⟩
    have HD3 := Lib.hid (d3_turn HD2.out ht3 HR2.out p4 p5)
    have HS3 := Lib.hid (FS.mono (lo' := w.heap.size + 1) (by omega) hs3)
    obtain ⟨a3, n3, c3, rfl⟩ := hs3.slice
    clear ht3 hs3 hqb
    obtain ⟨⟨zz0, zc0, zc1, zc2, zc3, zc4, zc5, zc6, zc7, zc8, zc9⟩, zf, _⟩ := id HD3.out
    have zff := zf.out
    go_upto_region 16 with fail
    (generalize hW9 : World.setCell _ _ _ = W9)
    obtain ⟨⟨z0, y0, y1, y2, y3, y4, y5, y6, y7, y8, y9⟩, ht9, hfs9⟩ := d3_put (g := h3) HD3.out hW9
    clear hW9
    go_wp2
    refine bodyPost_ret (v := .agg #[.int .i64 h3.k, .int .i64 h3.ak, .int .i64 h3.am, .int .i64 h3.a, .int .i64 h3.b, .int .i64 h3.c, .int .i64 h3.d, .int .i64 h3.n, .int .i64 h3.v, .slice a3 n3 c3]) (by simp [results, Try.results77, go_sem, y0, y1, y2, y3, y4, y5, y6, y7, y8, y9]) rfl ⟨h3, f3, .slice a3 n3 c3, rfl, hfs9 _ _ HS3.out, hl3, hn3, turned_more ht9 (by omega)⟩
  · have hk : KD 4 = 380 := rfl
    have HC := Lib.hid (draw_any 4 (by omega) r q2 qb w2 HR2.out (by rw [hk]; omega))
    rw [hk] at HC
    go_wp2_with fail
    refine HC.out.mono ?_
    rintro e w3 ⟨h3, f3, s3, rfl, hs3, hl3, hn3, ht3⟩
    have HD3 := Lib.hid (d3_turn HD2.out ht3 HR2.out p4 p5)
    have HS3 := Lib.hid (FS.mono (lo' := w.heap.size + 1) (by omega) hs3)
    obtain ⟨a3, n3, c3, rfl⟩ := hs3.slice
    clear ht3 hs3 hqb
    obtain ⟨⟨zz0, zc0, zc1, zc2, zc3, zc4, zc5, zc6, zc7, zc8, zc9⟩, zf, _⟩ := id HD3.out
    have zff := zf.out
    go_upto_region 16 with fail
    (generalize hW9 : World.setCell _ _ _ = W9)
    obtain ⟨⟨z0, y0, y1, y2, y3, y4, y5, y6, y7, y8, y9⟩, ht9, hfs9⟩ := d3_put (g := h3) HD3.out hW9
    clear hW9
    go_wp2
    refine bodyPost_ret (v := .agg #[.int .i64 h3.k, .int .i64 h3.ak, .int .i64 h3.am, .int .i64 h3.a, .int .i64 h3.b, .int .i64 h3.c, .int .i64 h3.d, .int .i64 h3.n, .int .i64 h3.v, .slice a3 n3 c3]) (by simp [results, Try.results77, go_sem, y0, y1, y2, y3, y4, y5, y6, y7, y8, y9]) rfl ⟨h3, f3, .slice a3 n3 c3, rfl, hfs9 _ _ HS3.out, hl3, hn3, turned_more ht9 (by omega)⟩

set_option maxRecDepth 10000 in
set_option maxHeartbeats 2000000 in
theorem l3Open_t (r : Nat) (p : Int) (w : World) (h : Rd w r p) (hp : p ≤ 500000) : Calls Try.prog 49 #[.pointer (some ⟨r, 0, none⟩)] w (FmT r p 500 w.heap.size w) := by
  have hr := rd_lt h
  have H := Lib.hid h
  clear h
  go_enter Try.func49, Try.ntmps49
  go_wp2_with fail
  generalize hW : World.alloc _ _ = W
  have hd : D3 w r p 0 w.heap.size W := by
    have hb0 : Below w.heap.size w W := by subst hW; go_grown
    exact ⟨by subst hW; exact (by refine ⟨?_, ?_, ?_, ?_, ?_, ?_, ?_, ?_, ?_, ?_, ?_⟩ <;> first | (simp [go_sem]; done) | (simp; omega)), by intro o; subst hW; simp [go_sem], turned_below (turned_none H.out) hb0, hr, Nat.le_refl _, hr⟩
  have hR0 : Rd W r p := rd_on H.out (by subst hW; go_grown)
  have HD0 := Lib.hid hd
  have hzs := hd.1.1
  clear hW hd
  refine (l3Some_t r p W hR0 (by omega)).mono ?_
  rintro e w1 ⟨h1, f1, s1, rfl, hs1, hl1, hn1, ht1⟩
  have HD1 := Lib.hid (d3_turn HD0.out ht1 hR0 (by omega) (by omega))
  have HS1 := Lib.hid (FS.mono (lo' := w.heap.size + 1) (by omega) hs1)
  have HN1 := Lib.hid hn1
  obtain ⟨a1, n1, c1, rfl⟩ := hs1.slice
  clear ht1 hR0 hs1 hn1
  obtain ⟨q1, p2, p3, hR1⟩ := d3_rd HD1.out
  have HR1 := Lib.hid hR1
  obtain ⟨hz1, hrz, _⟩ := d3_size HD1.out
  clear hR1
  go_wp2_with fail
  refine (l3Bad_t r q1 (w.heap.size + 1) h1 f1 _ w1 HR1.out (by omega) HS1.out (by omega) (by omega) hl1 HN1.out).mono ?_
  rintro e w3 ⟨h3, f3, s3, rfl, hs3, ht3⟩
  have HD3 := Lib.hid (d3_turn HD1.out ht3 HR1.out p2 p3)
  have HS3 := Lib.hid hs3
  obtain ⟨a3, n3, c3, rfl⟩ := hs3.slice
  clear ht3 hs3
  obtain ⟨⟨zz0, zc0, zc1, zc2, zc3, zc4, zc5, zc6, zc7, zc8, zc9⟩, zf, _⟩ := id HD3.out
  have zff := zf.out
  go_upto_region 16 with fail
  (generalize hW9 : World.setCell _ _ _ = W9)
  obtain ⟨⟨z0, y0, y1, y2, y3, y4, y5, y6, y7, y8, y9⟩, ht9, hfs9⟩ := d3_put (g := h3) HD3.out hW9
  clear hW9
  go_wp2
  refine bodyPost_ret (v := .agg #[.int .i64 h3.k, .int .i64 h3.ak, .int .i64 h3.am, .int .i64 h3.a, .int .i64 h3.b, .int .i64 h3.c, .int .i64 h3.d, .int .i64 h3.n, .int .i64 h3.v, .slice a3 n3 c3]) (by simp [results, Try.results49, go_sem, y0, y1, y2, y3, y4, y5, y6, y7, y8, y9]) rfl ⟨h3, f3, .slice a3 n3 c3, rfl, hfs9 _ _ HS3.out, turned_more ht9 (by omega)⟩

/-- A drawn formula. -/
def SomeForm (w : World) (e : Ending) (w' : World) : Prop := ∃ (h : FH) (f : Fo) (s : Value), e = .returned (.agg #[.int .i64 h.k, .int .i64 h.ak, .int .i64 h.am, .int .i64 h.a, .int .i64 h.b, .int .i64 h.c, .int .i64 h.d, .int .i64 h.n, .int .i64 h.v, s]) ∧ FS w' w.heap.size f s ∧ Below w.heap.size w w'

set_option maxHeartbeats 1000000 in
theorem DrawNodeCount_t (sp : Option Addr) (n cap : Nat) (w : World) (h : Code w sp n cap) : Calls Try.prog 11 #[.slice sp n cap] w (SomeForm w) := by
  have H := Lib.hid h
  clear h
  go_enter Try.func11, Try.ntmps11
  go_wp2_with fail
  generalize hW : World.alloc _ _ = W
  have hz : C10 W w.heap.size ⟨0, 0, 0, 0, 0, 0, 0, 0, 0⟩ (.slice none 0 0) := by subst hW; exact (by refine ⟨?_, ?_, ?_, ?_, ?_, ?_, ?_, ?_, ?_, ?_, ?_⟩ <;> first | (simp [go_sem]; done) | (simp; omega))
  have fz : ∀ o, W.frozen? ⟨w.heap.size, o, none⟩ = false := by intro o; subst hW; simp [go_sem]
  have hb0 : Below w.heap.size w W := by subst hW; go_grown
  clear hW
  refine (l17Open_t sp n cap W (code_on H.out hb0)).mono ?_
  rintro e w1 ⟨r, rfl, hr, hR, hb1⟩
  have HR := Lib.hid hR
  clear hR
  go_wp2_with fail
  refine (l3Open_t r 0 w1 HR.out (by omega)).mono ?_
  rintro e w2 ⟨h3, f3, s3, rfl, hs3, ht⟩
  have hb2 : Below W.heap.size W w2 := hb1.trans (below_only ht.1 hb1.size hr)
  have hz0 := hz.1
  have hs12 := hb1.size
  have hx2 := c10_on hz hb2
  have fz2 : ∀ o, w2.frozen? ⟨w.heap.size, o, none⟩ = false := fun o => ((bcell hb2).2 _ o hz.1).trans (fz o)
  have hw2 := below_on hb0 hb2
  have HS3 := Lib.hid hs3
  obtain ⟨a3, n3, c3, rfl⟩ := hs3.slice
  obtain ⟨u0, u1, u2, u3, u4, u5, u6, u7, u8, u9, u10⟩ := id hx2
  clear ht hs3 hz fz
  go_upto_region 16 with fail
  (generalize hW9 : World.setCell _ _ _ = W9)
  obtain ⟨⟨z0, y0, y1, y2, y3, y4, y5, y6, y7, y8, y9⟩, hk9, hs9, _⟩ := ten_put (g := h3) hx2 hW9
  have hb9 : Below w.heap.size w W9 := by
    subst hW9
    exact ((((((((((hw2.setCell (Nat.le_refl _) _).setCell (Nat.le_refl _) _).setCell (Nat.le_refl _) _).setCell (Nat.le_refl _) _).setCell (Nat.le_refl _) _).setCell (Nat.le_refl _) _).setCell (Nat.le_refl _) _).setCell (Nat.le_refl _) _).setCell (Nat.le_refl _) _).setCell (Nat.le_refl _) _)
  clear hW9 u0 u1 u2 u3 u4 u5 u6 u7 u8 u9 u10
  go_wp2
  refine bodyPost_ret (v := .agg #[.int .i64 h3.k, .int .i64 h3.ak, .int .i64 h3.am, .int .i64 h3.a, .int .i64 h3.b, .int .i64 h3.c, .int .i64 h3.d, .int .i64 h3.n, .int .i64 h3.v, .slice a3 n3 c3]) (by simp [results, Try.results11, go_sem, y0, y1, y2, y3, y4, y5, y6, y7, y8, y9]) rfl ⟨h3, f3, .slice a3 n3 c3, rfl, FS.mono (by omega) (FS.kept (Nat.le_of_eq hs9.symm) (fun k hk _ => hk9 k (by omega)) HS3.out), hb9⟩

set_option maxHeartbeats 1000000 in
theorem DrawNestedCount_t (sp : Option Addr) (n cap : Nat) (w : World) (h : Code w sp n cap) : Calls Try.prog 16 #[.slice sp n cap] w (SomeForm w) := by
  have H := Lib.hid h
  clear h
  go_enter Try.func16, Try.ntmps16
  go_wp2_with fail
  generalize hW : World.alloc _ _ = W
  have hz : C10 W w.heap.size ⟨0, 0, 0, 0, 0, 0, 0, 0, 0⟩ (.slice none 0 0) := by subst hW; exact (by refine ⟨?_, ?_, ?_, ?_, ?_, ?_, ?_, ?_, ?_, ?_, ?_⟩ <;> first | (simp [go_sem]; done) | (simp; omega))
  have fz : ∀ o, W.frozen? ⟨w.heap.size, o, none⟩ = false := by intro o; subst hW; simp [go_sem]
  have hb0 : Below w.heap.size w W := by subst hW; go_grown
  clear hW
  refine (l17Open_t sp n cap W (code_on H.out hb0)).mono ?_
  rintro e w1 ⟨r, rfl, hr, hR, hb1⟩
  have HR := Lib.hid hR
  clear hR
  go_wp2_with fail
  refine (l3Open_t r 0 w1 HR.out (by omega)).mono ?_
  rintro e w2 ⟨h3, f3, s3, rfl, hs3, ht⟩
  have hb2 : Below W.heap.size W w2 := hb1.trans (below_only ht.1 hb1.size hr)
  have hz0 := hz.1
  have hs12 := hb1.size
  have hx2 := c10_on hz hb2
  have fz2 : ∀ o, w2.frozen? ⟨w.heap.size, o, none⟩ = false := fun o => ((bcell hb2).2 _ o hz.1).trans (fz o)
  have hw2 := below_on hb0 hb2
  have HS3 := Lib.hid hs3
  obtain ⟨a3, n3, c3, rfl⟩ := hs3.slice
  obtain ⟨u0, u1, u2, u3, u4, u5, u6, u7, u8, u9, u10⟩ := id hx2
  clear ht hs3 hz fz
  go_upto_region 16 with fail
  (generalize hW9 : World.setCell _ _ _ = W9)
  obtain ⟨⟨z0, y0, y1, y2, y3, y4, y5, y6, y7, y8, y9⟩, hk9, hs9, _⟩ := ten_put (g := h3) hx2 hW9
  have hb9 : Below w.heap.size w W9 := by
    subst hW9
    exact ((((((((((hw2.setCell (Nat.le_refl _) _).setCell (Nat.le_refl _) _).setCell (Nat.le_refl _) _).setCell (Nat.le_refl _) _).setCell (Nat.le_refl _) _).setCell (Nat.le_refl _) _).setCell (Nat.le_refl _) _).setCell (Nat.le_refl _) _).setCell (Nat.le_refl _) _).setCell (Nat.le_refl _) _)
  clear hW9 u0 u1 u2 u3 u4 u5 u6 u7 u8 u9 u10
  go_wp2
  refine bodyPost_ret (v := .agg #[.int .i64 h3.k, .int .i64 h3.ak, .int .i64 h3.am, .int .i64 h3.a, .int .i64 h3.b, .int .i64 h3.c, .int .i64 h3.d, .int .i64 h3.n, .int .i64 h3.v, .slice a3 n3 c3]) (by simp [results, Try.results16, go_sem, y0, y1, y2, y3, y4, y5, y6, y7, y8, y9]) rfl ⟨h3, f3, .slice a3 n3 c3, rfl, FS.mono (by omega) (FS.kept (Nat.le_of_eq hs9.symm) (fun k hk _ => hk9 k (by omega)) HS3.out), hb9⟩

set_option maxHeartbeats 1000000 in
theorem DrawAtomsOf_t (sp : Option Addr) (n cap : Nat) (w : World) (h : Code w sp n cap) : Calls Try.prog 20 #[.slice sp n cap] w (SomeForm w) := by
  have H := Lib.hid h
  clear h
  go_enter Try.func20, Try.ntmps20
  go_wp2_with fail
  generalize hW : World.alloc _ _ = W
  have hz : C10 W w.heap.size ⟨0, 0, 0, 0, 0, 0, 0, 0, 0⟩ (.slice none 0 0) := by subst hW; exact (by refine ⟨?_, ?_, ?_, ?_, ?_, ?_, ?_, ?_, ?_, ?_, ?_⟩ <;> first | (simp [go_sem]; done) | (simp; omega))
  have fz : ∀ o, W.frozen? ⟨w.heap.size, o, none⟩ = false := by intro o; subst hW; simp [go_sem]
  have hb0 : Below w.heap.size w W := by subst hW; go_grown
  clear hW
  refine (l17Open_t sp n cap W (code_on H.out hb0)).mono ?_
  rintro e w1 ⟨r, rfl, hr, hR, hb1⟩
  have HR := Lib.hid hR
  clear hR
  go_wp2_with fail
  refine (l3Open_t r 0 w1 HR.out (by omega)).mono ?_
  rintro e w2 ⟨h3, f3, s3, rfl, hs3, ht⟩
  have hb2 : Below W.heap.size W w2 := hb1.trans (below_only ht.1 hb1.size hr)
  have hz0 := hz.1
  have hs12 := hb1.size
  have hx2 := c10_on hz hb2
  have fz2 : ∀ o, w2.frozen? ⟨w.heap.size, o, none⟩ = false := fun o => ((bcell hb2).2 _ o hz.1).trans (fz o)
  have hw2 := below_on hb0 hb2
  have HS3 := Lib.hid hs3
  obtain ⟨a3, n3, c3, rfl⟩ := hs3.slice
  obtain ⟨u0, u1, u2, u3, u4, u5, u6, u7, u8, u9, u10⟩ := id hx2
  clear ht hs3 hz fz
  go_upto_region 16 with fail
  (generalize hW9 : World.setCell _ _ _ = W9)
  obtain ⟨⟨z0, y0, y1, y2, y3, y4, y5, y6, y7, y8, y9⟩, hk9, hs9, _⟩ := ten_put (g := h3) hx2 hW9
  have hb9 : Below w.heap.size w W9 := by
    subst hW9
    exact ((((((((((hw2.setCell (Nat.le_refl _) _).setCell (Nat.le_refl _) _).setCell (Nat.le_refl _) _).setCell (Nat.le_refl _) _).setCell (Nat.le_refl _) _).setCell (Nat.le_refl _) _).setCell (Nat.le_refl _) _).setCell (Nat.le_refl _) _).setCell (Nat.le_refl _) _).setCell (Nat.le_refl _) _)
  clear hW9 u0 u1 u2 u3 u4 u5 u6 u7 u8 u9 u10
  go_wp2
  refine bodyPost_ret (v := .agg #[.int .i64 h3.k, .int .i64 h3.ak, .int .i64 h3.am, .int .i64 h3.a, .int .i64 h3.b, .int .i64 h3.c, .int .i64 h3.d, .int .i64 h3.n, .int .i64 h3.v, .slice a3 n3 c3]) (by simp [results, Try.results20, go_sem, y0, y1, y2, y3, y4, y5, y6, y7, y8, y9]) rfl ⟨h3, f3, .slice a3 n3 c3, rfl, FS.mono (by omega) (FS.kept (Nat.le_of_eq hs9.symm) (fun k hk _ => hk9 k (by omega)) HS3.out), hb9⟩

end Go.Proofs.Ythhbmnfmhomggaa
