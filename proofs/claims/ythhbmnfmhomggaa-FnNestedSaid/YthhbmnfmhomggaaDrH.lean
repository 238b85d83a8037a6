/- What the model draws as a formula: l3Draw. -/
import Derived.Test.YthhbmnfmhomggaaDrG
namespace Go.Proofs.Ythhbmnfmhomggaa
open Go.RowKit

/-- While l3Draw draws: the result's box, and that only the reader has turned. -/
def D3 (w : World) (r : Nat) (p K : Int) (z : Nat) (W : World) : Prop :=
  C10 W z ⟨0, 0, 0, 0, 0, 0, 0, 0, 0⟩ (.slice none 0 0) ∧ Hid (∀ o, W.frozen? ⟨z, o, none⟩ = false) ∧ Turned r p K w W ∧ r < z ∧ w.heap.size ≤ z ∧ r < w.heap.size
theorem d3_turn {w W W' : World} {r z : Nat} {p q K K' : Int} (h : D3 w r p K z W) (ht : Turned r q K' W W') (hR : Rd W r q) (q0 : p ≤ q) (q1 : q ≤ p + K) : D3 w r p (K + K') z W' := by
  obtain ⟨hz, hfz, h1, e1, e2, e3⟩ := h
  exact ⟨c10_only hz ht.1 (by omega), fz_only hfz ht.1 hz.1 (by omega), turned_two h1 hR ht q0 q1, e1, e2, e3⟩
theorem d3_below {w W W' : World} {r z : Nat} {p K : Int} (h : D3 w r p K z W) (hb : Below W.heap.size W W') : D3 w r p K z W' := by
  obtain ⟨hz, hfz, h1, e1, e2, e3⟩ := h
  exact ⟨c10_on hz hb, fun o => ((bcell hb).2 _ o hz.1).trans (hfz.out o), turned_below h1 hb, e1, e2, e3⟩
theorem d3_rd {w W : World} {r z : Nat} {p K : Int} (h : D3 w r p K z W) : ∃ q, p ≤ q ∧ q ≤ p + K ∧ Rd W r q := by
  obtain ⟨_, _, ⟨_, q, q0, q1, hR⟩, _⟩ := h
  exact ⟨q, q0, q1, hR⟩
theorem d3_more {w W : World} {r z : Nat} {p K K' : Int} (h : D3 w r p K z W) (hK : K ≤ K') : D3 w r p K' z W := by
  obtain ⟨hz, hfz, h1, e⟩ := h
  exact ⟨hz, hfz, turned_more h1 hK, e⟩
theorem d3_size {w W : World} {r z : Nat} {p K : Int} (h : D3 w r p K z W) : z < W.heap.size ∧ r < z ∧ w.heap.size ≤ z := ⟨h.1.1, h.2.2.2.1, h.2.2.2.2.1⟩

/-- The result is stored into its box. -/
theorem d3_put {w W W' : World} {r z : Nat} {p K : Int} {g : FH} {t : Value} (h : D3 w r p K z W)
    (hW : ((((((((((W.setCell ⟨z, 0, none⟩ (.int .i64 g.k)).setCell ⟨z, 1, none⟩ (.int .i64 g.ak)).setCell ⟨z, 2, none⟩ (.int .i64 g.am)).setCell ⟨z, 3, none⟩ (.int .i64 g.a)).setCell ⟨z, 4, none⟩ (.int .i64 g.b)).setCell ⟨z, 5, none⟩ (.int .i64 g.c)).setCell ⟨z, 6, none⟩ (.int .i64 g.d)).setCell ⟨z, 7, none⟩ (.int .i64 g.n)).setCell ⟨z, 8, none⟩ (.int .i64 g.v)).setCell ⟨z, 9, none⟩ t) = W') :
    C10 W' z g t ∧ Turned r p K w W' ∧ (∀ (f : Fo) (s : Value), FS W (z + 1) f s → FS W' w.heap.size f s) := by
  obtain ⟨⟨x0, c0, c1, c2, c3, c4, c5, c6, c7, c8, c9⟩, hfz, h1, e1, e2, e3⟩ := h
  have hblk : ∀ x, x ≠ z → W'.heap[x]? = W.heap[x]? := fun x hx => by subst hW; repeat rw [Below.heap_setCell _ _ _ _ (by dsimp only; omega)]
  have hsz : W'.heap.size = W.heap.size := by subst hW; simp [World.setCell]
  refine ⟨?_, ?_, fun f s hs => FS.mono (by omega) (FS.kept (by omega) (fun k hk _ => hblk k (by omega)) hs)⟩
  · subst hW
    exact ⟨by simpa [World.setCell] using x0, by simp [go_sem, *], by simp [go_sem, *], by simp [go_sem, *], by simp [go_sem, *], by simp [go_sem, *], by simp [go_sem, *], by simp [go_sem, *], by simp [go_sem, *], by simp [go_sem, *], by simp [go_sem, *]⟩
  · subst hW
    repeat (first | (with_reducible refine turned_put ?_ e3 e2) | exact h1)

theorem keep10s {W : World} {x B : Nat} {h : FH} {s : Value} {v0 v1 v2 v3 v4 v5 v6 v7 v8 v9 : Value} (hx : C10 W x h s) (hne : B ≠ x) :
    let W' := ((((((((((W.setCell ⟨B, 0, none⟩ v0).setCell ⟨B, 1, none⟩ v1).setCell ⟨B, 2, none⟩ v2).setCell ⟨B, 3, none⟩ v3).setCell ⟨B, 4, none⟩ v4).setCell ⟨B, 5, none⟩ v5).setCell ⟨B, 6, none⟩ v6).setCell ⟨B, 7, none⟩ v7).setCell ⟨B, 8, none⟩ v8).setCell ⟨B, 9, none⟩ v9)
    W'.cell? ⟨x, 0, none⟩ = some (.int .i64 h.k) ∧ W'.cell? ⟨x, 1, none⟩ = some (.int .i64 h.ak) ∧ W'.cell? ⟨x, 2, none⟩ = some (.int .i64 h.am) ∧ W'.cell? ⟨x, 3, none⟩ = some (.int .i64 h.a) ∧ W'.cell? ⟨x, 4, none⟩ = some (.int .i64 h.b) ∧ W'.cell? ⟨x, 5, none⟩ = some (.int .i64 h.c) ∧ W'.cell? ⟨x, 6, none⟩ = some (.int .i64 h.d) ∧ W'.cell? ⟨x, 7, none⟩ = some (.int .i64 h.n) ∧ W'.cell? ⟨x, 8, none⟩ = some (.int .i64 h.v) ∧ W'.cell? ⟨x, 9, none⟩ = some (s) := by
  intro W'
  obtain ⟨g0, c0, c1, c2, c3, c4, c5, c6, c7, c8, c9⟩ := hx
  have far : ∀ o, W'.cell? ⟨x, o, none⟩ = W.cell? ⟨x, o, none⟩ := by
    intro o
    show World.cell? _ _ = _
    repeat rw [cell_far (fun e => hne e.symm)]
  exact ⟨(far _).trans c0, (far _).trans c1, (far _).trans c2, (far _).trans c3, (far _).trans c4, (far _).trans c5, (far _).trans c6, (far _).trans c7, (far _).trans c8, (far _).trans c9⟩

def KD : Nat → Int
  | 0 => 20
  | d + 1 => 2 * KD d + 4
theorem kd_pos (d : Nat) : 20 ≤ KD d := by
  induction d with
  | zero => exact Int.le_refl _
  | succ d ih => simp only [KD]; omega

/-- A formula is drawn, with new lists. -/
def FdT (r : Nat) (p K : Int) (w : World) (e : Ending) (w' : World) : Prop := ∃ (h : FH) (f : Fo) (s : Value), e = .returned (.agg #[.int .i64 h.k, .int .i64 h.ak, .int .i64 h.am, .int .i64 h.a, .int .i64 h.b, .int .i64 h.c, .int .i64 h.d, .int .i64 h.n, .int .i64 h.v, s]) ∧ FS w' w.heap.size f s ∧ f.len ≤ 2 ∧ (f.len = 0 → s = .slice none 0 0) ∧ Turned r p K w w'
def DrAt (d : Nat) : Prop := ∀ (r : Nat) (p : Int) (q : Bool) (w : World), Rd w r p → p + KD d ≤ 690000 → Calls Try.prog 99 #[.pointer (some ⟨r, 0, none⟩), .int .i64 d, .bool q] w (FdT r p (KD d) w)

set_option maxRecDepth 10000 in
set_option maxHeartbeats 2000000 in
theorem draw_0 : DrAt 0 := by
  intro r p q w h hp
  have hr := rd_lt h
  have hkd := kd_pos 0
  have H := Lib.hid h
  clear h
  go_enter Try.func99, Try.ntmps99
  go_wp2_with fail
  generalize hW : World.alloc _ _ = W
  have hd : D3 w r p 0 w.heap.size W := by
    have hb0 : Below w.heap.size w W := by subst hW; go_grown
    exact ⟨by subst hW; exact (by refine ⟨?_, ?_, ?_, ?_, ?_, ?_, ?_, ?_, ?_, ?_, ?_⟩ <;> first | (simp [go_sem]; done) | (simp; omega)), by intro o; subst hW; simp [go_sem], turned_below (turned_none H.out) hb0, hr, Nat.le_refl _, hr⟩
  have hR0 : Rd W r p := rd_on H.out (by subst hW; go_grown)
  clear hW
  refine (pick_t r p 12 W hR0 (by omega)).mono ?_
  rintro e w1 ⟨k, rfl, k0, k1, ht1⟩
  have HD1 := Lib.hid (d3_turn hd ht1 hR0 (by omega) (by omega))
  have hk12 : k ≤ 12 := by omega
  clear ht1 hR0 hd k1
  obtain ⟨q1, p2, p3, hR1⟩ := d3_rd HD1.out
  have HR1 := Lib.hid hR1
  obtain ⟨hz1, hrz, _⟩ := d3_size HD1.out
  clear hR1
  have hkk : KD 0 = 20 := rfl
  rw [hkk] at hp ⊢
  go_wp2_with fail
  refine (pick_t r q1 12 _ HR1.out (by omega)).mono ?_
  rintro e w3 ⟨x, rfl, _, _, ht3⟩
  have HD3 := Lib.hid (d3_turn HD1.out ht3 HR1.out p2 p3)
  clear ht3
  obtain ⟨q3, p4, p5, hR3⟩ := d3_rd HD3.out
  have HR3 := Lib.hid hR3
  obtain ⟨hz3, _, _⟩ := d3_size HD3.out
  clear hR3
  by_cases hx0 : x = 0
  · subst hx0
    go_wp2_with fail
    refine (pick_t r q3 2 _ HR3.out (by omega)).mono ?_
    rintro e w4 ⟨y, rfl, _, _, ht4⟩
    have HD4 := Lib.hid (d3_turn HD3.out ht4 HR3.out p4 p5)
    clear ht4
    obtain ⟨⟨zz0, zc0, zc1, zc2, zc3, zc4, zc5, zc6, zc7, zc8, zc9⟩, zf, _⟩ := id HD4.out
    have zff := zf.out
    go_upto_region 16 with fail
    (generalize hW9 : World.setCell _ _ _ = W9)
    obtain ⟨⟨z0, y0, y1, y2, y3, y4, y5, y6, y7, y8, y9⟩, ht9, hfs9⟩ := d3_put (g := ⟨y, 0, 0, 0, 0, 0, 0, 0, 0⟩) HD4.out hW9
    clear hW9
    go_wp2
    refine bodyPost_ret (v := .agg #[.int .i64 y, .int .i64 0, .int .i64 0, .int .i64 0, .int .i64 0, .int .i64 0, .int .i64 0, .int .i64 0, .int .i64 0, .slice none 0 0]) (by simp [results, Try.results99, go_sem, y0, y1, y2, y3, y4, y5, y6, y7, y8, y9]) rfl ⟨⟨y, 0, 0, 0, 0, 0, 0, 0, 0⟩, .nil, .slice none 0 0, rfl, hfs9 _ _ (.inl ⟨rfl, none, 0, rfl, Nat.le_refl _, Nat.zero_le _⟩), by simp [Fo.len], by first | exact fun _ => rfl | (intro h0; simp [Fo.len] at h0), turned_more ht9 (by omega)⟩
  · have e0 : (x == 0) = false := by simpa using hx0
    go_wp2_with fail
    refine (l2Some_t r q3 _ HR3.out (by omega)).mono ?_
    rintro e w4 ⟨ak, am, a, b, c, d', n, rfl, ht4⟩
    have HD4 := Lib.hid (d3_turn HD3.out ht4 HR3.out p4 p5)
    clear ht4
    go_wp2_with fail
    refine (l3Atom_t ak am a b c d' n _).mono ?_
    rintro e w5 ⟨rfl, hb5⟩
    have HD5 := Lib.hid (d3_below HD4.out hb5)
    clear hb5
    obtain ⟨⟨zz0, zc0, zc1, zc2, zc3, zc4, zc5, zc6, zc7, zc8, zc9⟩, zf, _⟩ := id HD5.out
    have zff := zf.out
    go_upto_region 16 with fail
    (generalize hW9 : World.setCell _ _ _ = W9)
    obtain ⟨⟨z0, y0, y1, y2, y3, y4, y5, y6, y7, y8, y9⟩, ht9, hfs9⟩ := d3_put (g := ⟨2, ak, am, a, b, c, d', n, 0⟩) HD5.out hW9
    clear hW9
    go_wp2
    refine bodyPost_ret (v := .agg #[.int .i64 2, .int .i64 ak, .int .i64 am, .int .i64 a, .int .i64 b, .int .i64 c, .int .i64 d', .int .i64 n, .int .i64 0, .slice none 0 0]) (by simp [results, Try.results99, go_sem, y0, y1, y2, y3, y4, y5, y6, y7, y8, y9]) rfl ⟨⟨2, ak, am, a, b, c, d', n, 0⟩, .nil, .slice none 0 0, rfl, hfs9 _ _ (.inl ⟨rfl, none, 0, rfl, Nat.le_refl _, Nat.zero_le _⟩), by simp [Fo.len], by first | exact fun _ => rfl | (intro h0; simp [Fo.len] at h0), turned_more ht9 (by omega)⟩

set_option maxRecDepth 10000 in
set_option maxHeartbeats 4000000 in
theorem draw_s (d : Nat) (hd4 : d ≤ 4) (HDR : DrAt d) : DrAt (d + 1) := by
  intro r p q w h hp
  have HDR := Lib.hid HDR
  have hkk : KD (d + 1) = 2 * KD d + 4 := rfl
  rw [hkk] at hp ⊢
  have hwr : IntKind.i64.wrap (d : Int) = (d : Int) := by
    have h5 : d = 0 ∨ d = 1 ∨ d = 2 ∨ d = 3 ∨ d = 4 := by omega
    rcases h5 with rfl | rfl | rfl | rfl | rfl <;> rfl
  have hr := rd_lt h
  have hkd := kd_pos d
  have H := Lib.hid h
  clear h
  go_enter Try.func99, Try.ntmps99
  go_wp2_with fail
  generalize hW : World.alloc _ _ = W
  have hd : D3 w r p 0 w.heap.size W := by
    have hb0 : Below w.heap.size w W := by subst hW; go_grown
    exact ⟨by subst hW; exact (by refine ⟨?_, ?_, ?_, ?_, ?_, ?_, ?_, ?_, ?_, ?_, ?_⟩ <;> first | (simp [go_sem]; done) | (simp; omega)), by intro o; subst hW; simp [go_sem], turned_below (turned_none H.out) hb0, hr, Nat.le_refl _, hr⟩
  have hR0 : Rd W r p := rd_on H.out (by subst hW; go_grown)
  clear hW
  refine (pick_t r p 12 W hR0 (by omega)).mono ?_
  rintro e w1 ⟨k, rfl, k0, k1, ht1⟩
  have HD1 := Lib.hid (d3_turn hd ht1 hR0 (by omega) (by omega))
  have hk12 : k ≤ 12 := by omega
  clear ht1 hR0 hd k1
  obtain ⟨q1, p2, p3, hR1⟩ := d3_rd HD1.out
  have HR1 := Lib.hid hR1
  obtain ⟨hz1, hrz, _⟩ := d3_size HD1.out
  clear hR1
  by_cases hk2 : k < 2
  · go_wp2_with fail
    refine (pick_t r q1 12 _ HR1.out (by omega)).mono ?_
    rintro e w3 ⟨x, rfl, _, _, ht3⟩
    have HD3 := Lib.hid (d3_turn HD1.out ht3 HR1.out p2 p3)
    clear ht3
    obtain ⟨q3, p4, p5, hR3⟩ := d3_rd HD3.out
    have HR3 := Lib.hid hR3
    obtain ⟨hz3, _, _⟩ := d3_size HD3.out
    clear hR3
    by_cases hx0 : x = 0
    · subst hx0
      go_wp2_with fail
      refine (pick_t r q3 2 _ HR3.out (by omega)).mono ?_
      rintro e w4 ⟨y, rfl, _, _, ht4⟩
      have HD4 := Lib.hid (d3_turn HD3.out ht4 HR3.out p4 p5)
      clear ht4
      obtain ⟨⟨zz0, zc0, zc1, zc2, zc3, zc4, zc5, zc6, zc7, zc8, zc9⟩, zf, _⟩ := id HD4.out
      have zff := zf.out
      go_upto_region 16 with fail
      (generalize hW9 : World.setCell _ _ _ = W9)
      obtain ⟨⟨z0, y0, y1, y2, y3, y4, y5, y6, y7, y8, y9⟩, ht9, hfs9⟩ := d3_put (g := ⟨y, 0, 0, 0, 0, 0, 0, 0, 0⟩) HD4.out hW9
      clear hW9
      go_wp2
      refine bodyPost_ret (v := .agg #[.int .i64 y, .int .i64 0, .int .i64 0, .int .i64 0, .int .i64 0, .int .i64 0, .int .i64 0, .int .i64 0, .int .i64 0, .slice none 0 0]) (by simp [results, Try.results99, go_sem, y0, y1, y2, y3, y4, y5, y6, y7, y8, y9]) rfl ⟨⟨y, 0, 0, 0, 0, 0, 0, 0, 0⟩, .nil, .slice none 0 0, rfl, hfs9 _ _ (.inl ⟨rfl, none, 0, rfl, Nat.le_refl _, Nat.zero_le _⟩), by simp [Fo.len], by first | exact fun _ => rfl | (intro h0; simp [Fo.len] at h0), turned_more ht9 (by omega)⟩
    · have e0 : (x == 0) = false := by simpa using hx0
      go_wp2_with fail
      refine (l2Some_t r q3 _ HR3.out (by omega)).mono ?_
      rintro e w4 ⟨ak, am, a, b, c, d', n, rfl, ht4⟩
      have HD4 := Lib.hid (d3_turn HD3.out ht4 HR3.out p4 p5)
      clear ht4
      go_wp2_with fail
      refine (l3Atom_t ak am a b c d' n _).mono ?_
      rintro e w5 ⟨rfl, hb5⟩
      have HD5 := Lib.hid (d3_below HD4.out hb5)
      clear hb5
      obtain ⟨⟨zz0, zc0, zc1, zc2, zc3, zc4, zc5, zc6, zc7, zc8, zc9⟩, zf, _⟩ := id HD5.out
      have zff := zf.out
      go_upto_region 16 with fail
      (generalize hW9 : World.setCell _ _ _ = W9)
      obtain ⟨⟨z0, y0, y1, y2, y3, y4, y5, y6, y7, y8, y9⟩, ht9, hfs9⟩ := d3_put (g := ⟨2, ak, am, a, b, c, d', n, 0⟩) HD5.out hW9
      clear hW9
      go_wp2
      refine bodyPost_ret (v := .agg #[.int .i64 2, .int .i64 ak, .int .i64 am, .int .i64 a, .int .i64 b, .int .i64 c, .int .i64 d', .int .i64 n, .int .i64 0, .slice none 0 0]) (by simp [results, Try.results99, go_sem, y0, y1, y2, y3, y4, y5, y6, y7, y8, y9]) rfl ⟨⟨2, ak, am, a, b, c, d', n, 0⟩, .nil, .slice none 0 0, rfl, hfs9 _ _ (.inl ⟨rfl, none, 0, rfl, Nat.le_refl _, Nat.zero_le _⟩), by simp [Fo.len], by first | exact fun _ => rfl | (intro h0; simp [Fo.len] at h0), turned_more ht9 (by omega)⟩
  by_cases hk5 : k < 5
  · go_wp2_with fail
    refine (HDR.out r q1 q _ HR1.out (by omega)).mono ?_
    rintro e w3 ⟨h3, f3, s3, rfl, hs3, _, _, ht3⟩
    have HD3 := Lib.hid (d3_turn HD1.out ht3 HR1.out p2 p3)
    have HS3 := Lib.hid (FS.mono (lo' := w.heap.size + 1) (by omega) hs3)
    obtain ⟨a3, n3, c3, rfl⟩ := hs3.slice
    clear ht3 hs3
    go_upto_region 8 with fail
    generalize hW4 : World.alloc _ _ = W4
    have hb4 : Below w3.heap.size w3 W4 := by subst hW4; go_grown
    have hxx : C10 W4 w3.heap.size h3 (.slice a3 n3 c3) := by subst hW4; exact (by refine ⟨?_, ?_, ?_, ?_, ?_, ?_, ?_, ?_, ?_, ?_, ?_⟩ <;> first | (simp [go_sem]; done) | (simp; omega))
    have HD4 := Lib.hid (d3_below HD3.out hb4)
    have HS4 := Lib.hid (FS.below hb4 (Nat.le_refl _) HS3.out)
    obtain ⟨hz3, _, _⟩ := d3_size HD3.out
    have hxx1 := hxx.1
    clear hW4 hb4
    obtain ⟨q4, p4, p5, hR4⟩ := d3_rd HD4.out
    have HR4 := Lib.hid hR4
    clear hR4
    refine wp_region_held_drew (S := (fun w' => w'.cell? ⟨w3.heap.size, 0, none⟩ = some (.int .i64 h3.k) ∧ w'.cell? ⟨w3.heap.size, 1, none⟩ = some (.int .i64 h3.ak) ∧ w'.cell? ⟨w3.heap.size, 2, none⟩ = some (.int .i64 h3.am) ∧ w'.cell? ⟨w3.heap.size, 3, none⟩ = some (.int .i64 h3.a) ∧ w'.cell? ⟨w3.heap.size, 4, none⟩ = some (.int .i64 h3.b) ∧ w'.cell? ⟨w3.heap.size, 5, none⟩ = some (.int .i64 h3.c) ∧ w'.cell? ⟨w3.heap.size, 6, none⟩ = some (.int .i64 h3.d) ∧ w'.cell? ⟨w3.heap.size, 7, none⟩ = some (.int .i64 h3.n) ∧ w'.cell? ⟨w3.heap.size, 8, none⟩ = some (.int .i64 h3.v) ∧ w'.cell? ⟨w3.heap.size, 9, none⟩ = some (.slice a3 n3 c3))) (by kernel_rfl) ?_ (fun hHeld => ?_)
    · try dsimp only
      first | (refine (c10_on hxx ?_).2; go_grown; done) | (refine keep10s (c10_on hxx ?_) (by omega); go_grown; done)
    refine wpAnyH_take (i := 0) (oi := { dst := some 37, op := Go.Op.load 29 (Go.Operand.tmp 8), type := 29, pos := "l3_formulas.go:324", after := #[], guard := none }) (v := ?_) rfl (by kernel_rfl) (by kernel_rfl) (by kernel_rfl) (fun _ _ _ h => h) (Or.inl ⟨by rfl, ?_⟩) (by assumption) ?_
    rotate_left
    · (intro w hSw; (try dsimp only at hSw); first | (go_simp; done) | (go_simp; with_reducible rfl))
    try simp only [Act.put, List.setIfInBounds_toArray, List.set_cons_zero, List.set_cons_succ]
    refine wpAnyH_take (i := 1) (oi := { dst := some 38, op := Go.Op.move (Go.Operand.tmp 0), type := 69, pos := "l3_formulas.go:324", after := #[], guard := none }) (v := ?_) rfl (by kernel_rfl) (by kernel_rfl) (by kernel_rfl) (fun _ _ _ h => h) (Or.inl ⟨by rfl, ?_⟩) (by assumption) ?_
    rotate_left
    · (intro w hSw; (try dsimp only at hSw); first | (go_simp; done) | (go_simp; with_reducible rfl))
    try simp only [Act.put, List.setIfInBounds_toArray, List.set_cons_zero, List.set_cons_succ]
    refine wpAnyH_take (i := 2) (oi := { dst := some 39, op := Go.Op.move (Go.Operand.tmp 1), type := 3, pos := "l3_formulas.go:324", after := #[], guard := none }) (v := ?_) rfl (by kernel_rfl) (by kernel_rfl) (by kernel_rfl) (fun _ _ _ h => h) (Or.inl ⟨by rfl, ?_⟩) (by assumption) ?_
    rotate_left
    · (intro w hSw; (try dsimp only at hSw); first | (go_simp; done) | (go_simp; with_reducible rfl))
    try simp only [Act.put, List.setIfInBounds_toArray, List.set_cons_zero, List.set_cons_succ]
    refine wpAnyH_take (i := 3) (oi := { dst := some 40, op := Go.Op.binOp Go.BinOp.sub 3 (Go.Operand.tmp 39) (Go.Operand.const (Go.Value.int Go.IntKind.i64 1)) 3, type := 3, pos := "l3_formulas.go:324", after := #[{ on := 2, ground := Go.Ground.data }], guard := none }) (v := ?_) rfl (by kernel_rfl) (by kernel_rfl) (by kernel_rfl) (fun _ _ _ h => h) (Or.inl ⟨by rfl, ?_⟩) (by assumption) ?_
    rotate_left
    · (intro w hSw; (try dsimp only at hSw); first | (go_simp; done) | (go_simp; with_reducible rfl))
    try simp only [Act.put, List.setIfInBounds_toArray, List.set_cons_zero, List.set_cons_succ]
    refine wpAnyH_take (i := 4) (oi := { dst := some 41, op := Go.Op.move (Go.Operand.tmp 2), type := 4, pos := "l3_formulas.go:324", after := #[], guard := none }) (v := ?_) rfl (by kernel_rfl) (by kernel_rfl) (by kernel_rfl) (fun _ _ _ h => h) (Or.inl ⟨by rfl, ?_⟩) (by assumption) ?_
    rotate_left
    · (intro w hSw; (try dsimp only at hSw); first | (go_simp; done) | (go_simp; with_reducible rfl))
    try simp only [Act.put, List.setIfInBounds_toArray, List.set_cons_zero, List.set_cons_succ]
    refine wpAnyH_ready (rs := [5]) (by kernel_rfl) (by simp) ?_
    refine AllReadyH.cons (o := { dst := some 42, op := Go.Op.call { callee := Go.Callee.value (Go.Operand.func 99), args := #[Go.Operand.tmp 38, Go.Operand.tmp 40, Go.Operand.tmp 41], argTypes := #[69, 3, 4] }, type := 29, pos := "l3_formulas.go:324", after := #[{ on := 1, ground := Go.Ground.data }, { on := 3, ground := Go.Ground.data }, { on := 4, ground := Go.Ground.data }], guard := none }) rfl (fun K hK => ?_) AllReadyH.nil
    go_simp
    (go_at_call 99; refine (HDR.out r q4 q _ (rd_on HR4.out (by go_grown)) (by omega)).mono ?_; rintro e w5 ⟨h5, f5, s5, rfl, hs5, _, _, ht5⟩; have ht5' : Turned r q4 (KD d) W4 w5 := below_turned (by go_grown) ht5; have HD5 := Lib.hid (d3_turn HD4.out ht5' HR4.out p4 p5); have HS5 := Lib.hid (FS.mono (show w.heap.size + 1 ≤ W4.heap.size by omega) hs5); have HSA5 := Lib.hid (fs_turned HS4.out ht5' (by omega)); obtain ⟨a5, n5, c5, rfl⟩ := hs5.slice; have hxx := c10_only hxx ht5'.1 (by omega); clear ht5 ht5' hs5)
    (try go_wp2_with fail)
    refine hK.out _ _ ?_ (fun hHeld => ?_)
    · try dsimp only
      first | (refine (c10_on hxx ?_).2; go_grown; done) | (refine keep10s (c10_on hxx ?_) (by omega); go_grown; done)
    clear hK K
    try simp only [Act.put, List.setIfInBounds_toArray, List.set_cons_zero, List.set_cons_succ]
    refine wpAnyH_ready (rs := [6]) (by kernel_rfl) (by simp) ?_
    refine AllReadyH.cons (o := { dst := some 43, op := Go.Op.call { callee := Go.Callee.value (Go.Operand.func 98), args := #[Go.Operand.const (Go.Value.int Go.IntKind.i64 4), Go.Operand.tmp 37, Go.Operand.tmp 42], argTypes := #[3, 29, 29] }, type := 29, pos := "l3_formulas.go:324", after := #[{ on := 0, ground := Go.Ground.data }, { on := 5, ground := Go.Ground.data }, { on := 5, ground := Go.Ground.chain }], guard := none }) rfl (fun K hK => ?_) AllReadyH.nil
    go_simp
    (go_at_call 98; refine (l3Two_t (w.heap.size + 1) 4 h3 h5 f3 f5 _ _ _ (show w.heap.size + 1 ≤ w5.heap.size from (d3_size HD5.out).1) (FS.below (w := w5) (by go_grown) (Nat.le_refl _) HSA5.out) (FS.below (w := w5) (by go_grown) (Nat.le_refl _) HS5.out)).mono ?_; rintro e w6 ⟨s6, rfl, hs6, hb6⟩; have hb6' := below_on (w := w5) (by go_grown) hb6; have HD6 := Lib.hid (d3_below HD5.out hb6'); have HS6 := Lib.hid hs6; obtain ⟨a6, n6, c6, rfl⟩ := hs6.slice; have hxx := c10_on hxx hb6'; obtain ⟨⟨zz0, zc0, zc1, zc2, zc3, zc4, zc5, zc6, zc7, zc8, zc9⟩, zf, _⟩ := id HD6.out; have zff := zf.out; clear hs6 hb6 zf)
    (try go_wp2_with fail)
    refine hK.out _ _ ?_ (fun hHeld => ?_)
    · try dsimp only
      first | (refine (c10_on hxx ?_).2; go_grown; done) | (refine keep10s (c10_on hxx ?_) (by omega); go_grown; done)
    clear hK K
    try simp only [Act.put, List.setIfInBounds_toArray, List.set_cons_zero, List.set_cons_succ]
    refine wpAnyH_ready (rs := [7]) (by kernel_rfl) (by simp) ?_
    refine AllReadyH.cons (o := { dst := none, op := Go.Op.store 29 (Go.Operand.tmp 6) (Go.Operand.tmp 43), type := 0, pos := "l3_formulas.go:324", after := #[{ on := 6, ground := Go.Ground.data }, { on := 6, ground := Go.Ground.chain }, { on := 0, ground := Go.Ground.phase }, { on := 1, ground := Go.Ground.phase }, { on := 2, ground := Go.Ground.phase }, { on := 3, ground := Go.Ground.phase }, { on := 4, ground := Go.Ground.phase }, { on := 5, ground := Go.Ground.phase }, { on := 6, ground := Go.Ground.phase }], guard := none }) rfl (fun K hK => ?_) AllReadyH.nil
    go_simp
    refine hK.out _ _ ?_ (fun hHeld => ?_)
    · try dsimp only
      first | (refine (c10_on hxx ?_).2; go_grown; done) | (refine keep10s (c10_on hxx ?_) (by omega); go_grown; done)
    clear hK K
    try simp only [Act.put, List.setIfInBounds_toArray, List.set_cons_zero, List.set_cons_succ]
    refine wpAnyH_done (by kernel_rfl) ?_ _
    (generalize hW9 : World.setCell _ _ _ = W9)
    obtain ⟨g9, hc9, ht9, hfs9⟩ : ∃ g : FH, C10 W9 w.heap.size g (.slice a6 n6 c6) ∧ Turned r p (0 + 1 + KD d + KD d) w W9 ∧ (∀ (f : Fo) (s : Value), FS w6 (w.heap.size + 1) f s → FS W9 w.heap.size f s) := by
      exact ⟨_, d3_put (g := ⟨_, _, _, _, _, _, _, _, _⟩) HD6.out hW9⟩
    obtain ⟨z0, y0, y1, y2, y3, y4, y5, y6, y7, y8, y9⟩ := hc9
    clear hW9 hxx
    go_wp2
    refine bodyPost_ret (v := .agg #[.int .i64 g9.k, .int .i64 g9.ak, .int .i64 g9.am, .int .i64 g9.a, .int .i64 g9.b, .int .i64 g9.c, .int .i64 g9.d, .int .i64 g9.n, .int .i64 g9.v, .slice a6 n6 c6]) (by simp [results, Try.results99, go_sem, y0, y1, y2, y3, y4, y5, y6, y7, y8, y9]) rfl ⟨g9, _, .slice a6 n6 c6, rfl, hfs9 _ _ HS6.out, by simp [Fo.len], by first | exact fun _ => rfl | (intro h0; simp [Fo.len] at h0), turned_more ht9 (by omega)⟩

  by_cases hk8 : k < 8
  · go_wp2_with fail
    refine (HDR.out r q1 q _ HR1.out (by omega)).mono ?_
    rintro e w3 ⟨h3, f3, s3, rfl, hs3, _, _, ht3⟩
    have HD3 := Lib.hid (d3_turn HD1.out ht3 HR1.out p2 p3)
    have HS3 := Lib.hid (FS.mono (lo' := w.heap.size + 1) (by omega) hs3)
    obtain ⟨a3, n3, c3, rfl⟩ := hs3.slice
    clear ht3 hs3
    go_upto_region 11 with fail
    generalize hW4 : World.alloc _ _ = W4
    have hb4 : Below w3.heap.size w3 W4 := by subst hW4; go_grown
    have hxx : C10 W4 w3.heap.size h3 (.slice a3 n3 c3) := by subst hW4; exact (by refine ⟨?_, ?_, ?_, ?_, ?_, ?_, ?_, ?_, ?_, ?_, ?_⟩ <;> first | (simp [go_sem]; done) | (simp; omega))
    have HD4 := Lib.hid (d3_below HD3.out hb4)
    have HS4 := Lib.hid (FS.below hb4 (Nat.le_refl _) HS3.out)
    obtain ⟨hz3, _, _⟩ := d3_size HD3.out
    have hxx1 := hxx.1
    clear hW4 hb4
    obtain ⟨q4, p4, p5, hR4⟩ := d3_rd HD4.out
    have HR4 := Lib.hid hR4
    clear hR4
    refine wp_region_held_drew (S := (fun w' => w'.cell? ⟨w3.heap.size, 0, none⟩ = some (.int .i64 h3.k) ∧ w'.cell? ⟨w3.heap.size, 1, none⟩ = some (.int .i64 h3.ak) ∧ w'.cell? ⟨w3.heap.size, 2, none⟩ = some (.int .i64 h3.am) ∧ w'.cell? ⟨w3.heap.size, 3, none⟩ = some (.int .i64 h3.a) ∧ w'.cell? ⟨w3.heap.size, 4, none⟩ = some (.int .i64 h3.b) ∧ w'.cell? ⟨w3.heap.size, 5, none⟩ = some (.int .i64 h3.c) ∧ w'.cell? ⟨w3.heap.size, 6, none⟩ = some (.int .i64 h3.d) ∧ w'.cell? ⟨w3.heap.size, 7, none⟩ = some (.int .i64 h3.n) ∧ w'.cell? ⟨w3.heap.size, 8, none⟩ = some (.int .i64 h3.v) ∧ w'.cell? ⟨w3.heap.size, 9, none⟩ = some (.slice a3 n3 c3))) (by kernel_rfl) ?_ (fun hHeld => ?_)
    · try dsimp only
      first | (refine (c10_on hxx ?_).2; go_grown; done) | (refine keep10s (c10_on hxx ?_) (by omega); go_grown; done)
    refine wpAnyH_take (i := 0) (oi := { dst := some 52, op := Go.Op.load 29 (Go.Operand.tmp 9), type := 29, pos := "l3_formulas.go:327", after := #[], guard := none }) (v := ?_) rfl (by kernel_rfl) (by kernel_rfl) (by kernel_rfl) (fun _ _ _ h => h) (Or.inl ⟨by rfl, ?_⟩) (by assumption) ?_
    rotate_left
    · (intro w hSw; (try dsimp only at hSw); first | (go_simp; done) | (go_simp; with_reducible rfl))
    try simp only [Act.put, List.setIfInBounds_toArray, List.set_cons_zero, List.set_cons_succ]
    refine wpAnyH_take (i := 1) (oi := { dst := some 53, op := Go.Op.move (Go.Operand.tmp 0), type := 69, pos := "l3_formulas.go:327", after := #[], guard := none }) (v := ?_) rfl (by kernel_rfl) (by kernel_rfl) (by kernel_rfl) (fun _ _ _ h => h) (Or.inl ⟨by rfl, ?_⟩) (by assumption) ?_
    rotate_left
    · (intro w hSw; (try dsimp only at hSw); first | (go_simp; done) | (go_simp; with_reducible rfl))
    try simp only [Act.put, List.setIfInBounds_toArray, List.set_cons_zero, List.set_cons_succ]
    refine wpAnyH_take (i := 2) (oi := { dst := some 54, op := Go.Op.move (Go.Operand.tmp 1), type := 3, pos := "l3_formulas.go:327", after := #[], guard := none }) (v := ?_) rfl (by kernel_rfl) (by kernel_rfl) (by kernel_rfl) (fun _ _ _ h => h) (Or.inl ⟨by rfl, ?_⟩) (by assumption) ?_
    rotate_left
    · (intro w hSw; (try dsimp only at hSw); first | (go_simp; done) | (go_simp; with_reducible rfl))
    try simp only [Act.put, List.setIfInBounds_toArray, List.set_cons_zero, List.set_cons_succ]
    refine wpAnyH_take (i := 3) (oi := { dst := some 55, op := Go.Op.binOp Go.BinOp.sub 3 (Go.Operand.tmp 54) (Go.Operand.const (Go.Value.int Go.IntKind.i64 1)) 3, type := 3, pos := "l3_formulas.go:327", after := #[{ on := 2, ground := Go.Ground.data }], guard := none }) (v := ?_) rfl (by kernel_rfl) (by kernel_rfl) (by kernel_rfl) (fun _ _ _ h => h) (Or.inl ⟨by rfl, ?_⟩) (by assumption) ?_
    rotate_left
    · (intro w hSw; (try dsimp only at hSw); first | (go_simp; done) | (go_simp; with_reducible rfl))
    try simp only [Act.put, List.setIfInBounds_toArray, List.set_cons_zero, List.set_cons_succ]
    refine wpAnyH_take (i := 4) (oi := { dst := some 56, op := Go.Op.move (Go.Operand.tmp 2), type := 4, pos := "l3_formulas.go:327", after := #[], guard := none }) (v := ?_) rfl (by kernel_rfl) (by kernel_rfl) (by kernel_rfl) (fun _ _ _ h => h) (Or.inl ⟨by rfl, ?_⟩) (by assumption) ?_
    rotate_left
    · (intro w hSw; (try dsimp only at hSw); first | (go_simp; done) | (go_simp; with_reducible rfl))
    try simp only [Act.put, List.setIfInBounds_toArray, List.set_cons_zero, List.set_cons_succ]
    refine wpAnyH_ready (rs := [5]) (by kernel_rfl) (by simp) ?_
    refine AllReadyH.cons (o := { dst := some 57, op := Go.Op.call { callee := Go.Callee.value (Go.Operand.func 99), args := #[Go.Operand.tmp 53, Go.Operand.tmp 55, Go.Operand.tmp 56], argTypes := #[69, 3, 4] }, type := 29, pos := "l3_formulas.go:327", after := #[{ on := 1, ground := Go.Ground.data }, { on := 3, ground := Go.Ground.data }, { on := 4, ground := Go.Ground.data }], guard := none }) rfl (fun K hK => ?_) AllReadyH.nil
    go_simp
    (go_at_call 99; refine (HDR.out r q4 q _ (rd_on HR4.out (by go_grown)) (by omega)).mono ?_; rintro e w5 ⟨h5, f5, s5, rfl, hs5, _, _, ht5⟩; have ht5' : Turned r q4 (KD d) W4 w5 := below_turned (by go_grown) ht5; have HD5 := Lib.hid (d3_turn HD4.out ht5' HR4.out p4 p5); have HS5 := Lib.hid (FS.mono (show w.heap.size + 1 ≤ W4.heap.size by omega) hs5); have HSA5 := Lib.hid (fs_turned HS4.out ht5' (by omega)); obtain ⟨a5, n5, c5, rfl⟩ := hs5.slice; have hxx := c10_only hxx ht5'.1 (by omega); clear ht5 ht5' hs5)
    (try go_wp2_with fail)
    refine hK.out _ _ ?_ (fun hHeld => ?_)
    · try dsimp only
      first | (refine (c10_on hxx ?_).2; go_grown; done) | (refine keep10s (c10_on hxx ?_) (by omega); go_grown; done)
    clear hK K
    try simp only [Act.put, List.setIfInBounds_toArray, List.set_cons_zero, List.set_cons_succ]
    refine wpAnyH_ready (rs := [6]) (by kernel_rfl) (by simp) ?_
    refine AllReadyH.cons (o := { dst := some 58, op := Go.Op.call { callee := Go.Callee.value (Go.Operand.func 98), args := #[Go.Operand.const (Go.Value.int Go.IntKind.i64 5), Go.Operand.tmp 52, Go.Operand.tmp 57], argTypes := #[3, 29, 29] }, type := 29, pos := "l3_formulas.go:327", after := #[{ on := 0, ground := Go.Ground.data }, { on := 5, ground := Go.Ground.data }, { on := 5, ground := Go.Ground.chain }], guard := none }) rfl (fun K hK => ?_) AllReadyH.nil
    go_simp
    (go_at_call 98; refine (l3Two_t (w.heap.size + 1) 5 h3 h5 f3 f5 _ _ _ (show w.heap.size + 1 ≤ w5.heap.size from (d3_size HD5.out).1) (FS.below (w := w5) (by go_grown) (Nat.le_refl _) HSA5.out) (FS.below (w := w5) (by go_grown) (Nat.le_refl _) HS5.out)).mono ?_; rintro e w6 ⟨s6, rfl, hs6, hb6⟩; have hb6' := below_on (w := w5) (by go_grown) hb6; have HD6 := Lib.hid (d3_below HD5.out hb6'); have HS6 := Lib.hid hs6; obtain ⟨a6, n6, c6, rfl⟩ := hs6.slice; have hxx := c10_on hxx hb6'; obtain ⟨⟨zz0, zc0, zc1, zc2, zc3, zc4, zc5, zc6, zc7, zc8, zc9⟩, zf, _⟩ := id HD6.out; have zff := zf.out; clear hs6 hb6 zf)
    (try go_wp2_with fail)
    refine hK.out _ _ ?_ (fun hHeld => ?_)
    · try dsimp only
      first | (refine (c10_on hxx ?_).2; go_grown; done) | (refine keep10s (c10_on hxx ?_) (by omega); go_grown; done)
    clear hK K
    try simp only [Act.put, List.setIfInBounds_toArray, List.set_cons_zero, List.set_cons_succ]
    refine wpAnyH_ready (rs := [7]) (by kernel_rfl) (by simp) ?_
    refine AllReadyH.cons (o := { dst := none, op := Go.Op.store 29 (Go.Operand.tmp 6) (Go.Operand.tmp 58), type := 0, pos := "l3_formulas.go:327", after := #[{ on := 6, ground := Go.Ground.data }, { on := 6, ground := Go.Ground.chain }, { on := 0, ground := Go.Ground.phase }, { on := 1, ground := Go.Ground.phase }, { on := 2, ground := Go.Ground.phase }, { on := 3, ground := Go.Ground.phase }, { on := 4, ground := Go.Ground.phase }, { on := 5, ground := Go.Ground.phase }, { on := 6, ground := Go.Ground.phase }], guard := none }) rfl (fun K hK => ?_) AllReadyH.nil
    go_simp
    refine hK.out _ _ ?_ (fun hHeld => ?_)
    · try dsimp only
      first | (refine (c10_on hxx ?_).2; go_grown; done) | (refine keep10s (c10_on hxx ?_) (by omega); go_grown; done)
    clear hK K
    try simp only [Act.put, List.setIfInBounds_toArray, List.set_cons_zero, List.set_cons_succ]
    refine wpAnyH_done (by kernel_rfl) ?_ _
    (generalize hW9 : World.setCell _ _ _ = W9)
    obtain ⟨g9, hc9, ht9, hfs9⟩ : ∃ g : FH, C10 W9 w.heap.size g (.slice a6 n6 c6) ∧ Turned r p (0 + 1 + KD d + KD d) w W9 ∧ (∀ (f : Fo) (s : Value), FS w6 (w.heap.size + 1) f s → FS W9 w.heap.size f s) := by
      exact ⟨_, d3_put (g := ⟨_, _, _, _, _, _, _, _, _⟩) HD6.out hW9⟩
    obtain ⟨z0, y0, y1, y2, y3, y4, y5, y6, y7, y8, y9⟩ := hc9
    clear hW9 hxx
    go_wp2
    refine bodyPost_ret (v := .agg #[.int .i64 g9.k, .int .i64 g9.ak, .int .i64 g9.am, .int .i64 g9.a, .int .i64 g9.b, .int .i64 g9.c, .int .i64 g9.d, .int .i64 g9.n, .int .i64 g9.v, .slice a6 n6 c6]) (by simp [results, Try.results99, go_sem, y0, y1, y2, y3, y4, y5, y6, y7, y8, y9]) rfl ⟨g9, _, .slice a6 n6 c6, rfl, hfs9 _ _ HS6.out, by simp [Fo.len], by first | exact fun _ => rfl | (intro h0; simp [Fo.len] at h0), turned_more ht9 (by omega)⟩
  by_cases hk10 : k < 10
  · go_wp2_with fail
    refine (HDR.out r q1 q _ HR1.out (by omega)).mono ?_
    rintro e w3 ⟨h3, f3, s3, rfl, hs3, _, _, ht3⟩
    have HD3 := Lib.hid (d3_turn HD1.out ht3 HR1.out p2 p3)
    have HS3 := Lib.hid (FS.mono (lo' := w.heap.size + 1) (by omega) hs3)
    obtain ⟨a3, n3, c3, rfl⟩ := hs3.slice
    clear ht3 hs3
    go_wp2_with fail
    refine (l3One_t (w.heap.size + 1) 3 0 h3 f3 _ _ (show w.heap.size + 1 ≤ w3.heap.size from (d3_size HD3.out).1) HS3.out).mono ?_
    rintro e w5 ⟨s5, rfl, hs5, hb5⟩
    have HD5 := Lib.hid (d3_below HD3.out hb5)
    have HS5 := Lib.hid hs5
    obtain ⟨a5, n5, c5, rfl⟩ := hs5.slice
    obtain ⟨⟨zz0, zc0, zc1, zc2, zc3, zc4, zc5, zc6, zc7, zc8, zc9⟩, zf, _⟩ := id HD5.out
    have zff := zf.out
    clear hs5 hb5 zf
    go_upto_region 16 with fail
    (generalize hW9 : World.setCell _ _ _ = W9)
    obtain ⟨⟨z0, y0, y1, y2, y3, y4, y5, y6, y7, y8, y9⟩, ht9, hfs9⟩ := d3_put (g := ⟨3, 0, 0, 0, 0, 0, 0, 0, 0⟩) HD5.out hW9
    clear hW9
    go_wp2
    refine bodyPost_ret (v := .agg #[.int .i64 3, .int .i64 0, .int .i64 0, .int .i64 0, .int .i64 0, .int .i64 0, .int .i64 0, .int .i64 0, .int .i64 0, .slice a5 n5 c5]) (by simp [results, Try.results99, go_sem, y0, y1, y2, y3, y4, y5, y6, y7, y8, y9]) rfl ⟨⟨3, 0, 0, 0, 0, 0, 0, 0, 0⟩, (.cons h3 f3 .nil), .slice a5 n5 c5, rfl, hfs9 _ _ HS5.out, by simp [Fo.len], by first | exact fun _ => rfl | (intro h0; simp [Fo.len] at h0), turned_more ht9 (by omega)⟩
  cases q with
  | false =>
    go_wp2_with fail
    refine (HDR.out r q1 false _ HR1.out (by omega)).mono ?_
    rintro e w3 ⟨h3, f3, s3, rfl, hs3, _, _, ht3⟩
    have HD3 := Lib.hid (d3_turn HD1.out ht3 HR1.out p2 p3)
    have HS3 := Lib.hid (FS.mono (lo' := w.heap.size + 1) (by omega) hs3)
    obtain ⟨a3, n3, c3, rfl⟩ := hs3.slice
    clear ht3 hs3
    go_wp2_with fail
    refine (l3One_t (w.heap.size + 1) 3 0 h3 f3 _ _ (show w.heap.size + 1 ≤ w3.heap.size from (d3_size HD3.out).1) HS3.out).mono ?_
    rintro e w5 ⟨s5, rfl, hs5, hb5⟩
    have HD5 := Lib.hid (d3_below HD3.out hb5)
    have HS5 := Lib.hid hs5
    obtain ⟨a5, n5, c5, rfl⟩ := hs5.slice
    obtain ⟨⟨zz0, zc0, zc1, zc2, zc3, zc4, zc5, zc6, zc7, zc8, zc9⟩, zf, _⟩ := id HD5.out
    have zff := zf.out
    clear hs5 hb5 zf
    go_upto_region 16 with fail
    (generalize hW9 : World.setCell _ _ _ = W9)
    obtain ⟨⟨z0, y0, y1, y2, y3, y4, y5, y6, y7, y8, y9⟩, ht9, hfs9⟩ := d3_put (g := ⟨3, 0, 0, 0, 0, 0, 0, 0, 0⟩) HD5.out hW9
    clear hW9
    go_wp2
    refine bodyPost_ret (v := .agg #[.int .i64 3, .int .i64 0, .int .i64 0, .int .i64 0, .int .i64 0, .int .i64 0, .int .i64 0, .int .i64 0, .int .i64 0, .slice a5 n5 c5]) (by simp [results, Try.results99, go_sem, y0, y1, y2, y3, y4, y5, y6, y7, y8, y9]) rfl ⟨⟨3, 0, 0, 0, 0, 0, 0, 0, 0⟩, (.cons h3 f3 .nil), .slice a5 n5 c5, rfl, hfs9 _ _ HS5.out, by simp [Fo.len], by first | exact fun _ => rfl | (intro h0; simp [Fo.len] at h0), turned_more ht9 (by omega)⟩
  | true =>
    go_wp2_with fail
    all_goals try (exfalso; omega; done)
    refine (pick_t r q1 2 _ HR1.out (by omega)).mono ?_
    rintro e w3 ⟨y, rfl, y0, y1, ht3⟩
    have HD3 := Lib.hid (d3_turn HD1.out ht3 HR1.out p2 p3)
    have hy2 : y ≤ 2 := by omega
    clear ht3 y1
    obtain ⟨q3, p4, p5, hR3⟩ := d3_rd HD3.out
    have HR3 := Lib.hid hR3
    clear hR3
    go_wp2_with fail
    refine (pick_t r q3 3 _ HR3.out (by omega)).mono ?_
    rintro e w4 ⟨v, rfl, _, _, ht4⟩
    have HD4 := Lib.hid (d3_turn HD3.out ht4 HR3.out p4 p5)
    clear ht4
    obtain ⟨q4, p6, p7, hR4⟩ := d3_rd HD4.out
    have HR4 := Lib.hid hR4
    obtain ⟨hz4, _, _⟩ := d3_size HD4.out
    clear hR4
    go_wp2_with fail
    refine (HDR.out r q4 true _ HR4.out (by omega)).mono ?_
    rintro e w6 ⟨h6, f6, s6, rfl, hs6, _, _, ht6⟩
    have HD6 := Lib.hid (d3_turn HD4.out ht6 HR4.out p6 p7)
    have HS6 := Lib.hid (FS.mono (lo' := w.heap.size + 1) (by omega) hs6)
    obtain ⟨a6, n6, c6, rfl⟩ := hs6.slice
    clear ht6 hs6
    go_wp2_with fail
    refine (l3One_t (w.heap.size + 1) _ v h6 f6 _ _ (show w.heap.size + 1 ≤ w6.heap.size from (d3_size HD6.out).1) HS6.out).mono ?_
    rintro e w7 ⟨s7, rfl, hs7, hb7⟩
    have HD7 := Lib.hid (d3_below HD6.out hb7)
    have HS7 := Lib.hid hs7
    obtain ⟨a7, n7, c7, rfl⟩ := hs7.slice
    obtain ⟨⟨zz0, zc0, zc1, zc2, zc3, zc4, zc5, zc6, zc7, zc8, zc9⟩, zf, _⟩ := id HD7.out
    have zff := zf.out
    clear hs7 hb7 zf
    go_upto_region 16 with fail
    (generalize hW9 : World.setCell _ _ _ = W9)
    obtain ⟨⟨z0, y0, y1, y2, y3, y4, y5, y6, y7, y8, y9⟩, ht9, hfs9⟩ := d3_put (g := ⟨6 + y, 0, 0, 0, 0, 0, 0, 0, v⟩) HD7.out hW9
    clear hW9
    go_wp2
    refine bodyPost_ret (v := .agg #[.int .i64 (6 + y), .int .i64 0, .int .i64 0, .int .i64 0, .int .i64 0, .int .i64 0, .int .i64 0, .int .i64 0, .int .i64 v, .slice a7 n7 c7]) (by simp [results, Try.results99, go_sem, y0, y1, y2, y3, y4, y5, y6, y7, y8, y9]) rfl ⟨⟨6 + y, 0, 0, 0, 0, 0, 0, 0, v⟩, (.cons h6 f6 .nil), .slice a7 n7 c7, rfl, hfs9 _ _ HS7.out, by simp [Fo.len], by first | exact fun _ => rfl | (intro h0; simp [Fo.len] at h0), turned_more ht9 (by omega)⟩


theorem draw_any : ∀ (d : Nat), d ≤ 5 → DrAt d := by
  intro d
  induction d with
  | zero => exact fun _ => draw_0
  | succ d ih => exact fun h => draw_s d (by omega) (ih (by omega))

end Go.Proofs.Ythhbmnfmhomggaa
