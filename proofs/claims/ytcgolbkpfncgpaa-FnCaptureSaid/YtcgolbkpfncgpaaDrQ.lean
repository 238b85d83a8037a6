import Derived.Test.YtcgolbkpfncgpaaDrF
import Derived.Test.YtcgolbkpfncgpaaFsp
import Derived.Test.YtcgolbkpfncgpaaBaseA
import Derived.Test.YtcgolbkpfncgpaaFm
import Derived.Test.YtcgolbkpfncgpaaFormH
import Derived.Test.YtcgolbkpfncgpaaFormR
import Derived.Laws.AppendOwnNone

/- What the model draws as a formula: l3Atom, l3Two, l3One. -/
namespace Go.Proofs.Ytcgolbkpfncgpaa
open Go.RowKit

theorem c10_only {w w' : World} {r x : Nat} {h : FH} {s : Value} (hx : C10 w x h s) (hg : w.grownBy w' (some r)) (hne : x ≠ r) : C10 w' x h s := gp_cells hg hx hne

/-- A formula is drawn: its list lies in blocks from lo on. -/
def FmT (r : Nat) (p K : Int) (lo : Nat) (w : World) (e : Ending) (w' : World) : Prop := ∃ (h : FH) (f : Fo) (s : Value), e = .returned (.agg #[.int .i64 h.k, .int .i64 h.ak, .int .i64 h.am, .int .i64 h.a, .int .i64 h.b, .int .i64 h.c, .int .i64 h.d, .int .i64 h.n, .int .i64 h.v, s]) ∧ FS w' lo f s ∧ f.size ≤ 1400 ∧ Turned r p K w w'

theorem fs_turned {w w' : World} {r lo : Nat} {p K : Int} {f : Fo} {s : Value} (h : FS w lo f s) (ht : Turned r p K w w') (hr : r < lo) : FS w' lo f s :=
  FS.kept ht.1.size (fun k hk hlt => ht.1.block k hlt (by intro e; injection e with e; omega)) h

def FmB (lo : Nat) (w : World) (e : Ending) (w' : World) : Prop := ∃ (h : FH) (f : Fo) (s : Value), e = .returned (.agg #[.int .i64 h.k, .int .i64 h.ak, .int .i64 h.am, .int .i64 h.a, .int .i64 h.b, .int .i64 h.c, .int .i64 h.d, .int .i64 h.n, .int .i64 h.v, s]) ∧ FS w' lo f s ∧ Below w.heap.size w w'

set_option maxHeartbeats 1000000 in
theorem l3Atom_t (k m a b c d n : Int) (w : World) : Calls Try.prog 138 #[.agg #[.int .i64 k, .int .i64 m, .int .i64 a, .int .i64 b, .int .i64 c, .int .i64 d, .int .i64 n]] w (fun e w' => e = .returned (.agg #[.int .i64 2, .int .i64 k, .int .i64 m, .int .i64 a, .int .i64 b, .int .i64 c, .int .i64 d, .int .i64 n, .int .i64 0, .slice none 0 0]) ∧ Below w.heap.size w w') := by
  go_enter Try.func138, Try.ntmps138
  go_wp2
  refine bodyPost_ret (v := .agg #[.int .i64 2, .int .i64 k, .int .i64 m, .int .i64 a, .int .i64 b, .int .i64 c, .int .i64 d, .int .i64 n, .int .i64 0, .slice none 0 0]) (by simp [results, Try.results138, go_sem]) rfl ⟨rfl, ?_⟩
  go_grown

set_option maxHeartbeats 1000000 in
theorem l3One_t (lo : Nat) (k v : Int) (h : FH) (f : Fo) (s : Value) (w : World) (hlo : lo ≤ w.heap.size) (hs : FS w lo f s) : Calls Try.prog 163 #[.int .i64 k, .int .i64 v, .agg #[.int .i64 h.k, .int .i64 h.ak, .int .i64 h.am, .int .i64 h.a, .int .i64 h.b, .int .i64 h.c, .int .i64 h.d, .int .i64 h.n, .int .i64 h.v, s]] w (fun e w' => ∃ s', e = .returned (.agg #[.int .i64 k, .int .i64 0, .int .i64 0, .int .i64 0, .int .i64 0, .int .i64 0, .int .i64 0, .int .i64 0, .int .i64 v, s']) ∧ FS w' lo (.cons h f .nil) s' ∧ Below w.heap.size w w') := by
  have HS := Lib.hid hs
  obtain ⟨sa, sn, sc, rfl⟩ := hs.slice
  clear hs
  go_enter Try.func163, Try.ntmps163
  go_wp2
  refine bodyPost_ret (v := .agg #[.int .i64 k, .int .i64 0, .int .i64 0, .int .i64 0, .int .i64 0, .int .i64 0, .int .i64 0, .int .i64 0, .int .i64 v, .slice (some ⟨w.heap.size + 1 + 1, 0, none⟩) 1 1]) (by simp [results, Try.results163, go_sem]) rfl ?_
  generalize hW : World.alloc _ _ = W
  have hb : Below w.heap.size w W := by subst hW; go_grown
  have hsz : w.heap.size + 1 + 1 < W.heap.size := by subst hW; simp
  refine ⟨_, rfl, .inr ⟨Nat.one_pos, w.heap.size + 1 + 1, 0, 1, rfl, Nat.le_refl _, by decide, by omega, hsz, ⟨⟨.slice sa sn sc, ?_, FS.below hb (Nat.le_refl _) HS.out⟩, trivial⟩⟩, hb⟩
  subst hW
  refine ⟨?_, ?_, ?_, ?_, ?_, ?_, ?_, ?_, ?_, ?_⟩ <;> simp [go_sem]

set_option maxHeartbeats 1000000 in
theorem l3Two_t (lo : Nat) (k : Int) (h g : FH) (f u : Fo) (s t : Value) (w : World) (hlo : lo ≤ w.heap.size) (hs : FS w lo f s) (ht : FS w lo u t) : Calls Try.prog 153 #[.int .i64 k, .agg #[.int .i64 h.k, .int .i64 h.ak, .int .i64 h.am, .int .i64 h.a, .int .i64 h.b, .int .i64 h.c, .int .i64 h.d, .int .i64 h.n, .int .i64 h.v, s], .agg #[.int .i64 g.k, .int .i64 g.ak, .int .i64 g.am, .int .i64 g.a, .int .i64 g.b, .int .i64 g.c, .int .i64 g.d, .int .i64 g.n, .int .i64 g.v, t]] w (fun e w' => ∃ s', e = .returned (.agg #[.int .i64 k, .int .i64 0, .int .i64 0, .int .i64 0, .int .i64 0, .int .i64 0, .int .i64 0, .int .i64 0, .int .i64 0, s']) ∧ FS w' lo (.cons h f (.cons g u .nil)) s' ∧ Below w.heap.size w w') := by
  have HS := Lib.hid hs
  have HT := Lib.hid ht
  obtain ⟨sa, sn, sc, rfl⟩ := hs.slice
  obtain ⟨ta, tn, tc, rfl⟩ := ht.slice
  clear hs ht
  go_enter Try.func153, Try.ntmps153
  go_wp2
  refine bodyPost_ret (v := .agg #[.int .i64 k, .int .i64 0, .int .i64 0, .int .i64 0, .int .i64 0, .int .i64 0, .int .i64 0, .int .i64 0, .int .i64 0, .slice (some ⟨w.heap.size + 1 + 1 + 1, 0, none⟩) 2 2]) (by simp [results, Try.results153, go_sem]) rfl ?_
  generalize hW : World.alloc _ _ = W
  have hb : Below w.heap.size w W := by subst hW; go_grown
  have hsz : w.heap.size + 1 + 1 + 1 < W.heap.size := by subst hW; simp
  refine ⟨_, rfl, .inr ⟨Nat.zero_lt_two, w.heap.size + 1 + 1 + 1, 0, 2, rfl, Nat.le_refl _, by decide, by omega, hsz, ⟨⟨.slice sa sn sc, ?_, FS.below hb (Nat.le_refl _) HS.out⟩, ⟨.slice ta tn tc, ?_, FS.below hb (Nat.le_refl _) HT.out⟩, trivial⟩⟩, hb⟩
  · subst hW
    refine ⟨?_, ?_, ?_, ?_, ?_, ?_, ?_, ?_, ?_, ?_⟩ <;> simp [go_sem]
  · subst hW
    refine ⟨?_, ?_, ?_, ?_, ?_, ?_, ?_, ?_, ?_, ?_⟩ <;> simp [go_sem]

end Go.Proofs.Ytcgolbkpfncgpaa

/- What the model draws as a formula: l3Draw. -/
namespace Go.Proofs.Ytcgolbkpfncgpaa
open Go.RowKit

/-- While l3Draw draws: the result's box, and that only the reader has turned. -/
def D3 (w : World) (r : Nat) (p K : Int) (z : Nat) (W : World) : Prop :=
  C10 W z ⟨0, 0, 0, 0, 0, 0, 0, 0, 0⟩ (.slice none 0 0) ∧ Hid (∀ o, W.frozen? ⟨z, o, none⟩ = false) ∧ Turned r p K w W ∧ r < z ∧ w.heap.size ≤ z ∧ r < w.heap.size
theorem d3_turn {w W W' : World} {r z : Nat} {p q K K' : Int} (h : D3 w r p K z W) (ht : Turned r q K' W W') (hR : Rd W r q) (q0 : p ≤ q) (q1 : q ≤ p + K) : D3 w r p (K + K') z W' := by
  obtain ⟨hz, hfz, h1, e1, e2, e3⟩ := h
  exact ⟨c10_only hz ht.1 (by omega), fz_only hfz ht.1 hz.1 (by omega), turned_two h1 hR ht q0 q1, e1, e2, e3⟩
theorem d3_below {w W W' : World} {r z : Nat} {p K : Int} (h : D3 w r p K z W) (hb : Below W.heap.size W W') : D3 w r p K z W' := by
  obtain ⟨hz, hfz, h1, e1, e2, e3⟩ := h
  exact ⟨c10_on hz hb, fun o => ((bcell hb).2 _ o hz.1).trans (hfz.out o), turned_below h1 hb, e1, e2, e3⟩
theorem d3_rd {w W : World} {r z : Nat} {p K : Int} (h : D3 w r p K z W) : ∃ q, p ≤ q ∧ q ≤ p + K ∧ Rd W r q := by
  obtain ⟨_, _, ⟨_, q, q0, q1, hR⟩, _⟩ := h
  exact ⟨q, q0, q1, hR⟩
theorem d3_more {w W : World} {r z : Nat} {p K K' : Int} (h : D3 w r p K z W) (hK : K ≤ K') : D3 w r p K' z W := by
  obtain ⟨hz, hfz, h1, e⟩ := h
  exact ⟨hz, hfz, turned_more h1 hK, e⟩
theorem d3_size {w W : World} {r z : Nat} {p K : Int} (h : D3 w r p K z W) : z < W.heap.size ∧ r < z ∧ w.heap.size ≤ z := ⟨h.1.1, h.2.2.2.1, h.2.2.2.2.1⟩

/-- The result is stored into its box. -/
theorem d3_put {w W W' : World} {r z : Nat} {p K : Int} {g : FH} {t : Value} (h : D3 w r p K z W)
    (hW : ((((((((((W.setCell ⟨z, 0, none⟩ (.int .i64 g.k)).setCell ⟨z, 1, none⟩ (.int .i64 g.ak)).setCell ⟨z, 2, none⟩ (.int .i64 g.am)).setCell ⟨z, 3, none⟩ (.int .i64 g.a)).setCell ⟨z, 4, none⟩ (.int .i64 g.b)).setCell ⟨z, 5, none⟩ (.int .i64 g.c)).setCell ⟨z, 6, none⟩ (.int .i64 g.d)).setCell ⟨z, 7, none⟩ (.int .i64 g.n)).setCell ⟨z, 8, none⟩ (.int .i64 g.v)).setCell ⟨z, 9, none⟩ t) = W') :
    C10 W' z g t ∧ Turned r p K w W' ∧ (∀ (f : Fo) (s : Value), FS W (z + 1) f s → FS W' w.heap.size f s) := by
  obtain ⟨⟨x0, c0, c1, c2, c3, c4, c5, c6, c7, c8, c9⟩, hfz, h1, e1, e2, e3⟩ := h
  have hblk : ∀ x, x ≠ z → W'.heap[x]? = W.heap[x]? := fun x hx => by subst hW; repeat rw [Below.heap_setCell _ _ _ _ (by dsimp only; omega)]
  have hsz : W'.heap.size = W.heap.size := by subst hW; simp [World.setCell]
  refine ⟨?_, ?_, fun f s hs => FS.mono (by omega) (FS.kept (by omega) (fun k hk _ => hblk k (by omega)) hs)⟩
  · subst hW
    exact ⟨by simpa [World.setCell] using x0, by simp [go_sem, *], by simp [go_sem, *], by simp [go_sem, *], by simp [go_sem, *], by simp [go_sem, *], by simp [go_sem, *], by simp [go_sem, *], by simp [go_sem, *], by simp [go_sem, *], by simp [go_sem, *]⟩
  · subst hW
    repeat (first | (with_reducible refine turned_put ?_ e3 e2) | exact h1)

theorem keep10s {W : World} {x B : Nat} {h : FH} {s : Value} {v0 v1 v2 v3 v4 v5 v6 v7 v8 v9 : Value} (hx : C10 W x h s) (hne : B ≠ x) :
    let W' := ((((((((((W.setCell ⟨B, 0, none⟩ v0).setCell ⟨B, 1, none⟩ v1).setCell ⟨B, 2, none⟩ v2).setCell ⟨B, 3, none⟩ v3).setCell ⟨B, 4, none⟩ v4).setCell ⟨B, 5, none⟩ v5).setCell ⟨B, 6, none⟩ v6).setCell ⟨B, 7, none⟩ v7).setCell ⟨B, 8, none⟩ v8).setCell ⟨B, 9, none⟩ v9)
    W'.cell? ⟨x, 0, none⟩ = some (.int .i64 h.k) ∧ W'.cell? ⟨x, 1, none⟩ = some (.int .i64 h.ak) ∧ W'.cell? ⟨x, 2, none⟩ = some (.int .i64 h.am) ∧ W'.cell? ⟨x, 3, none⟩ = some (.int .i64 h.a) ∧ W'.cell? ⟨x, 4, none⟩ = some (.int .i64 h.b) ∧ W'.cell? ⟨x, 5, none⟩ = some (.int .i64 h.c) ∧ W'.cell? ⟨x, 6, none⟩ = some (.int .i64 h.d) ∧ W'.cell? ⟨x, 7, none⟩ = some (.int .i64 h.n) ∧ W'.cell? ⟨x, 8, none⟩ = some (.int .i64 h.v) ∧ W'.cell? ⟨x, 9, none⟩ = some (s) := by
  intro W'
  obtain ⟨g0, c0, c1, c2, c3, c4, c5, c6, c7, c8, c9⟩ := hx
  have far : ∀ o, W'.cell? ⟨x, o, none⟩ = W.cell? ⟨x, o, none⟩ := by
    intro o
    show World.cell? _ _ = _
    repeat rw [cell_far (fun e => hne e.symm)]
  exact ⟨(far _).trans c0, (far _).trans c1, (far _).trans c2, (far _).trans c3, (far _).trans c4, (far _).trans c5, (far _).trans c6, (far _).trans c7, (far _).trans c8, (far _).trans c9⟩

def KD : Nat → Int
  | 0 => 20
  | d + 1 => 2 * KD d + 4
theorem kd_pos (d : Nat) : 20 ≤ KD d := by
  induction d with
  | zero => exact Int.le_refl _
  | succ d ih => simp only [KD]; omega

/-- A formula is drawn, with new lists. -/
def FdT (r : Nat) (p K : Int) (w : World) (e : Ending) (w' : World) : Prop := ∃ (h : FH) (f : Fo) (s : Value), e = .returned (.agg #[.int .i64 h.k, .int .i64 h.ak, .int .i64 h.am, .int .i64 h.a, .int .i64 h.b, .int .i64 h.c, .int .i64 h.d, .int .i64 h.n, .int .i64 h.v, s]) ∧ FS w' w.heap.size f s ∧ (f.len ≤ 2 ∧ (f.size : Int) + 2 ≤ K) ∧ (f.len = 0 → s = .slice none 0 0) ∧ Turned r p K w w'
def DrAt (d : Nat) : Prop := ∀ (r : Nat) (p : Int) (q : Bool) (w : World), Rd w r p → p + KD d ≤ 690000 → Calls Try.prog 154 #[.pointer (some ⟨r, 0, none⟩), .int .i64 d, .bool q] w (FdT r p (KD d) w)

set_option maxRecDepth 10000 in
set_option maxHeartbeats 2000000 in
theorem draw_0 : DrAt 0 := by
  intro r p q w h hp
  have hr := rd_lt h
  have hkd := kd_pos 0
  have H := Lib.hid h
  clear h
  go_enter Try.func154, Try.ntmps154
  go_wp2_with fail
  generalize hW : World.alloc _ _ = W
  have hd : D3 w r p 0 w.heap.size W := by
    have hb0 : Below w.heap.size w W := by subst hW; go_grown
    exact ⟨by subst hW; exact (by refine ⟨?_, ?_, ?_, ?_, ?_, ?_, ?_, ?_, ?_, ?_, ?_⟩ <;> first | (simp [go_sem]; done) | (simp; omega)), by intro o; subst hW; simp [go_sem], turned_below (turned_none H.out) hb0, hr, Nat.le_refl _, hr⟩
  have hR0 : Rd W r p := rd_on H.out (by subst hW; go_grown)
  clear hW
  refine (pick_t r p 12 W hR0 (by omega)).mono ?_
  rintro e w1 ⟨k, rfl, k0, k1, ht1⟩
  have HD1 := Lib.hid (d3_turn hd ht1 hR0 (by omega) (by omega))
  have hk12 : k ≤ 12 := by omega
  clear ht1 hR0 hd k1
  obtain ⟨q1, p2, p3, hR1⟩ := d3_rd HD1.out
  have HR1 := Lib.hid hR1
  obtain ⟨hz1, hrz, _⟩ := d3_size HD1.out
  clear hR1
  have hkk : KD 0 = 20 := rfl
  rw [hkk] at hp ⊢
  go_wp2_with fail
  refine (pick_t r q1 12 _ HR1.out (by omega)).mono ?_
  rintro e w3 ⟨x, rfl, _, _, ht3⟩
  have HD3 := Lib.hid (d3_turn HD1.out ht3 HR1.out p2 p3)
  clear ht3
  obtain ⟨q3, p4, p5, hR3⟩ := d3_rd HD3.out
  have HR3 := Lib.hid hR3
  obtain ⟨hz3, _, _⟩ := d3_size HD3.out
  clear hR3
  by_cases hx0 : x = 0
  · subst hx0
    go_wp2_with fail
    refine (pick_t r q3 2 _ HR3.out (by omega)).mono ?_
    rintro e w4 ⟨y, rfl, _, _, ht4⟩
    have HD4 := Lib.hid (d3_turn HD3.out ht4 HR3.out p4 p5)
    clear ht4
    obtain ⟨⟨zz0, zc0, zc1, zc2, zc3, zc4, zc5, zc6, zc7, zc8, zc9⟩, zf, _⟩ := id HD4.out
    have zff := zf.out
    go_upto_region 16 with fail
    (generalize hW9 : World.setCell _ _ _ = W9)
    obtain ⟨⟨z0, y0, y1, y2, y3, y4, y5, y6, y7, y8, y9⟩, ht9, hfs9⟩ := d3_put (g := ⟨y, 0, 0, 0, 0, 0, 0, 0, 0⟩) HD4.out hW9
    clear hW9
    go_wp2
    refine bodyPost_ret (v := .agg #[.int .i64 y, .int .i64 0, .int .i64 0, .int .i64 0, .int .i64 0, .int .i64 0, .int .i64 0, .int .i64 0, .int .i64 0, .slice none 0 0]) (by simp [results, Try.results154, go_sem, y0, y1, y2, y3, y4, y5, y6, y7, y8, y9]) rfl ⟨⟨y, 0, 0, 0, 0, 0, 0, 0, 0⟩, .nil, .slice none 0 0, rfl, hfs9 _ _ (.inl ⟨rfl, none, 0, rfl, Nat.le_refl _, Nat.zero_le _⟩), ⟨by simp [Fo.len], by simp only [Fo.size]; omega⟩, by first | exact fun _ => rfl | (intro h0; simp [Fo.len] at h0), turned_more ht9 (by omega)⟩
  · have e0 : (x == 0) = false := by simpa using hx0
    go_wp2_with fail
    refine (l2Some_t r q3 _ HR3.out (by omega)).mono ?_
    rintro e w4 ⟨ak, am, a, b, c, d', n, rfl, ht4⟩
    have HD4 := Lib.hid (d3_turn HD3.out ht4 HR3.out p4 p5)
    clear ht4
    go_wp2_with fail
    refine (l3Atom_t ak am a b c d' n _).mono ?_
    rintro e w5 ⟨rfl, hb5⟩
    have HD5 := Lib.hid (d3_below HD4.out hb5)
    clear hb5
    obtain ⟨⟨zz0, zc0, zc1, zc2, zc3, zc4, zc5, zc6, zc7, zc8, zc9⟩, zf, _⟩ := id HD5.out
    have zff := zf.out
    go_upto_region 16 with fail
    (generalize hW9 : World.setCell _ _ _ = W9)
    obtain ⟨⟨z0, y0, y1, y2, y3, y4, y5, y6, y7, y8, y9⟩, ht9, hfs9⟩ := d3_put (g := ⟨2, ak, am, a, b, c, d', n, 0⟩) HD5.out hW9
    clear hW9
    go_wp2
    refine bodyPost_ret (v := .agg #[.int .i64 2, .int .i64 ak, .int .i64 am, .int .i64 a, .int .i64 b, .int .i64 c, .int .i64 d', .int .i64 n, .int .i64 0, .slice none 0 0]) (by simp [results, Try.results154, go_sem, y0, y1, y2, y3, y4, y5, y6, y7, y8, y9]) rfl ⟨⟨2, ak, am, a, b, c, d', n, 0⟩, .nil, .slice none 0 0, rfl, hfs9 _ _ (.inl ⟨rfl, none, 0, rfl, Nat.le_refl _, Nat.zero_le _⟩), ⟨by simp [Fo.len], by simp only [Fo.size]; omega⟩, by first | exact fun _ => rfl | (intro h0; simp [Fo.len] at h0), turned_more ht9 (by omega)⟩

set_option maxRecDepth 10000 in
set_option maxHeartbeats 4000000 in
theorem draw_s (d : Nat) (hd4 : d ≤ 4) (HDR : DrAt d) : DrAt (d + 1) := by
  intro r p q w h hp
  have HDR := Lib.hid HDR
  have hkk : KD (d + 1) = 2 * KD d + 4 := rfl
  rw [hkk] at hp ⊢
  have hwr : IntKind.i64.wrap (d : Int) = (d : Int) := by
    have h5 : d = 0 ∨ d = 1 ∨ d = 2 ∨ d = 3 ∨ d = 4 := by omega
    rcases h5 with rfl | rfl | rfl | rfl | rfl <;> rfl
  have hr := rd_lt h
  have hkd := kd_pos d
  have H := Lib.hid h
  clear h
  go_enter Try.func154, Try.ntmps154
  go_wp2_with fail
  generalize hW : World.alloc _ _ = W
  have hd : D3 w r p 0 w.heap.size W := by
    have hb0 : Below w.heap.size w W := by subst hW; go_grown
    exact ⟨by subst hW; exact (by refine ⟨?_, ?_, ?_, ?_, ?_, ?_, ?_, ?_, ?_, ?_, ?_⟩ <;> first | (simp [go_sem]; done) | (simp; omega)), by intro o; subst hW; simp [go_sem], turned_below (turned_none H.out) hb0, hr, Nat.le_refl _, hr⟩
  have hR0 : Rd W r p := rd_on H.out (by subst hW; go_grown)
  clear hW
  refine (pick_t r p 12 W hR0 (by omega)).mono ?_
  rintro e w1 ⟨k, rfl, k0, k1, ht1⟩
  have HD1 := Lib.hid (d3_turn hd ht1 hR0 (by omega) (by omega))
  have hk12 : k ≤ 12 := by omega
  clear ht1 hR0 hd k1
  obtain ⟨q1, p2, p3, hR1⟩ := d3_rd HD1.out
  have HR1 := Lib.hid hR1
  obtain ⟨hz1, hrz, _⟩ := d3_size HD1.out
  clear hR1
  by_cases hk2 : k < 2
  · go_wp2_with fail
    refine (pick_t r q1 12 _ HR1.out (by omega)).mono ?_
    rintro e w3 ⟨x, rfl, _, _, ht3⟩
    have HD3 := Lib.hid (d3_turn HD1.out ht3 HR1.out p2 p3)
    clear ht3
    obtain ⟨q3, p4, p5, hR3⟩ := d3_rd HD3.out
    have HR3 := Lib.hid hR3
    obtain ⟨hz3, _, _⟩ := d3_size HD3.out
    clear hR3
    by_cases hx0 : x = 0
    · subst hx0
      go_wp2_with fail
      refine (pick_t r q3 2 _ HR3.out (by omega)).mono ?_
      rintro e w4 ⟨y, rfl, _, _, ht4⟩
      have HD4 := Lib.hid (d3_turn HD3.out ht4 HR3.out p4 p5)
      clear ht4
      obtain ⟨⟨zz0, zc0, zc1, zc2, zc3, zc4, zc5, zc6, zc7, zc8, zc9⟩, zf, _⟩ := id HD4.out
      have zff := zf.out
      go_upto_region 16 with fail
      (generalize hW9 : World.setCell _ _ _ = W9)
      obtain ⟨⟨z0, y0, y1, y2, y3, y4, y5, y6, y7, y8, y9⟩, ht9, hfs9⟩ := d3_put (g := ⟨y, 0, 0, 0, 0, 0, 0, 0, 0⟩) HD4.out hW9
      clear hW9
      go_wp2
      refine bodyPost_ret (v := .agg #[.int .i64 y, .int .i64 0, .int .i64 0, .int .i64 0, .int .i64 0, .int .i64 0, .int .i64 0, .int .i64 0, .int .i64 0, .slice none 0 0]) (by simp [results, Try.results154, go_sem, y0, y1, y2, y3, y4, y5, y6, y7, y8, y9]) rfl ⟨⟨y, 0, 0, 0, 0, 0, 0, 0, 0⟩, .nil, .slice none 0 0, rfl, hfs9 _ _ (.inl ⟨rfl, none, 0, rfl, Nat.le_refl _, Nat.zero_le _⟩), ⟨by simp [Fo.len], by simp only [Fo.size]; omega⟩, by first | exact fun _ => rfl | (intro h0; simp [Fo.len] at h0), turned_more ht9 (by omega)⟩
    · have e0 : (x == 0) = false := by simpa using hx0
      go_wp2_with fail
      refine (l2Some_t r q3 _ HR3.out (by omega)).mono ?_
      rintro e w4 ⟨ak, am, a, b, c, d', n, rfl, ht4⟩
      have HD4 := Lib.hid (d3_turn HD3.out ht4 HR3.out p4 p5)
      clear ht4
      go_wp2_with fail
      refine (l3Atom_t ak am a b c d' n _).mono ?_
      rintro e w5 ⟨rfl, hb5⟩
      have HD5 := Lib.hid (d3_below HD4.out hb5)
      clear hb5
      obtain ⟨⟨zz0, zc0, zc1, zc2, zc3, zc4, zc5, zc6, zc7, zc8, zc9⟩, zf, _⟩ := id HD5.out
      have zff := zf.out
      go_upto_region 16 with fail
      (generalize hW9 : World.setCell _ _ _ = W9)
      obtain ⟨⟨z0, y0, y1, y2, y3, y4, y5, y6, y7, y8, y9⟩, ht9, hfs9⟩ := d3_put (g := ⟨2, ak, am, a, b, c, d', n, 0⟩) HD5.out hW9
      clear hW9
      go_wp2
      refine bodyPost_ret (v := .agg #[.int .i64 2, .int .i64 ak, .int .i64 am, .int .i64 a, .int .i64 b, .int .i64 c, .int .i64 d', .int .i64 n, .int .i64 0, .slice none 0 0]) (by simp [results, Try.results154, go_sem, y0, y1, y2, y3, y4, y5, y6, y7, y8, y9]) rfl ⟨⟨2, ak, am, a, b, c, d', n, 0⟩, .nil, .slice none 0 0, rfl, hfs9 _ _ (.inl ⟨rfl, none, 0, rfl, Nat.le_refl _, Nat.zero_le _⟩), ⟨by simp [Fo.len], by simp only [Fo.size]; omega⟩, by first | exact fun _ => rfl | (intro h0; simp [Fo.len] at h0), turned_more ht9 (by omega)⟩
  by_cases hk5 : k < 5
  · go_wp2_with fail
    refine (HDR.out r q1 q _ HR1.out (by omega)).mono ?_
    rintro e w3 ⟨h3, f3, s3, rfl, hs3, hl3, _, ht3⟩
    have HD3 := Lib.hid (d3_turn HD1.out ht3 HR1.out p2 p3)
    have HS3 := Lib.hid (FS.mono (lo' := w.heap.size + 1) (by omega) hs3)
    obtain ⟨a3, n3, c3, rfl⟩ := hs3.slice
    clear ht3 hs3
    go_upto_region 8 with fail
    generalize hW4 : World.alloc _ _ = W4
    have hb4 : Below w3.heap.size w3 W4 := by subst hW4; go_grown
    have hxx : C10 W4 w3.heap.size h3 (.slice a3 n3 c3) := by subst hW4; exact (by refine ⟨?_, ?_, ?_, ?_, ?_, ?_, ?_, ?_, ?_, ?_, ?_⟩ <;> first | (simp [go_sem]; done) | (simp; omega))
    have HD4 := Lib.hid (d3_below HD3.out hb4)
    have HS4 := Lib.hid (FS.below hb4 (Nat.le_refl _) HS3.out)
    obtain ⟨hz3, _, _⟩ := d3_size HD3.out
    have hxx1 := hxx.1
    clear hW4 hb4
    obtain ⟨q4, p4, p5, hR4⟩ := d3_rd HD4.out
    have HR4 := Lib.hid hR4
    clear hR4
    refine wp_region_held_drew (S := (fun w' => w'.cell? ⟨w3.heap.size, 0, none⟩ = some (.int .i64 h3.k) ∧ w'.cell? ⟨w3.heap.size, 1, none⟩ = some (.int .i64 h3.ak) ∧ w'.cell? ⟨w3.heap.size, 2, none⟩ = some (.int .i64 h3.am) ∧ w'.cell? ⟨w3.heap.size, 3, none⟩ = some (.int .i64 h3.a) ∧ w'.cell? ⟨w3.heap.size, 4, none⟩ = some (.int .i64 h3.b) ∧ w'.cell? ⟨w3.heap.size, 5, none⟩ = some (.int .i64 h3.c) ∧ w'.cell? ⟨w3.heap.size, 6, none⟩ = some (.int .i64 h3.d) ∧ w'.cell? ⟨w3.heap.size, 7, none⟩ = some (.int .i64 h3.n) ∧ w'.cell? ⟨w3.heap.size, 8, none⟩ = some (.int .i64 h3.v) ∧ w'.cell? ⟨w3.heap.size, 9, none⟩ = some (.slice a3 n3 c3))) (by kernel_rfl) ?_ (fun hHeld => ?_)
    · try dsimp only
      first | (refine (c10_on hxx ?_).2; go_grown; done) | (refine keep10s (c10_on hxx ?_) (by omega); go_grown; done)
    refine wpAnyH_take (i := 0) (oi := { dst := some 37, op := Go.Op.load 56 (Go.Operand.tmp 8), type := 56, pos := "l3_formulas.go:324", after := #[], guard := none }) (v := ?_) rfl (by kernel_rfl) (by kernel_rfl) (by kernel_rfl) (fun _ _ _ h => h) (Or.inl ⟨by rfl, ?_⟩) (by assumption) ?_
    rotate_left
    · (intro w hSw; (try dsimp only at hSw); first | (go_simp; done) | (go_simp; with_reducible rfl))
    try simp only [Act.put, List.setIfInBounds_toArray, List.set_cons_zero, List.set_cons_succ]
    refine wpAnyH_take (i := 1) (oi := { dst := some 38, op := Go.Op.move (Go.Operand.tmp 0), type := 85, pos := "l3_formulas.go:324", after := #[], guard := none }) (v := ?_) rfl (by kernel_rfl) (by kernel_rfl) (by kernel_rfl) (fun _ _ _ h => h) (Or.inl ⟨by rfl, ?_⟩) (by assumption) ?_
    rotate_left
    · (intro w hSw; (try dsimp only at hSw); first | (go_simp; done) | (go_simp; with_reducible rfl))
    try simp only [Act.put, List.setIfInBounds_toArray, List.set_cons_zero, List.set_cons_succ]
    refine wpAnyH_take (i := 2) (oi := { dst := some 39, op := Go.Op.move (Go.Operand.tmp 1), type := 3, pos := "l3_formulas.go:324", after := #[], guard := none }) (v := ?_) rfl (by kernel_rfl) (by kernel_rfl) (by kernel_rfl) (fun _ _ _ h => h) (Or.inl ⟨by rfl, ?_⟩) (by assumption) ?_
    rotate_left
    · (intro w hSw; (try dsimp only at hSw); first | (go_simp; done) | (go_simp; with_reducible rfl))
    try simp only [Act.put, List.setIfInBounds_toArray, List.set_cons_zero, List.set_cons_succ]
    refine wpAnyH_take (i := 3) (oi := { dst := some 40, op := Go.Op.binOp Go.BinOp.sub 3 (Go.Operand.tmp 39) (Go.Operand.const (Go.Value.int Go.IntKind.i64 1)) 3, type := 3, pos := "l3_formulas.go:324", after := #[{ on := 2, ground := Go.Ground.data }], guard := none }) (v := ?_) rfl (by kernel_rfl) (by kernel_rfl) (by kernel_rfl) (fun _ _ _ h => h) (Or.inl ⟨by rfl, ?_⟩) (by assumption) ?_
    rotate_left
    · (intro w hSw; (try dsimp only at hSw); first | (go_simp; done) | (go_simp; with_reducible rfl))
    try simp only [Act.put, List.setIfInBounds_toArray, List.set_cons_zero, List.set_cons_succ]
    refine wpAnyH_take (i := 4) (oi := { dst := some 41, op := Go.Op.move (Go.Operand.tmp 2), type := 4, pos := "l3_formulas.go:324", after := #[], guard := none }) (v := ?_) rfl (by kernel_rfl) (by kernel_rfl) (by kernel_rfl) (fun _ _ _ h => h) (Or.inl ⟨by rfl, ?_⟩) (by assumption) ?_
    rotate_left
    · (intro w hSw; (try dsimp only at hSw); first | (go_simp; done) | (go_simp; with_reducible rfl))
    try simp only [Act.put, List.setIfInBounds_toArray, List.set_cons_zero, List.set_cons_succ]
    refine wpAnyH_ready (rs := [5]) (by kernel_rfl) (by simp) ?_
    refine AllReadyH.cons (o := { dst := some 42, op := Go.Op.call { callee := Go.Callee.value (Go.Operand.func 154), args := #[Go.Operand.tmp 38, Go.Operand.tmp 40, Go.Operand.tmp 41], argTypes := #[85, 3, 4] }, type := 56, pos := "l3_formulas.go:324", after := #[{ on := 1, ground := Go.Ground.data }, { on := 3, ground := Go.Ground.data }, { on := 4, ground := Go.Ground.data }], guard := none }) rfl (fun K hK => ?_) AllReadyH.nil
    go_simp
    (go_at_call 154; refine (HDR.out r q4 q _ (rd_on HR4.out (by go_grown)) (by omega)).mono ?_; rintro e w5 ⟨h5, f5, s5, rfl, hs5, hl5, _, ht5⟩; have ht5' : Turned r q4 (KD d) W4 w5 := below_turned (by go_grown) ht5; have HD5 := Lib.hid (d3_turn HD4.out ht5' HR4.out p4 p5); have HS5 := Lib.hid (FS.mono (show w.heap.size + 1 ≤ W4.heap.size by omega) hs5); have HSA5 := Lib.hid (fs_turned HS4.out ht5' (by omega)); obtain ⟨a5, n5, c5, rfl⟩ := hs5.slice; have hxx := c10_only hxx ht5'.1 (by omega); clear ht5 ht5' hs5)
    (try go_wp2_with fail)
    refine hK.out _ _ ?_ (fun hHeld => ?_)
    · try dsimp only
      first | (refine (c10_on hxx ?_).2; go_grown; done) | (refine keep10s (c10_on hxx ?_) (by omega); go_grown; done)
    clear hK K
    try simp only [Act.put, List.setIfInBounds_toArray, List.set_cons_zero, List.set_cons_succ]
    refine wpAnyH_ready (rs := [6]) (by kernel_rfl) (by simp) ?_
    refine AllReadyH.cons (o := { dst := some 43, op := Go.Op.call { callee := Go.Callee.value (Go.Operand.func 153), args := #[Go.Operand.const (Go.Value.int Go.IntKind.i64 4), Go.Operand.tmp 37, Go.Operand.tmp 42], argTypes := #[3, 56, 56] }, type := 56, pos := "l3_formulas.go:324", after := #[{ on := 0, ground := Go.Ground.data }, { on := 5, ground := Go.Ground.data }, { on := 5, ground := Go.Ground.chain }], guard := none }) rfl (fun K hK => ?_) AllReadyH.nil
    go_simp
    (go_at_call 153; refine (l3Two_t (w.heap.size + 1) 4 h3 h5 f3 f5 _ _ _ (show w.heap.size + 1 ≤ w5.heap.size from (d3_size HD5.out).1) (FS.below (w := w5) (by go_grown) (Nat.le_refl _) HSA5.out) (FS.below (w := w5) (by go_grown) (Nat.le_refl _) HS5.out)).mono ?_; rintro e w6 ⟨s6, rfl, hs6, hb6⟩; have hb6' := below_on (w := w5) (by go_grown) hb6; have HD6 := Lib.hid (d3_below HD5.out hb6'); have HS6 := Lib.hid hs6; obtain ⟨a6, n6, c6, rfl⟩ := hs6.slice; have hxx := c10_on hxx hb6'; obtain ⟨⟨zz0, zc0, zc1, zc2, zc3, zc4, zc5, zc6, zc7, zc8, zc9⟩, zf, _⟩ := id HD6.out; have zff := zf.out; clear hs6 hb6 zf)
    (try go_wp2_with fail)
    refine hK.out _ _ ?_ (fun hHeld => ?_)
    · try dsimp only
      first | (refine (c10_on hxx ?_).2; go_grown; done) | (refine keep10s (c10_on hxx ?_) (by omega); go_grown; done)
    clear hK K
    try simp only [Act.put, List.setIfInBounds_toArray, List.set_cons_zero, List.set_cons_succ]
    refine wpAnyH_ready (rs := [7]) (by kernel_rfl) (by simp) ?_
    refine AllReadyH.cons (o := { dst := none, op := Go.Op.store 56 (Go.Operand.tmp 6) (Go.Operand.tmp 43), type := 0, pos := "l3_formulas.go:324", after := #[{ on := 6, ground := Go.Ground.data }, { on := 6, ground := Go.Ground.chain }, { on := 0, ground := Go.Ground.phase }, { on := 1, ground := Go.Ground.phase }, { on := 2, ground := Go.Ground.phase }, { on := 3, ground := Go.Ground.phase }, { on := 4, ground := Go.Ground.phase }, { on := 5, ground := Go.Ground.phase }, { on := 6, ground := Go.Ground.phase }], guard := none }) rfl (fun K hK => ?_) AllReadyH.nil
    go_simp
    refine hK.out _ _ ?_ (fun hHeld => ?_)
    · try dsimp only
      first | (refine (c10_on hxx ?_).2; go_grown; done) | (refine keep10s (c10_on hxx ?_) (by omega); go_grown; done)
    clear hK K
    try simp only [Act.put, List.setIfInBounds_toArray, List.set_cons_zero, List.set_cons_succ]
    refine wpAnyH_done (by kernel_rfl) ?_ _
    (generalize hW9 : World.setCell _ _ _ = W9)
    obtain ⟨g9, hc9, ht9, hfs9⟩ : ∃ g : FH, C10 W9 w.heap.size g (.slice a6 n6 c6) ∧ Turned r p (0 + 1 + KD d + KD d) w W9 ∧ (∀ (f : Fo) (s : Value), FS w6 (w.heap.size + 1) f s → FS W9 w.heap.size f s) := by
      exact ⟨_, d3_put (g := ⟨_, _, _, _, _, _, _, _, _⟩) HD6.out hW9⟩
    obtain ⟨z0, y0, y1, y2, y3, y4, y5, y6, y7, y8, y9⟩ := hc9
    clear hW9 hxx
    go_wp2
    refine bodyPost_ret (v := .agg #[.int .i64 g9.k, .int .i64 g9.ak, .int .i64 g9.am, .int .i64 g9.a, .int .i64 g9.b, .int .i64 g9.c, .int .i64 g9.d, .int .i64 g9.n, .int .i64 g9.v, .slice a6 n6 c6]) (by simp [results, Try.results154, go_sem, y0, y1, y2, y3, y4, y5, y6, y7, y8, y9]) rfl ⟨g9, _, .slice a6 n6 c6, rfl, hfs9 _ _ HS6.out, ⟨by simp [Fo.len], by simp only [Fo.size]; omega⟩, by first | exact fun _ => rfl | (intro h0; simp [Fo.len] at h0), turned_more ht9 (by omega)⟩

  by_cases hk8 : k < 8
  · go_wp2_with fail
    refine (HDR.out r q1 q _ HR1.out (by omega)).mono ?_
    rintro e w3 ⟨h3, f3, s3, rfl, hs3, hl3, _, ht3⟩
    have HD3 := Lib.hid (d3_turn HD1.out ht3 HR1.out p2 p3)
    have HS3 := Lib.hid (FS.mono (lo' := w.heap.size + 1) (by omega) hs3)
    obtain ⟨a3, n3, c3, rfl⟩ := hs3.slice
    clear ht3 hs3
    go_upto_region 11 with fail
    generalize hW4 : World.alloc _ _ = W4
    have hb4 : Below w3.heap.size w3 W4 := by subst hW4; go_grown
    have hxx : C10 W4 w3.heap.size h3 (.slice a3 n3 c3) := by subst hW4; exact (by refine ⟨?_, ?_, ?_, ?_, ?_, ?_, ?_, ?_, ?_, ?_, ?_⟩ <;> first | (simp [go_sem]; done) | (simp; omega))
    have HD4 := Lib.hid (d3_below HD3.out hb4)
    have HS4 := Lib.hid (FS.below hb4 (Nat.le_refl _) HS3.out)
    obtain ⟨hz3, _, _⟩ := d3_size HD3.out
    have hxx1 := hxx.1
    clear hW4 hb4
    obtain ⟨q4, p4, p5, hR4⟩ := d3_rd HD4.out
    have HR4 := Lib.hid hR4
    clear hR4
    refine wp_region_held_drew (S := (fun w' => w'.cell? ⟨w3.heap.size, 0, none⟩ = some (.int .i64 h3.k) ∧ w'.cell? ⟨w3.heap.size, 1, none⟩ = some (.int .i64 h3.ak) ∧ w'.cell? ⟨w3.heap.size, 2, none⟩ = some (.int .i64 h3.am) ∧ w'.cell? ⟨w3.heap.size, 3, none⟩ = some (.int .i64 h3.a) ∧ w'.cell? ⟨w3.heap.size, 4, none⟩ = some (.int .i64 h3.b) ∧ w'.cell? ⟨w3.heap.size, 5, none⟩ = some (.int .i64 h3.c) ∧ w'.cell? ⟨w3.heap.size, 6, none⟩ = some (.int .i64 h3.d) ∧ w'.cell? ⟨w3.heap.size, 7, none⟩ = some (.int .i64 h3.n) ∧ w'.cell? ⟨w3.heap.size, 8, none⟩ = some (.int .i64 h3.v) ∧ w'.cell? ⟨w3.heap.size, 9, none⟩ = some (.slice a3 n3 c3))) (by kernel_rfl) ?_ (fun hHeld => ?_)
    · try dsimp only
      first | (refine (c10_on hxx ?_).2; go_grown; done) | (refine keep10s (c10_on hxx ?_) (by omega); go_grown; done)
    refine wpAnyH_take (i := 0) (oi := { dst := some 52, op := Go.Op.load 56 (Go.Operand.tmp 9), type := 56, pos := "l3_formulas.go:327", after := #[], guard := none }) (v := ?_) rfl (by kernel_rfl) (by kernel_rfl) (by kernel_rfl) (fun _ _ _ h => h) (Or.inl ⟨by rfl, ?_⟩) (by assumption) ?_
    rotate_left
    · (intro w hSw; (try dsimp only at hSw); first | (go_simp; done) | (go_simp; with_reducible rfl))
    try simp only [Act.put, List.setIfInBounds_toArray, List.set_cons_zero, List.set_cons_succ]
    refine wpAnyH_take (i := 1) (oi := { dst := some 53, op := Go.Op.move (Go.Operand.tmp 0), type := 85, pos := "l3_formulas.go:327", after := #[], guard := none }) (v := ?_) rfl (by kernel_rfl) (by kernel_rfl) (by kernel_rfl) (fun _ _ _ h => h) (Or.inl ⟨by rfl, ?_⟩) (by assumption) ?_
    rotate_left
    · (intro w hSw; (try dsimp only at hSw); first | (go_simp; done) | (go_simp; with_reducible rfl))
    try simp only [Act.put, List.setIfInBounds_toArray, List.set_cons_zero, List.set_cons_succ]
    refine wpAnyH_take (i := 2) (oi := { dst := some 54, op := Go.Op.move (Go.Operand.tmp 1), type := 3, pos := "l3_formulas.go:327", after := #[], guard := none }) (v := ?_) rfl (by kernel_rfl) (by kernel_rfl) (by kernel_rfl) (fun _ _ _ h => h) (Or.inl ⟨by rfl, ?_⟩) (by assumption) ?_
    rotate_left
    · (intro w hSw; (try dsimp only at hSw); first | (go_simp; done) | (go_simp; with_reducible rfl))
    try simp only [Act.put, List.setIfInBounds_toArray, List.set_cons_zero, List.set_cons_succ]
    refine wpAnyH_take (i := 3) (oi := { dst := some 55, op := Go.Op.binOp Go.BinOp.sub 3 (Go.Operand.tmp 54) (Go.Operand.const (Go.Value.int Go.IntKind.i64 1)) 3, type := 3, pos := "l3_formulas.go:327", after := #[{ on := 2, ground := Go.Ground.data }], guard := none }) (v := ?_) rfl (by kernel_rfl) (by kernel_rfl) (by kernel_rfl) (fun _ _ _ h => h) (Or.inl ⟨by rfl, ?_⟩) (by assumption) ?_
    rotate_left
    · (intro w hSw; (try dsimp only at hSw); first | (go_simp; done) | (go_simp; with_reducible rfl))
    try simp only [Act.put, List.setIfInBounds_toArray, List.set_cons_zero, List.set_cons_succ]
    refine wpAnyH_take (i := 4) (oi := { dst := some 56, op := Go.Op.move (Go.Operand.tmp 2), type := 4, pos := "l3_formulas.go:327", after := #[], guard := none }) (v := ?_) rfl (by kernel_rfl) (by kernel_rfl) (by kernel_rfl) (fun _ _ _ h => h) (Or.inl ⟨by rfl, ?_⟩) (by assumption) ?_
    rotate_left
    · (intro w hSw; (try dsimp only at hSw); first | (go_simp; done) | (go_simp; with_reducible rfl))
    try simp only [Act.put, List.setIfInBounds_toArray, List.set_cons_zero, List.set_cons_succ]
    refine wpAnyH_ready (rs := [5]) (by kernel_rfl) (by simp) ?_
    refine AllReadyH.cons (o := { dst := some 57, op := Go.Op.call { callee := Go.Callee.value (Go.Operand.func 154), args := #[Go.Operand.tmp 53, Go.Operand.tmp 55, Go.Operand.tmp 56], argTypes := #[85, 3, 4] }, type := 56, pos := "l3_formulas.go:327", after := #[{ on := 1, ground := Go.Ground.data }, { on := 3, ground := Go.Ground.data }, { on := 4, ground := Go.Ground.data }], guard := none }) rfl (fun K hK => ?_) AllReadyH.nil
    go_simp
    (go_at_call 154; refine (HDR.out r q4 q _ (rd_on HR4.out (by go_grown)) (by omega)).mono ?_; rintro e w5 ⟨h5, f5, s5, rfl, hs5, hl5, _, ht5⟩; have ht5' : Turned r q4 (KD d) W4 w5 := below_turned (by go_grown) ht5; have HD5 := Lib.hid (d3_turn HD4.out ht5' HR4.out p4 p5); have HS5 := Lib.hid (FS.mono (show w.heap.size + 1 ≤ W4.heap.size by omega) hs5); have HSA5 := Lib.hid (fs_turned HS4.out ht5' (by omega)); obtain ⟨a5, n5, c5, rfl⟩ := hs5.slice; have hxx := c10_only hxx ht5'.1 (by omega); clear ht5 ht5' hs5)
    (try go_wp2_with fail)
    refine hK.out _ _ ?_ (fun hHeld => ?_)
    · try dsimp only
      first | (refine (c10_on hxx ?_).2; go_grown; done) | (refine keep10s (c10_on hxx ?_) (by omega); go_grown; done)
    clear hK K
    try simp only [Act.put, List.setIfInBounds_toArray, List.set_cons_zero, List.set_cons_succ]
    refine wpAnyH_ready (rs := [6]) (by kernel_rfl) (by simp) ?_
    refine AllReadyH.cons (o := { dst := some 58, op := Go.Op.call { callee := Go.Callee.value (Go.Operand.func 153), args := #[Go.Operand.const (Go.Value.int Go.IntKind.i64 5), Go.Operand.tmp 52, Go.Operand.tmp 57], argTypes := #[3, 56, 56] }, type := 56, pos := "l3_formulas.go:327", after := #[{ on := 0, ground := Go.Ground.data }, { on := 5, ground := Go.Ground.data }, { on := 5, ground := Go.Ground.chain }], guard := none }) rfl (fun K hK => ?_) AllReadyH.nil
    go_simp
    (go_at_call 153; refine (l3Two_t (w.heap.size + 1) 5 h3 h5 f3 f5 _ _ _ (show w.heap.size + 1 ≤ w5.heap.size from (d3_size HD5.out).1) (FS.below (w := w5) (by go_grown) (Nat.le_refl _) HSA5.out) (FS.below (w := w5) (by go_grown) (Nat.le_refl _) HS5.out)).mono ?_; rintro e w6 ⟨s6, rfl, hs6, hb6⟩; have hb6' := below_on (w := w5) (by go_grown) hb6; have HD6 := Lib.hid (d3_below HD5.out hb6'); have HS6 := Lib.hid hs6; obtain ⟨a6, n6, c6, rfl⟩ := hs6.slice; have hxx := c10_on hxx hb6'; obtain ⟨⟨zz0, zc0, zc1, zc2, zc3, zc4, zc5, zc6, zc7, zc8, zc9⟩, zf, _⟩ := id HD6.out; have zff := zf.out; clear hs6 hb6 zf)
    (try go_wp2_with fail)
    refine hK.out _ _ ?_ (fun hHeld => ?_)
    · try dsimp only
      first | (refine (c10_on hxx ?_).2; go_grown; done) | (refine keep10s (c10_on hxx ?_) (by omega); go_grown; done)
    clear hK K
    try simp only [Act.put, List.setIfInBounds_toArray, List.set_cons_zero, List.set_cons_succ]
    refine wpAnyH_ready (rs := [7]) (by kernel_rfl) (by simp) ?_
    refine AllReadyH.cons (o := { dst := none, op := Go.Op.store 56 (Go.Operand.tmp 6) (Go.Operand.tmp 58), type := 0, pos := "l3_formulas.go:327", after := #[{ on := 6, ground := Go.Ground.data }, { on := 6, ground := Go.Ground.chain }, { on := 0, ground := Go.Ground.phase }, { on := 1, ground := Go.Ground.phase }, { on := 2, ground := Go.Ground.phase }, { on := 3, ground := Go.Ground.phase }, { on := 4, ground := Go.Ground.phase }, { on := 5, ground := Go.Ground.phase }, { on := 6, ground := Go.Ground.phase }], guard := none }) rfl (fun K hK => ?_) AllReadyH.nil
    go_simp
    refine hK.out _ _ ?_ (fun hHeld => ?_)
    · try dsimp only
      first | (refine (c10_on hxx ?_).2; go_grown; done) | (refine keep10s (c10_on hxx ?_) (by omega); go_grown; done)
    clear hK K
    try simp only [Act.put, List.setIfInBounds_toArray, List.set_cons_zero, List.set_cons_succ]
    refine wpAnyH_done (by kernel_rfl) ?_ _
    (generalize hW9 : World.setCell _ _ _ = W9)
    obtain ⟨g9, hc9, ht9, hfs9⟩ : ∃ g : FH, C10 W9 w.heap.size g (.slice a6 n6 c6) ∧ Turned r p (0 + 1 + KD d + KD d) w W9 ∧ (∀ (f : Fo) (s : Value), FS w6 (w.heap.size + 1) f s → FS W9 w.heap.size f s) := by
      exact ⟨_, d3_put (g := ⟨_, _, _, _, _, _, _, _, _⟩) HD6.out hW9⟩
    obtain ⟨z0, y0, y1, y2, y3, y4, y5, y6, y7, y8, y9⟩ := hc9
    clear hW9 hxx
    go_wp2
    refine bodyPost_ret (v := .agg #[.int .i64 g9.k, .int .i64 g9.ak, .int .i64 g9.am, .int .i64 g9.a, .int .i64 g9.b, .int .i64 g9.c, .int .i64 g9.d, .int .i64 g9.n, .int .i64 g9.v, .slice a6 n6 c6]) (by simp [results, Try.results154, go_sem, y0, y1, y2, y3, y4, y5, y6, y7, y8, y9]) rfl ⟨g9, _, .slice a6 n6 c6, rfl, hfs9 _ _ HS6.out, ⟨by simp [Fo.len], by simp only [Fo.size]; omega⟩, by first | exact fun _ => rfl | (intro h0; simp [Fo.len] at h0), turned_more ht9 (by omega)⟩
  by_cases hk10 : k < 10
  · go_wp2_with fail
    refine (HDR.out r q1 q _ HR1.out (by omega)).mono ?_
    rintro e w3 ⟨h3, f3, s3, rfl, hs3, hl3, _, ht3⟩
    have HD3 := Lib.hid (d3_turn HD1.out ht3 HR1.out p2 p3)
    have HS3 := Lib.hid (FS.mono (lo' := w.heap.size + 1) (by omega) hs3)
    obtain ⟨a3, n3, c3, rfl⟩ := hs3.slice
    clear ht3 hs3
    go_wp2_with fail
    refine (l3One_t (w.heap.size + 1) 3 0 h3 f3 _ _ (show w.heap.size + 1 ≤ w3.heap.size from (d3_size HD3.out).1) HS3.out).mono ?_
    rintro e w5 ⟨s5, rfl, hs5, hb5⟩
    have HD5 := Lib.hid (d3_below HD3.out hb5)
    have HS5 := Lib.hid hs5
    obtain ⟨a5, n5, c5, rfl⟩ := hs5.slice
    obtain ⟨⟨zz0, zc0, zc1, zc2, zc3, zc4, zc5, zc6, zc7, zc8, zc9⟩, zf, _⟩ := id HD5.out
    have zff := zf.out
    clear hs5 hb5 zf
    go_upto_region 16 with fail
    (generalize hW9 : World.setCell _ _ _ = W9)
    obtain ⟨⟨z0, y0, y1, y2, y3, y4, y5, y6, y7, y8, y9⟩, ht9, hfs9⟩ := d3_put (g := ⟨3, 0, 0, 0, 0, 0, 0, 0, 0⟩) HD5.out hW9
    clear hW9
    go_wp2
    refine bodyPost_ret (v := .agg #[.int .i64 3, .int .i64 0, .int .i64 0, .int .i64 0, .int .i64 0, .int .i64 0, .int .i64 0, .int .i64 0, .int .i64 0, .slice a5 n5 c5]) (by simp [results, Try.results154, go_sem, y0, y1, y2, y3, y4, y5, y6, y7, y8, y9]) rfl ⟨⟨3, 0, 0, 0, 0, 0, 0, 0, 0⟩, (.cons h3 f3 .nil), .slice a5 n5 c5, rfl, hfs9 _ _ HS5.out, ⟨by simp [Fo.len], by simp only [Fo.size]; omega⟩, by first | exact fun _ => rfl | (intro h0; simp [Fo.len] at h0), turned_more ht9 (by omega)⟩
  cases q with
  | false =>
    go_wp2_with fail
    refine (HDR.out r q1 false _ HR1.out (by omega)).mono ?_
    rintro e w3 ⟨h3, f3, s3, rfl, hs3, hl3, _, ht3⟩
    have HD3 := Lib.hid (d3_turn HD1.out ht3 HR1.out p2 p3)
    have HS3 := Lib.hid (FS.mono (lo' := w.heap.size + 1) (by omega) hs3)
    obtain ⟨a3, n3, c3, rfl⟩ := hs3.slice
    clear ht3 hs3
    go_wp2_with fail
    refine (l3One_t (w.heap.size + 1) 3 0 h3 f3 _ _ (show w.heap.size + 1 ≤ w3.heap.size from (d3_size HD3.out).1) HS3.out).mono ?_
    rintro e w5 ⟨s5, rfl, hs5, hb5⟩
    have HD5 := Lib.hid (d3_below HD3.out hb5)
    have HS5 := Lib.hid hs5
    obtain ⟨a5, n5, c5, rfl⟩ := hs5.slice
    obtain ⟨⟨zz0, zc0, zc1, zc2, zc3, zc4, zc5, zc6, zc7, zc8, zc9⟩, zf, _⟩ := id HD5.out
    have zff := zf.out
    clear hs5 hb5 zf
    go_upto_region 16 with fail
    (generalize hW9 : World.setCell _ _ _ = W9)
    obtain ⟨⟨z0, y0, y1, y2, y3, y4, y5, y6, y7, y8, y9⟩, ht9, hfs9⟩ := d3_put (g := ⟨3, 0, 0, 0, 0, 0, 0, 0, 0⟩) HD5.out hW9
    clear hW9
    go_wp2
    refine bodyPost_ret (v := .agg #[.int .i64 3, .int .i64 0, .int .i64 0, .int .i64 0, .int .i64 0, .int .i64 0, .int .i64 0, .int .i64 0, .int .i64 0, .slice a5 n5 c5]) (by simp [results, Try.results154, go_sem, y0, y1, y2, y3, y4, y5, y6, y7, y8, y9]) rfl ⟨⟨3, 0, 0, 0, 0, 0, 0, 0, 0⟩, (.cons h3 f3 .nil), .slice a5 n5 c5, rfl, hfs9 _ _ HS5.out, ⟨by simp [Fo.len], by simp only [Fo.size]; omega⟩, by first | exact fun _ => rfl | (intro h0; simp [Fo.len] at h0), turned_more ht9 (by omega)⟩
  | true =>
    go_wp2_with fail
    all_goals try (exfalso; omega; done)
    refine (pick_t r q1 2 _ HR1.out (by omega)).mono ?_
    rintro e w3 ⟨y, rfl, y0, y1, ht3⟩
    have HD3 := Lib.hid (d3_turn HD1.out ht3 HR1.out p2 p3)
    have hy2 : y ≤ 2 := by omega
    clear ht3 y1
    obtain ⟨q3, p4, p5, hR3⟩ := d3_rd HD3.out
    have HR3 := Lib.hid hR3
    clear hR3
    go_wp2_with fail
    refine (pick_t r q3 3 _ HR3.out (by omega)).mono ?_
    rintro e w4 ⟨v, rfl, _, _, ht4⟩
    have HD4 := Lib.hid (d3_turn HD3.out ht4 HR3.out p4 p5)
    clear ht4
    obtain ⟨q4, p6, p7, hR4⟩ := d3_rd HD4.out
    have HR4 := Lib.hid hR4
    obtain ⟨hz4, _, _⟩ := d3_size HD4.out
    clear hR4
    go_wp2_with fail
    refine (HDR.out r q4 true _ HR4.out (by omega)).mono ?_
    rintro e w6 ⟨h6, f6, s6, rfl, hs6, hl6, _, ht6⟩
    have HD6 := Lib.hid (d3_turn HD4.out ht6 HR4.out p6 p7)
    have HS6 := Lib.hid (FS.mono (lo' := w.heap.size + 1) (by omega) hs6)
    obtain ⟨a6, n6, c6, rfl⟩ := hs6.slice
    clear ht6 hs6
    go_wp2_with fail
    refine (l3One_t (w.heap.size + 1) _ v h6 f6 _ _ (show w.heap.size + 1 ≤ w6.heap.size from (d3_size HD6.out).1) HS6.out).mono ?_
    rintro e w7 ⟨s7, rfl, hs7, hb7⟩
    have HD7 := Lib.hid (d3_below HD6.out hb7)
    have HS7 := Lib.hid hs7
    obtain ⟨a7, n7, c7, rfl⟩ := hs7.slice
    obtain ⟨⟨zz0, zc0, zc1, zc2, zc3, zc4, zc5, zc6, zc7, zc8, zc9⟩, zf, _⟩ := id HD7.out
    have zff := zf.out
    clear hs7 hb7 zf
    go_upto_region 16 with fail
    (generalize hW9 : World.setCell _ _ _ = W9)
    obtain ⟨⟨z0, y0, y1, y2, y3, y4, y5, y6, y7, y8, y9⟩, ht9, hfs9⟩ := d3_put (g := ⟨6 + y, 0, 0, 0, 0, 0, 0, 0, v⟩) HD7.out hW9
    clear hW9
    go_wp2
    refine bodyPost_ret (v := .agg #[.int .i64 (6 + y), .int .i64 0, .int .i64 0, .int .i64 0, .int .i64 0, .int .i64 0, .int .i64 0, .int .i64 0, .int .i64 v, .slice a7 n7 c7]) (by simp [results, Try.results154, go_sem, y0, y1, y2, y3, y4, y5, y6, y7, y8, y9]) rfl ⟨⟨6 + y, 0, 0, 0, 0, 0, 0, 0, v⟩, (.cons h6 f6 .nil), .slice a7 n7 c7, rfl, hfs9 _ _ HS7.out, ⟨by simp [Fo.len], by simp only [Fo.size]; omega⟩, by first | exact fun _ => rfl | (intro h0; simp [Fo.len] at h0), turned_more ht9 (by omega)⟩


theorem draw_any : ∀ (d : Nat), d ≤ 5 → DrAt d := by
  intro d
  induction d with
  | zero => exact fun _ => draw_0
  | succ d ih => exact fun h => draw_s d (by omega) (ih (by omega))

end Go.Proofs.Ytcgolbkpfncgpaa

/- The draws of formulas, with forests whose lists lie in blocks with a property. -/

/- The least number with a property. -/
namespace Go.Proofs.Ytcgolbkpfncgpaa

/-- The least number with a property. -/
noncomputable def leastN (p : Nat → Prop) : Nat := by
  classical
  exact if h : ∃ n, p n ∧ ∀ m, p m → n ≤ m then Classical.choose h else 0
theorem least_has {p : Nat → Prop} (h : ∃ n, p n) : ∃ n, p n ∧ ∀ m, p m → n ≤ m := by
  obtain ⟨n, hn⟩ := h
  revert hn
  induction n using Nat.strongRecOn with
  | _ n ih =>
    intro hn
    by_cases hm : ∃ m, m < n ∧ p m
    · obtain ⟨m, hm, hp⟩ := hm
      exact ih m hm hp
    · exact ⟨n, hn, fun m hp => by
        by_cases hmn : n ≤ m
        · exact hmn
        · exact absurd ⟨m, by omega, hp⟩ hm⟩
theorem least_spec {p : Nat → Prop} (h : ∃ n, p n) : p (leastN p) := by
  unfold leastN
  rw [dif_pos (least_has h)]
  exact (Classical.choose_spec (least_has h)).1
theorem least_le {p : Nat → Prop} {m : Nat} (h : p m) : leastN p ≤ m := by
  unfold leastN
  rw [dif_pos (least_has ⟨m, h⟩)]
  exact (Classical.choose_spec (least_has ⟨m, h⟩)).2 m h

end Go.Proofs.Ytcgolbkpfncgpaa

/- What the model draws as a formula: l3Bad. -/
namespace Go.Proofs.Ytcgolbkpfncgpaa
open Go.RowKit

theorem ten_put {W W' : World} {x : Nat} {h g : FH} {s t : Value} (hx : C10 W x h s)
    (hW : ((((((((((W.setCell ⟨x, 0, none⟩ (.int .i64 g.k)).setCell ⟨x, 1, none⟩ (.int .i64 g.ak)).setCell ⟨x, 2, none⟩ (.int .i64 g.am)).setCell ⟨x, 3, none⟩ (.int .i64 g.a)).setCell ⟨x, 4, none⟩ (.int .i64 g.b)).setCell ⟨x, 5, none⟩ (.int .i64 g.c)).setCell ⟨x, 6, none⟩ (.int .i64 g.d)).setCell ⟨x, 7, none⟩ (.int .i64 g.n)).setCell ⟨x, 8, none⟩ (.int .i64 g.v)).setCell ⟨x, 9, none⟩ t) = W') : C10 W' x g t ∧ (∀ k, k ≠ x → W'.heap[k]? = W.heap[k]?) ∧ W'.heap.size = W.heap.size ∧ (∀ b o, W'.frozen? ⟨b, o, none⟩ = W.frozen? ⟨b, o, none⟩) ∧
      (∀ (w : World) (r : Nat) (p K : Int), Turned r p K w W → r < w.heap.size → w.heap.size ≤ x → Turned r p K w W') := by
  obtain ⟨x0, c0, c1, c2, c3, c4, c5, c6, c7, c8, c9⟩ := hx
  refine ⟨?_, fun k hk => by subst hW; repeat rw [Below.heap_setCell _ _ _ _ (by dsimp only; omega)], by subst hW; simp [World.setCell], fun b o => by subst hW; simp [go_sem], fun w r p K h1 e3 e2 => ?_⟩
  · subst hW
    exact ⟨by simpa [World.setCell] using x0, by simp [go_sem, *], by simp [go_sem, *], by simp [go_sem, *], by simp [go_sem, *], by simp [go_sem, *], by simp [go_sem, *], by simp [go_sem, *], by simp [go_sem, *], by simp [go_sem, *], by simp [go_sem, *]⟩
  · subst hW
    repeat (first | (with_reducible refine turned_put ?_ e3 e2) | exact h1)

theorem Fo.app_size (f g : Fo) : (f.app g).size = f.size + g.size := by
  induction f with
  | nil => simp [Fo.app, Fo.size]
  | cons h s r _ ih => simp only [Fo.app, Fo.size, ih]; omega

def frow (h : FH) (s : Value) : List Value := [.int .i64 h.k, .int .i64 h.ak, .int .i64 h.am, .int .i64 h.a, .int .i64 h.b, .int .i64 h.c, .int .i64 h.d, .int .i64 h.n, .int .i64 h.v, s]
theorem frow_at {w : World} {b o : Nat} {h : FH} {s : Value} (hr : FRow w b o h s) : ∀ j u, (frow h s)[j]? = some u → w.cell? ⟨b, o + j, none⟩ = some u := by
  intro j u hj
  obtain ⟨r0, r1, r2, r3, r4, r5, r6, r7, r8, r9⟩ := hr
  match j, hj with
  | 0, hj | 1, hj | 2, hj | 3, hj | 4, hj | 5, hj | 6, hj | 7, hj | 8, hj | 9, hj => simp [frow] at hj; subst hj; assumption
  | j + 10, hj => simp [frow] at hj
theorem frow_of {w : World} {b o : Nat} {h : FH} {s : Value} (hc : ∀ j u, (frow h s)[j]? = some u → w.cell? ⟨b, o + j, none⟩ = some u) : FRow w b o h s :=
  ⟨hc 0 _ rfl, hc 1 _ rfl, hc 2 _ rfl, hc 3 _ rfl, hc 4 _ rfl, hc 5 _ rfl, hc 6 _ rfl, hc 7 _ rfl, hc 8 _ rfl, hc 9 _ rfl⟩
theorem frow_one (h : FH) {s : Value} (hs : s.oneCell' = true) : ∀ u ∈ frow h s, u.oneCell' = true := by
  intro u hu
  simp only [frow, List.mem_cons, List.not_mem_nil, or_false] at hu
  rcases hu with rfl | rfl | rfl | rfl | rfl | rfl | rfl | rfl | rfl | rfl <;> first | rfl | exact hs
theorem fel_cells {w : World} {P : Nat → Prop} : ∀ (f : Fo) (b o : Nat), FElP w P f b o → ∃ cs : List Value, cs.length = f.len * 10 ∧ (∀ j u, cs[j]? = some u → w.cell? ⟨b, o + j, none⟩ = some u) ∧ (∀ u ∈ cs, u.oneCell' = true) ∧
    ∀ (w' : World) (g o' : Nat), (∀ j u, cs[j]? = some u → w'.cell? ⟨g, o' + j, none⟩ = some u) → w.heap.size ≤ w'.heap.size → (∀ k, P k → k < w.heap.size → w'.heap[k]? = w.heap[k]?) → FElP w' P f g o' := by
  intro f
  induction f with
  | nil => intro b o _; exact ⟨[], rfl, fun j u h => by simp at h, fun u h => by simp at h, fun _ _ _ _ _ _ => trivial⟩
  | cons h s r _ ihr =>
    intro b o hf
    obtain ⟨⟨sl, hr, hsl⟩, hrest⟩ := hf
    obtain ⟨cs, hl, hc, h1, hback⟩ := ihr b (o + 10) hrest
    have hone : sl.oneCell' = true := by
      rcases hsl with ⟨_, x, cap, e, _⟩ | ⟨_, b', o', cap, e, _⟩
      · rw [e]; rfl
      · rw [e]; rfl
    have hfl : (frow h sl).length = 10 := rfl
    refine ⟨frow h sl ++ cs, by rw [List.length_append, hl, hfl, Fo.len]; omega, fun j u hj => ?_, fun u hu => ?_, fun w' g o' hcw hsz hk => ⟨⟨sl, ?_, ?_⟩, ?_⟩⟩
    · by_cases hj10 : j < 10
      · rw [List.getElem?_append_left (by rw [hfl]; exact hj10)] at hj
        exact frow_at hr j u hj
      · rw [List.getElem?_append_right (by rw [hfl]; omega), hfl] at hj
        have := hc (j - 10) u hj
        rw [show o + 10 + (j - 10) = o + j by omega] at this
        exact this
    · rcases List.mem_append.1 hu with hu | hu
      · exact frow_one h hone u hu
      · exact h1 u hu
    · refine frow_of fun j u hj => hcw j u ?_
      have hj10 : j < 10 := by have := (List.getElem?_eq_some_iff.1 hj).1; rwa [hfl] at this
      rw [List.getElem?_append_left (by rw [hfl]; exact hj10)]
      exact hj
    · rcases hsl with h0 | ⟨h0, b', o', cap, e, h1, h2, h3, h4, h5⟩
      · exact .inl h0
      · exact .inr ⟨h0, b', o', cap, e, h1, h2, h3, Nat.lt_of_lt_of_le h4 hsz, FElP.kept hsz hk (fun _ h => h) s b' o' h3 h4 h5⟩
    · refine hback w' g (o' + 10) (fun j u hj => ?_) hsz hk
      have := hcw (j + 10) u (by rw [List.getElem?_append_right (by rw [hfl]; omega), hfl, Nat.add_sub_cancel]; exact hj)
      rw [show o' + (j + 10) = o' + 10 + j by omega] at this
      exact this

def zh : FH := ⟨0, 0, 0, 0, 0, 0, 0, 0, 0⟩
theorem felp_mono {w : World} {P Q : Nat → Prop} (hq : ∀ k, P k → Q k) : ∀ (f : Fo) (b o : Nat), FElP w P f b o → FElP w Q f b o := by
  intro f
  induction f with
  | nil => intro _ _ _; trivial
  | cons h s r ihs ihr =>
    intro b o hf
    obtain ⟨⟨sl, hr, hsl⟩, hrest⟩ := hf
    refine ⟨⟨sl, hr, ?_⟩, ihr b (o + 10) hrest⟩
    rcases hsl with h0 | ⟨h0, b', o', cap, e, h1, h2, h3, h4, h5⟩
    · exact .inl h0
    · exact .inr ⟨h0, b', o', cap, e, h1, h2, hq _ h3, h4, ihs b' o' h5⟩
theorem FElP.app {w : World} {P : Nat → Prop} {b : Nat} : ∀ (f g : Fo) (o : Nat), FElP w P f b o → FElP w P g b (o + f.len * 10) → FElP w P (f.app g) b o := by
  intro f
  induction f with
  | nil => intro g o _ h; simpa [Fo.app, Fo.len] using h
  | cons h s r _ ih =>
    intro g o hf hg
    refine ⟨hf.1, ih g (o + 10) hf.2 ?_⟩
    have e : o + (Fo.cons h s r).len * 10 = o + 10 + r.len * 10 := by simp only [Fo.len]; omega
    rwa [e] at hg
theorem zero_news (w : World) : ∀ j u, (frow zh (.slice none 0 0))[j]? = some u → (w.alloc (.cells #[.int .i64 zh.k, .int .i64 zh.ak, .int .i64 zh.am, .int .i64 zh.a, .int .i64 zh.b, .int .i64 zh.c, .int .i64 zh.d, .int .i64 zh.n, .int .i64 zh.v, .slice none 0 0] 56)).cell? ((⟨w.heap.size, 0, none⟩ : Addr).add j) = some u := by
  intro j u hj
  match j, hj with
  | 0, hj | 1, hj | 2, hj | 3, hj | 4, hj | 5, hj | 6, hj | 7, hj | 8, hj | 9, hj => simp [frow] at hj; subst hj; simp [Addr.add]
  | j + 10, hj => simp [frow] at hj

/-- The first append of l3Bad: a copy of a list. -/
theorem append_copy {w : World} {P : Nat → Prop} {f : Fo} {s : Value} (hs : FSP w P f s) (hlen : f.len ≤ 2) (hnil : f.len = 0 → s = .slice none 0 0) :
    ∃ v1 W2 cs, (Builtin.append_ #[54, 54] 54 #[.slice (some ⟨w.heap.size, 0, none⟩) 0 0, s]).run Try.prog (w.alloc (.cells #[] 56)) = .ok v1 W2 ∧ W2.ownsRow w.heap.size 56 10 v1 f.len cs ∧ Below w.heap.size w W2 ∧
      (∀ (w' : World) (g o' : Nat), (∀ j u, cs[j]? = some u → w'.cell? ⟨g, o' + j, none⟩ = some u) → w.heap.size ≤ w'.heap.size → (∀ k, P k → k < w.heap.size → w'.heap[k]? = w.heap[k]?) → FElP w' P f g o') := by
  obtain ⟨i0, hi, hz0, hz1, hz2⟩ := info_parts Try.infoForm
  have hown : (w.alloc (.cells #[] 56)).ownsRow w.heap.size 56 10 (.slice (some ⟨w.heap.size, 0, none⟩) 0 0) 0 [] := by
    have := World.ownsRow_lit (base := w.heap.size) (e := 56) (size := 10) w #[] 0 (Nat.le_refl _) (Nat.zero_le _) rfl
    simpa using this
  have hbw : Below w.heap.size w (w.alloc (.cells #[] 56)) := by go_grown
  rcases hs with ⟨h0, _⟩ | ⟨h0, b, o, cap, rfl, h1, h2, h3, h4, h5⟩
  · have hs := hnil h0
    subst hs
    obtain rfl : f = .nil := Fo.len_zero h0
    exact ⟨_, _, [], run_append_owned_none (P := Try.prog) (w := w.alloc (.cells #[] 56)) w.heap.size 54 54 56 i0 10 Try.underlying54 hi _ 0 [] hown, hown, hbw, fun _ _ _ _ _ _ => trivial⟩
  · obtain ⟨cs, hl, hc, hone, hback⟩ := fel_cells f b o h5
    obtain ⟨v', w', hr, ho, hg, _⟩ := run_append_own (P := Try.prog) (w := w.alloc (.cells #[] 56)) w.heap.size 54 54 56 i0 _ 10 96 Try.underlying54 hi hz0 hz1 hz2 rfl (by decide) _ 0 [] hown ⟨b, o, none⟩ f.len cap cs hl (fun j u hj => by
        have h := hc j u hj
        have e : (⟨b, o, none⟩ : Addr).add j = ⟨b, o + j, none⟩ := by unfold Addr.add; split <;> simp_all
        rw [e]
        exact ((bcell hbw).1 b (o + j) h4).trans h) hone (by unfold maxLen; omega) (by omega) (by simp)
    exact ⟨v', w', cs, hr, by simpa using ho, grown_below3 hbw hown (Nat.le_refl _) hg, hback⟩

/-- The two appends of l3Bad: a copy of a list with one formula more. -/
theorem two_appends {w : World} {P : Nat → Prop} {f : Fo} {s : Value} (hs : FSP w P f s) (hlen : f.len ≤ 2) (hnil : f.len = 0 → s = .slice none 0 0) :
    ∃ v1 W2, (Builtin.append_ #[54, 54] 54 #[.slice (some ⟨w.heap.size, 0, none⟩) 0 0, s]).run Try.prog (w.alloc (.cells #[] 56)) = .ok v1 W2 ∧
      ∃ g cap W3, (Builtin.append_ #[54, 54] 54 #[v1, .slice (some ⟨W2.heap.size, 0, none⟩) 1 1]).run Try.prog (W2.alloc (.cells #[.int .i64 zh.k, .int .i64 zh.ak, .int .i64 zh.am, .int .i64 zh.a, .int .i64 zh.b, .int .i64 zh.c, .int .i64 zh.d, .int .i64 zh.n, .int .i64 zh.v, .slice none 0 0] 56)) = .ok (.slice (some ⟨g, 0, none⟩) (f.len + 1) cap) W3 ∧
        Below w.heap.size w W3 ∧ FSP W3 (fun k => P k ∨ w.heap.size ≤ k) (f.app (.cons zh .nil .nil)) (.slice (some ⟨g, 0, none⟩) (f.len + 1) cap) := by
  obtain ⟨v1, W2, cs, hr1, ho1, hb1, hback⟩ := append_copy hs hlen hnil
  obtain ⟨i0, hi, hz0, hz1, hz2⟩ := info_parts Try.infoForm
  obtain ⟨v2, W3, hr2, ho2, hg2, _⟩ := append_row (P := Try.prog) (ty := 54) Try.underlying54 hi hz0 hz1 hz2 rfl (by decide) (ho1.alloc (.cells #[.int .i64 zh.k, .int .i64 zh.ak, .int .i64 zh.am, .int .i64 zh.a, .int .i64 zh.b, .int .i64 zh.c, .int .i64 zh.d, .int .i64 zh.n, .int .i64 zh.v, .slice none 0 0] 56)) (a := ⟨W2.heap.size, 0, none⟩) (row := frow zh (.slice none 0 0)) rfl (zero_news W2) (frow_one zh rfl) (by omega) (by omega) (by have := hb1.size; simp; omega)
  have hb2 : Below w.heap.size w W3 := grown_below3 (below_on hb1 (show Below W2.heap.size W2 (W2.alloc (.cells #[.int .i64 zh.k, .int .i64 zh.ak, .int .i64 zh.am, .int .i64 zh.a, .int .i64 zh.b, .int .i64 zh.c, .int .i64 zh.d, .int .i64 zh.n, .int .i64 zh.v, .slice none 0 0] 56)) by go_grown)) (ho1.alloc _) (Nat.le_refl _) hg2
  obtain ⟨g, cap, rfl⟩ := own_some ho2 (fun e => by
    rcases ho2.2 with ⟨_, h0⟩ | ⟨g, cap, cur, e0, _⟩
    · omega
    · rw [e] at e0; simp at e0)
  have hlt := ho2.lt g rfl
  have hcap : f.len + 1 ≤ cap ∧ cap ≤ maxLen := by
    rcases ho2.2 with ⟨e, _⟩ | ⟨g', cap', cur, e, _, _, h1, h2, _⟩
    · simp at e
    · injection e with _ _ e3
      subst e3
      exact ⟨h1, h2⟩
  have hcell : ∀ j u, (cs ++ frow zh (.slice none 0 0))[j]? = some u → W3.cell? ⟨g, j, none⟩ = some u := by
    intro j u hj
    have hj' : j < (f.len + 1) * 10 := by
      have h := (List.getElem?_eq_some_iff.1 hj).1
      have h1 := ho2.1
      omega
    exact (ho2.cellAt j hj').trans hj
  have hl : cs.length = f.len * 10 := ho1.1
  refine ⟨v1, W2, hr1, g, cap, W3, hr2, hb2, .inr ⟨by rw [Fo.app_len]; simp [Fo.len], g, 0, cap, by rw [Fo.app_len]; rfl, by rw [Fo.app_len]; exact hcap.1, hcap.2, .inr hlt.1, hlt.2, ?_⟩⟩
  refine FElP.app f _ 0 ?_ ⟨⟨.slice none 0 0, frow_of fun j u hj => ?_, .inl ⟨rfl, none, 0, rfl, Nat.le_refl _, Nat.zero_le _⟩⟩, trivial⟩
  · have hf : FElP W3 P f g 0 := hback W3 g 0 (fun j u hj => by rw [Nat.zero_add]; exact hcell j u (by rw [List.getElem?_append_left (List.getElem?_eq_some_iff.1 hj).1]; exact hj)) hb2.size (fun k _ hk => hb2.block k hk)
    exact felp_mono (fun _ h => .inl h) f g 0 hf
  · have h := hcell (cs.length + j) u (by rw [List.getElem?_append_right (Nat.le_add_right _ _), Nat.add_sub_cancel_left]; exact hj)
    rw [hl] at h
    rw [Nat.zero_add]
    exact h

/-- While l3Bad turns a formula: its box, the result's box, and that only the reader has turned. -/
def BX (w : World) (r : Nat) (p K : Int) (h : FH) (s : Value) (W : World) : Prop :=
  C10 W w.heap.size h s ∧ (∀ o, W.frozen? ⟨w.heap.size, o, none⟩ = false) ∧ C10 W (w.heap.size + 1) ⟨0, 0, 0, 0, 0, 0, 0, 0, 0⟩ (.slice none 0 0) ∧ (∀ o, W.frozen? ⟨w.heap.size + 1, o, none⟩ = false) ∧ Turned r p K w W ∧ r < w.heap.size
theorem bx_turn {w W W' : World} {r : Nat} {p q K K' : Int} {h : FH} {s : Value} (hx : BX w r p K h s W) (ht : Turned r q K' W W') (hR : Rd W r q) (q0 : p ≤ q) (q1 : q ≤ p + K) : BX w r p (K + K') h s W' := by
  obtain ⟨h1, h2, h3, h4, h5, h6⟩ := hx
  exact ⟨c10_only h1 ht.1 (by omega), (fz_only (Lib.hid h2) ht.1 h1.1 (by omega)).out, c10_only h3 ht.1 (by omega), (fz_only (Lib.hid h4) ht.1 h3.1 (by omega)).out, turned_two h5 hR ht q0 q1, h6⟩
theorem bx_below {w W W' : World} {r : Nat} {p K : Int} {h : FH} {s : Value} (hx : BX w r p K h s W) (hb : Below W.heap.size W W') : BX w r p K h s W' := by
  obtain ⟨h1, h2, h3, h4, h5, h6⟩ := hx
  exact ⟨c10_on h1 hb, fun o => ((bcell hb).2 _ o h1.1).trans (h2 o), c10_on h3 hb, fun o => ((bcell hb).2 _ o h3.1).trans (h4 o), turned_below h5 hb, h6⟩
theorem bx_rd {w W : World} {r : Nat} {p K : Int} {h : FH} {s : Value} (hx : BX w r p K h s W) : ∃ q, p ≤ q ∧ q ≤ p + K ∧ Rd W r q := by
  obtain ⟨_, _, _, _, ⟨_, q, q0, q1, hR⟩, _⟩ := hx
  exact ⟨q, q0, q1, hR⟩
theorem bx_one {w W : World} {r o : Nat} {p K : Int} {h g : FH} {s t v : Value} (hx : BX w r p K h s W) (hc : C10 W w.heap.size h s → C10 (W.setCell ⟨w.heap.size, o, none⟩ v) w.heap.size g t) : BX w r p K g t (W.setCell ⟨w.heap.size, o, none⟩ v) := by
  obtain ⟨h1, h2, h3, h4, h5, h6⟩ := hx
  refine ⟨hc h1, fun o => by simp [go_sem, h2 o], ?_, fun o => by simp [go_sem, h4 o], turned_put h5 h6 (Nat.le_refl _), h6⟩
  obtain ⟨g0, c0, c1, c2, c3, c4, c5, c6, c7, c8, c9⟩ := h3
  have far : ∀ i, (W.setCell ⟨w.heap.size, o, none⟩ v).cell? ⟨w.heap.size + 1, i, none⟩ = W.cell? ⟨w.heap.size + 1, i, none⟩ := fun i => cell_far (by omega)
  exact ⟨by simpa [World.setCell] using g0, (far _).trans c0, (far _).trans c1, (far _).trans c2, (far _).trans c3, (far _).trans c4, (far _).trans c5, (far _).trans c6, (far _).trans c7, (far _).trans c8, (far _).trans c9⟩
/-- Ten cells are stored into the formula's box. -/
theorem bx_ten {w W W' : World} {r : Nat} {p K : Int} {h g : FH} {s t : Value} (hx : BX w r p K h s W) (hW : ((((((((((W.setCell ⟨w.heap.size, 0, none⟩ (.int .i64 g.k)).setCell ⟨w.heap.size, 1, none⟩ (.int .i64 g.ak)).setCell ⟨w.heap.size, 2, none⟩ (.int .i64 g.am)).setCell ⟨w.heap.size, 3, none⟩ (.int .i64 g.a)).setCell ⟨w.heap.size, 4, none⟩ (.int .i64 g.b)).setCell ⟨w.heap.size, 5, none⟩ (.int .i64 g.c)).setCell ⟨w.heap.size, 6, none⟩ (.int .i64 g.d)).setCell ⟨w.heap.size, 7, none⟩ (.int .i64 g.n)).setCell ⟨w.heap.size, 8, none⟩ (.int .i64 g.v)).setCell ⟨w.heap.size, 9, none⟩ t) = W') : BX w r p K g t W' ∧ (∀ k, k ≠ w.heap.size → W'.heap[k]? = W.heap[k]?) ∧ W'.heap.size = W.heap.size := by
  obtain ⟨h1, h2, h3, h4, h5, h6⟩ := hx
  obtain ⟨a1, a2, a3, a4, a5⟩ := ten_put h1 hW
  exact ⟨⟨a1, fun o => (a4 _ o).trans (h2 o), c10_block (by omega) (a2 _ (by omega)) h3, fun o => (a4 _ o).trans (h4 o), a5 _ _ _ _ h5 h6 (Nat.le_refl _), h6⟩, a2, a3⟩

/-- Blocks that are none of the two boxes'. -/
def NB (w : World) (lo k : Nat) : Prop := lo ≤ k ∧ k ≠ w.heap.size ∧ k ≠ w.heap.size + 1

def BadT (r : Nat) (p K : Int) (lo : Nat) (w : World) (e : Ending) (w' : World) : Prop := ∃ (h : FH) (f : Fo) (s : Value), e = .returned (.agg #[.int .i64 h.k, .int .i64 h.ak, .int .i64 h.am, .int .i64 h.a, .int .i64 h.b, .int .i64 h.c, .int .i64 h.d, .int .i64 h.n, .int .i64 h.v, s]) ∧ FS w' lo f s ∧ f.size ≤ 1400 ∧ Turned r p K w w'

def BadR (w : World) (r : Nat) (p K : Int) (lo : Nat) (n : Nat) (wr : World) : Prop := ∃ (h : FH) (f : Fo) (s : Value), BX w r p K h s wr ∧ FSP wr (NB w lo) f s ∧ n = 1300 - f.size ∧ f.size ≤ 1300

set_option maxRecDepth 10000 in
set_option maxHeartbeats 4000000 in
theorem l3Bad_t (r : Nat) (p : Int) (lo : Nat) (h : FH) (f : Fo) (s : Value) (w : World) (hR : Rd w r p) (hp : p ≤ 900000) (hs : FS w lo f s) (hlo : r < lo) (hlw : lo ≤ w.heap.size) (hsz : f.size ≤ 400) (hlen : f.len ≤ 2) (hnil : f.len = 0 → s = .slice none 0 0) :
    Calls Try.prog 127 #[.pointer (some ⟨r, 0, none⟩), .agg #[.int .i64 h.k, .int .i64 h.ak, .int .i64 h.am, .int .i64 h.a, .int .i64 h.b, .int .i64 h.c, .int .i64 h.d, .int .i64 h.n, .int .i64 h.v, s]] w (BadT r p 2 lo w) := by
  have hr := rd_lt hR
  have H := Lib.hid hR
  have HS := Lib.hid hs
  have HNIL := Lib.hid hnil
  obtain ⟨sa, sn, sc, rfl⟩ := hs.slice
  clear hR hs hnil
  go_enter Try.func127, Try.ntmps127
  go_wp2_with fail
  generalize hW : World.alloc _ _ = W
  have hb : BX w r p 0 h (.slice sa sn sc) W := by
    have hb0 : Below w.heap.size w W := by subst hW; go_grown
    exact ⟨by subst hW; exact (by refine ⟨?_, ?_, ?_, ?_, ?_, ?_, ?_, ?_, ?_, ?_, ?_⟩ <;> first | (simp [go_sem]; done) | (simp; omega)), by intro o; subst hW; simp [go_sem], by subst hW; exact (by refine ⟨?_, ?_, ?_, ?_, ?_, ?_, ?_, ?_, ?_, ?_, ?_⟩ <;> first | (simp [go_sem]; done) | (simp; omega)), by intro o; subst hW; simp [go_sem], turned_below (turned_none H.out) hb0, hr⟩
  have hR0 : Rd W r p := rd_on H.out (by subst hW; go_grown)
  clear hW
  refine (pick_t r p 40 W hR0 (by omega)).mono ?_
  rintro e w1 ⟨c, rfl, c0, c1, ht1⟩
  have HB1 := Lib.hid (bx_turn hb ht1 hR0 (by omega) (by omega))
  clear ht1 hR0 hb c1
  obtain ⟨q1, p2, p3, hR1⟩ := bx_rd HB1.out
  have HR1 := Lib.hid hR1
  clear hR1
  by_cases h0 : c = 0
  · subst h0
    go_wp2_with fail
    refine (num_new r q1 [-1, 8, 0, 3] 4 _ w1 HR1.out (by omega) rfl rfl (by simp) (by simp)).mono ?_
    rintro e w2 ⟨y, rfl, _, ht2⟩
    have hb2 := bx_turn HB1.out ht2 HR1.out p2 p3
    have HB2 := Lib.hid hb2
    obtain ⟨⟨u0, u1, u2, u3, u4, u5, u6, u7, u8, u9, u10⟩, ufz, _⟩ := hb2
    clear ht2
    go_upto_region 13 with fail
    generalize hW3 : World.setCell _ _ _ = W3
    have hb3 : BX w r p 2 ⟨y, h.ak, h.am, h.a, h.b, h.c, h.d, h.n, h.v⟩ (.slice sa sn sc) W3 := by
      subst hW3
      refine bx_one (K := 2) HB2.out (fun _ => ?_)
      exact ⟨by simpa [World.setCell] using u0, by simp [go_sem, *], by simp [go_sem, *], by simp [go_sem, *], by simp [go_sem, *], by simp [go_sem, *], by simp [go_sem, *], by simp [go_sem, *], by simp [go_sem, *], by simp [go_sem, *], by simp [go_sem, *]⟩
    clear hW3 u0 u1 u2 u3 u4 u5 u6 u7 u8 u9 u10 ufz
    obtain ⟨⟨u0, u1, u2, u3, u4, u5, u6, u7, u8, u9, u10⟩, ufz, ⟨v0, v1, v2, v3, v4, v5, v6, v7, v8, v9, v10⟩, vfz, _, _⟩ := id hb3
    go_upto_region 20 with fail
    (generalize hW9 : World.setCell _ _ _ = W9)
    obtain ⟨⟨z0, y0, y1, y2, y3, y4, y5, y6, y7, y8, y9⟩, hk9, hs9, _, ht9⟩ := ten_put (g := ⟨y, h.ak, h.am, h.a, h.b, h.c, h.d, h.n, h.v⟩) hb3.2.2.1 hW9
    have hT9 := ht9 w r p _ hb3.2.2.2.2.1 hr (by omega)
    clear hW9 u0 u1 u2 u3 u4 u5 u6 u7 u8 u9 u10 v0 v1 v2 v3 v4 v5 v6 v7 v8 v9 v10
    go_wp2
    refine bodyPost_ret (v := .agg #[.int .i64 y, .int .i64 h.ak, .int .i64 h.am, .int .i64 h.a, .int .i64 h.b, .int .i64 h.c, .int .i64 h.d, .int .i64 h.n, .int .i64 h.v, .slice sa sn sc]) (by simp [results, Try.results127, go_sem, y0, y1, y2, y3, y4, y5, y6, y7, y8, y9]) rfl ⟨⟨y, h.ak, h.am, h.a, h.b, h.c, h.d, h.n, h.v⟩, f, .slice sa sn sc, rfl, fs_turned HS.out hT9 hlo, by omega, turned_more hT9 (by omega)⟩
  have e0 : (c == 0) = false := by simpa using h0
  by_cases h1 : c = 1
  · subst h1
    go_wp2_with fail
    refine (num_new r q1 [-1, 4, 1, 9223372036854775807] 4 _ w1 HR1.out (by omega) rfl rfl (by simp) (by simp)).mono ?_
    rintro e w2 ⟨y, rfl, _, ht2⟩
    have hb2 := bx_turn HB1.out ht2 HR1.out p2 p3
    have HB2 := Lib.hid hb2
    obtain ⟨⟨u0, u1, u2, u3, u4, u5, u6, u7, u8, u9, u10⟩, ufz, _⟩ := hb2
    clear ht2
    go_upto_region 13 with fail
    generalize hW3 : World.setCell _ _ _ = W3
    have hb3 : BX w r p 2 ⟨h.k, h.ak, h.am, h.a, h.b, h.c, h.d, h.n, y⟩ (.slice sa sn sc) W3 := by
      subst hW3
      refine bx_one (K := 2) HB2.out (fun _ => ?_)
      exact ⟨by simpa [World.setCell] using u0, by simp [go_sem, *], by simp [go_sem, *], by simp [go_sem, *], by simp [go_sem, *], by simp [go_sem, *], by simp [go_sem, *], by simp [go_sem, *], by simp [go_sem, *], by simp [go_sem, *], by simp [go_sem, *]⟩
    clear hW3 u0 u1 u2 u3 u4 u5 u6 u7 u8 u9 u10 ufz
    obtain ⟨⟨u0, u1, u2, u3, u4, u5, u6, u7, u8, u9, u10⟩, ufz, ⟨v0, v1, v2, v3, v4, v5, v6, v7, v8, v9, v10⟩, vfz, _, _⟩ := id hb3
    go_upto_region 20 with fail
    (generalize hW9 : World.setCell _ _ _ = W9)
    obtain ⟨⟨z0, y0, y1, y2, y3, y4, y5, y6, y7, y8, y9⟩, hk9, hs9, _, ht9⟩ := ten_put (g := ⟨h.k, h.ak, h.am, h.a, h.b, h.c, h.d, h.n, y⟩) hb3.2.2.1 hW9
    have hT9 := ht9 w r p _ hb3.2.2.2.2.1 hr (by omega)
    clear hW9 u0 u1 u2 u3 u4 u5 u6 u7 u8 u9 u10 v0 v1 v2 v3 v4 v5 v6 v7 v8 v9 v10
    go_wp2
    refine bodyPost_ret (v := .agg #[.int .i64 h.k, .int .i64 h.ak, .int .i64 h.am, .int .i64 h.a, .int .i64 h.b, .int .i64 h.c, .int .i64 h.d, .int .i64 h.n, .int .i64 y, .slice sa sn sc]) (by simp [results, Try.results127, go_sem, y0, y1, y2, y3, y4, y5, y6, y7, y8, y9]) rfl ⟨⟨h.k, h.ak, h.am, h.a, h.b, h.c, h.d, h.n, y⟩, f, .slice sa sn sc, rfl, fs_turned HS.out hT9 hlo, by omega, turned_more hT9 (by omega)⟩
  have e1 : (c == 1) = false := by simpa using h1
  by_cases h2 : c = 2
  · subst h2
    go_wp2_with fail
    refine (pick_t r q1 3 w1 HR1.out (by omega)).mono ?_
    rintro e w2 ⟨y, rfl, _, _, ht2⟩
    have hb2 := bx_turn HB1.out ht2 HR1.out p2 p3
    have HB2 := Lib.hid hb2
    obtain ⟨⟨u0, u1, u2, u3, u4, u5, u6, u7, u8, u9, u10⟩, ufz, _⟩ := hb2
    clear ht2
    go_upto_region 13 with fail
    generalize hW3 : World.setCell _ _ _ = W3
    have hb3 : BX w r p 2 ⟨h.k, h.ak, y, h.a, h.b, h.c, h.d, h.n, h.v⟩ (.slice sa sn sc) W3 := by
      subst hW3
      refine bx_one (K := 2) HB2.out (fun _ => ?_)
      exact ⟨by simpa [World.setCell] using u0, by simp [go_sem, *], by simp [go_sem, *], by simp [go_sem, *], by simp [go_sem, *], by simp [go_sem, *], by simp [go_sem, *], by simp [go_sem, *], by simp [go_sem, *], by simp [go_sem, *], by simp [go_sem, *]⟩
    clear hW3 u0 u1 u2 u3 u4 u5 u6 u7 u8 u9 u10 ufz
    obtain ⟨⟨u0, u1, u2, u3, u4, u5, u6, u7, u8, u9, u10⟩, ufz, ⟨v0, v1, v2, v3, v4, v5, v6, v7, v8, v9, v10⟩, vfz, _, _⟩ := id hb3
    go_upto_region 20 with fail
    (generalize hW9 : World.setCell _ _ _ = W9)
    obtain ⟨⟨z0, y0, y1, y2, y3, y4, y5, y6, y7, y8, y9⟩, hk9, hs9, _, ht9⟩ := ten_put (g := ⟨h.k, h.ak, y, h.a, h.b, h.c, h.d, h.n, h.v⟩) hb3.2.2.1 hW9
    have hT9 := ht9 w r p _ hb3.2.2.2.2.1 hr (by omega)
    clear hW9 u0 u1 u2 u3 u4 u5 u6 u7 u8 u9 u10 v0 v1 v2 v3 v4 v5 v6 v7 v8 v9 v10
    go_wp2
    refine bodyPost_ret (v := .agg #[.int .i64 h.k, .int .i64 h.ak, .int .i64 y, .int .i64 h.a, .int .i64 h.b, .int .i64 h.c, .int .i64 h.d, .int .i64 h.n, .int .i64 h.v, .slice sa sn sc]) (by simp [results, Try.results127, go_sem, y0, y1, y2, y3, y4, y5, y6, y7, y8, y9]) rfl ⟨⟨h.k, h.ak, y, h.a, h.b, h.c, h.d, h.n, h.v⟩, f, .slice sa sn sc, rfl, fs_turned HS.out hT9 hlo, by omega, turned_more hT9 (by omega)⟩
  have e2 : (c == 2) = false := by simpa using h2
  by_cases h3 : c = 3
  · subst h3
    have HST := Lib.hid (show ∃ n, BadR w r p 1 lo n w1 from ⟨_, h, f, .slice sa sn sc, HB1.out, FSP.kept (Q := NB w lo) HB1.out.2.2.2.2.1.1.size (fun k hk _ => HB1.out.2.2.2.2.1.1.block k hk.2 (by intro e; injection e with e; omega)) (fun k hk => ⟨hk.1, by omega, by omega⟩) (FSP.of HS.out), rfl, by omega⟩)
    go_upto_region 9 with fail
    go_loopw [] (fun wr => ∃ n, BadR w r p 1 lo n wr) (fun wr => leastN (fun n => BadR w r p 1 lo n wr))
    case atStart => exact HST.out
    case round =>
      clear HST
      have HL := Lib.hid (least_spec hrel)
      obtain ⟨h', f', s', hbx, hfs, hn, hsz'⟩ := least_spec hrel
      obtain ⟨a', n', cp', rfl⟩ := hfs.slice
      have HBX := Lib.hid hbx
      have HFS := Lib.hid hfs
      have HN := Lib.hid hn
      obtain ⟨⟨u0, u1, u2, u3, u4, u5, u6, u7, u8, u9, u10⟩, ufz, _⟩ := id hbx
      clear hrel hn hbx
      cases hv : vfB h' f' with
      | false =>
        have HC : Hid (Calls Try.prog 152 #[.agg #[.int .i64 h'.k, .int .i64 h'.ak, .int .i64 h'.am, .int .i64 h'.a, .int .i64 h'.b, .int .i64 h'.c, .int .i64 h'.d, .int .i64 h'.n, .int .i64 h'.v, .slice a' n' cp']] wr (IntT (-1) wr)) := by
          have hI : nnI h' f' = -1 := by unfold nnI; rw [if_neg (by rw [hv]; simp)]
          have := specNodeCount_any h' f' wr lo _ (FSP.to (fun k hk => hk.1) hfs)
          rw [hI] at this
          exact this
        clear hfs
        go_wp2_with fail
        refine HC.out.mono ?_
        rintro e w4 ⟨rfl, hb4⟩
        have hb4x := bx_below HBX.out hb4
        have HFS4 := Lib.hid (FSP.kept (Q := NB w lo) hb4.size (fun k _ hk => hb4.block k hk) (fun _ h => h) HFS.out)
        clear u0 u1 u2 u3 u4 u5 u6 u7 u8 u9 u10 ufz
        obtain ⟨⟨u0, u1, u2, u3, u4, u5, u6, u7, u8, u9, u10⟩, ufz, ⟨v0, v1, v2, v3, v4, v5, v6, v7, v8, v9, v10⟩, vfz, _, _⟩ := id hb4x
        go_upto_region 20 with fail
        (generalize hW9 : World.setCell _ _ _ = W9)
        obtain ⟨⟨z0, y0, y1, y2, y3, y4, y5, y6, y7, y8, y9⟩, hk9, hs9, _, ht9⟩ := ten_put (g := h') hb4x.2.2.1 hW9
        have hT9 := ht9 w r p _ hb4x.2.2.2.2.1 hr (by omega)
        clear hW9 u0 u1 u2 u3 u4 u5 u6 u7 u8 u9 u10 v0 v1 v2 v3 v4 v5 v6 v7 v8 v9 v10
        go_wp2
        refine bodyPost_ret (v := .agg #[.int .i64 h'.k, .int .i64 h'.ak, .int .i64 h'.am, .int .i64 h'.a, .int .i64 h'.b, .int .i64 h'.c, .int .i64 h'.d, .int .i64 h'.n, .int .i64 h'.v, .slice a' n' cp']) (by simp [results, Try.results127, go_sem, y0, y1, y2, y3, y4, y5, y6, y7, y8, y9]) rfl ⟨h', f', (.slice a' n' cp'), rfl, FSP.to (fun k hk => hk.1) (FSP.kept (Q := NB w lo) (Nat.le_of_eq hs9.symm) (fun k hk _ => hk9 k hk.2.2) (fun _ h => h) HFS4.out), by omega, turned_more hT9 (by omega)⟩
      | true =>
        obtain ⟨_, _, h6⟩ := vf_parts hv
        obtain ⟨q, hq⟩ : ∃ q : Nat, f'.size + 1 = q := ⟨_, rfl⟩
        have hq0 : (0 : Int) < (q : Int) := by omega
        have HC : Hid (Calls Try.prog 152 #[.agg #[.int .i64 h'.k, .int .i64 h'.ak, .int .i64 h'.am, .int .i64 h'.a, .int .i64 h'.b, .int .i64 h'.c, .int .i64 h'.d, .int .i64 h'.n, .int .i64 h'.v, .slice a' n' cp']] wr (IntT (q : Int) wr)) := by
          have hI : nnI h' f' = (q : Int) := by unfold nnI; rw [if_pos hv]; omega
          have := specNodeCount_any h' f' wr lo _ (FSP.to (fun k hk => hk.1) hfs)
          rw [hI] at this
          exact this
        have HQ := Lib.hid hq
        clear hfs hq
        go_wp2_with fail
        refine HC.out.mono ?_
        rintro e w4 ⟨rfl, hb4⟩
        have hb4x := bx_below HBX.out hb4
        have HB4 := Lib.hid hb4x
        have HFS4 := Lib.hid (FSP.kept (Q := NB w lo) hb4.size (fun k _ hk => hb4.block k hk) (fun _ h => h) HFS.out)
        clear u0 u1 u2 u3 u4 u5 u6 u7 u8 u9 u10 ufz hb4
        obtain ⟨⟨u0, u1, u2, u3, u4, u5, u6, u7, u8, u9, u10⟩, ufz, ⟨v0, _⟩, _⟩ := hb4x
        go_wp2_with fail
        refine (l3Two_p (NB w lo) 4 h' h' f' f' _ _ w4 HFS4.out HFS4.out).mono ?_
        rintro e w5 ⟨s5, rfl, hs5, hb5⟩
        obtain ⟨a5, n5, c5, rfl⟩ := hs5.slice
        have HB5 := Lib.hid (bx_below HB4.out hb5)
        have HFS5 := Lib.hid (FSP.kept (w' := w5) (Q := NB w lo) (Nat.le_refl _) (fun _ _ _ => rfl) (fun k hk => by
          rcases hk with hk | hk
          · exact hk
          · exact ⟨by omega, by omega, by omega⟩) hs5)
        clear u0 u1 u2 u3 u4 u5 u6 u7 u8 u9 u10 ufz v0 hs5 hb5
        obtain ⟨⟨u0, u1, u2, u3, u4, u5, u6, u7, u8, u9, u10⟩, ufz, _⟩ := id HB5.out
        go_upto_region 20 with fail
        (generalize hW6 : World.setCell _ _ _ = W6)
        obtain ⟨hb6, hk6, hs6⟩ := bx_ten (g := ⟨4, 0, 0, 0, 0, 0, 0, 0, 0⟩) HB5.out hW6
        have HNEW : Hid (BadR w r p 1 lo (1300 - (Fo.cons h' f' (.cons h' f' .nil)).size) W6) := ⟨_, _, _, hb6, FSP.kept (Q := NB w lo) (Nat.le_of_eq hs6.symm) (fun k hk _ => hk6 k hk.2.1) (fun _ h => h) HFS5.out, rfl, by simp only [Fo.size]; omega⟩
        clear hW6 u0 u1 u2 u3 u4 u5 u6 u7 u8 u9 u10 ufz hb6 hk6 hs6
        go_roundw
        case rel => exact ⟨_, HNEW.out⟩
        case measure =>
          refine Nat.lt_of_le_of_lt (least_le HNEW.out) ?_
          have h1 := HN.out
          have h2 := HQ.out
          simp only [Fo.size]
          omega
  have e3 : (c == 3) = false := by simpa using h3
  by_cases h4 : c = 4
  · subst h4
    have hfs1 : FSP w1 (NB w lo) f (.slice sa sn sc) := FSP.kept (Q := NB w lo) HB1.out.2.2.2.2.1.1.size (fun k hk _ => HB1.out.2.2.2.2.1.1.block k hk.2 (by intro e; injection e with e; omega)) (fun k hk => ⟨hk.1, by omega, by omega⟩) (FSP.of HS.out)
    obtain ⟨v1, W2, hr1, g, cap, W3, hr2, hb3, hfs3⟩ := two_appends hfs1 hlen HNIL.out
    have HRA := Lib.hid hr1
    have HRB := Lib.hid hr2
    have HFS3 := Lib.hid hfs3
    have hbx3 := bx_below HB1.out hb3
    have HB3 := Lib.hid hbx3
    have hs1 : w.heap.size + 1 < w1.heap.size := HB1.out.2.2.1.1
    obtain ⟨⟨u0, u1, u2, u3, u4, u5, u6, u7, u8, u9, u10⟩, ufz, _⟩ := id HB1.out
    obtain ⟨⟨x0, x1, x2, x3, x4, x5, x6, x7, x8, x9, x10⟩, xfz, _⟩ := hbx3
    clear hr1 hr2 hfs1 hfs3 hb3
    go_upto_region 13 with (at_builtin; first | refine wpList_append_run rfl _ _ 54 rfl rfl rfl HRA.out ?_ | refine wpList_append_run rfl _ _ 54 rfl rfl rfl HRB.out ?_)
    generalize hW4 : World.setCell _ _ _ = W4
    have hk4 : ∀ k, k ≠ w.heap.size → W4.heap[k]? = W3.heap[k]? := fun k hk => by subst hW4; exact Below.heap_setCell _ _ _ _ (by dsimp only; omega)
    have hs4 : W4.heap.size = W3.heap.size := by subst hW4; simp [World.setCell]
    have hb4 : BX w r p 1 h (.slice (some ⟨g, 0, none⟩) (f.len + 1) cap) W4 := by
      subst hW4
      refine bx_one (K := 1) HB3.out (fun _ => ?_)
      exact ⟨by simpa [World.setCell] using x0, by simp [go_sem, *], by simp [go_sem, *], by simp [go_sem, *], by simp [go_sem, *], by simp [go_sem, *], by simp [go_sem, *], by simp [go_sem, *], by simp [go_sem, *], by simp [go_sem, *], by simp [go_sem, *]⟩
    have hpk : ∀ k, (NB w lo k ∨ w1.heap.size ≤ k) → NB w lo k := by
      intro k hk
      rcases hk with hk | hk
      · exact hk
      · exact ⟨by omega, by omega, by omega⟩
    have HF4 := Lib.hid (FSP.kept (Q := NB w lo) (Nat.le_of_eq hs4.symm) (fun k hk _ => hk4 k (hpk k hk).2.1) hpk HFS3.out)
    clear hW4 hpk u0 u1 u2 u3 u4 u5 u6 u7 u8 u9 u10 ufz x0 x1 x2 x3 x4 x5 x6 x7 x8 x9 x10 xfz
    obtain ⟨⟨u0, u1, u2, u3, u4, u5, u6, u7, u8, u9, u10⟩, ufz, ⟨v0, v1, v2, v3, v4, v5, v6, v7, v8, v9, v10⟩, vfz, _, _⟩ := id hb4
    go_upto_region 20 with fail
    (generalize hW9 : World.setCell _ _ _ = W9)
    obtain ⟨⟨z0, y0, y1, y2, y3, y4, y5, y6, y7, y8, y9⟩, hk9, hs9, _, ht9⟩ := ten_put (g := h) hb4.2.2.1 hW9
    have hT9 := ht9 w r p _ hb4.2.2.2.2.1 hr (by omega)
    clear hW9 u0 u1 u2 u3 u4 u5 u6 u7 u8 u9 u10 v0 v1 v2 v3 v4 v5 v6 v7 v8 v9 v10
    go_wp2
    refine bodyPost_ret (v := .agg #[.int .i64 h.k, .int .i64 h.ak, .int .i64 h.am, .int .i64 h.a, .int .i64 h.b, .int .i64 h.c, .int .i64 h.d, .int .i64 h.n, .int .i64 h.v, .slice (some ⟨g, 0, none⟩) (f.len + 1) cap]) (by simp [results, Try.results127, go_sem, y0, y1, y2, y3, y4, y5, y6, y7, y8, y9]) rfl ⟨h, (f.app (.cons zh .nil .nil)), (.slice (some ⟨g, 0, none⟩) (f.len + 1) cap), rfl, FSP.to (fun k hk => hk.1) (FSP.kept (Q := NB w lo) (Nat.le_of_eq hs9.symm) (fun k hk _ => hk9 k hk.2.2) (fun _ h => h) HF4.out), by rw [Fo.app_size]; simp only [Fo.size]; omega, turned_more hT9 (by omega)⟩
  have e4 : (c == 4) = false := by simpa using h4
  obtain ⟨⟨u0, u1, u2, u3, u4, u5, u6, u7, u8, u9, u10⟩, ufz, ⟨v0, v1, v2, v3, v4, v5, v6, v7, v8, v9, v10⟩, vfz, _, _⟩ := id HB1.out
  go_upto_region 20 with fail
  (generalize hW9 : World.setCell _ _ _ = W9)
  obtain ⟨⟨z0, y0, y1, y2, y3, y4, y5, y6, y7, y8, y9⟩, hk9, hs9, _, ht9⟩ := ten_put (g := h) HB1.out.2.2.1 hW9
  have hT9 := ht9 w r p _ HB1.out.2.2.2.2.1 hr (by omega)
  clear hW9 u0 u1 u2 u3 u4 u5 u6 u7 u8 u9 u10 v0 v1 v2 v3 v4 v5 v6 v7 v8 v9 v10
  go_wp2
  refine bodyPost_ret (v := .agg #[.int .i64 h.k, .int .i64 h.ak, .int .i64 h.am, .int .i64 h.a, .int .i64 h.b, .int .i64 h.c, .int .i64 h.d, .int .i64 h.n, .int .i64 h.v, .slice sa sn sc]) (by simp [results, Try.results127, go_sem, y0, y1, y2, y3, y4, y5, y6, y7, y8, y9]) rfl ⟨h, f, .slice sa sn sc, rfl, fs_turned HS.out hT9 hlo, by omega, turned_more hT9 (by omega)⟩

end Go.Proofs.Ytcgolbkpfncgpaa

/- What the model draws for the laws on one formula: l3Some, l3Open, DrawNodeCount, DrawNestedCount, DrawAtomsOf. -/
namespace Go.Proofs.Ytcgolbkpfncgpaa
open Go.RowKit

set_option maxRecDepth 10000 in
set_option maxHeartbeats 2000000 in
theorem l3Some_t (r : Nat) (p : Int) (w : World) (h : Rd w r p) (hp : p ≤ 600000) : Calls Try.prog 128 #[.pointer (some ⟨r, 0, none⟩)] w (FdT r p 400 w) := by
  have hr := rd_lt h
  have H := Lib.hid h
  clear h
  go_enter Try.func128, Try.ntmps128
  go_wp2_with fail
  generalize hW : World.alloc _ _ = W
  have hd : D3 w r p 0 w.heap.size W := by
    have hb0 : Below w.heap.size w W := by subst hW; go_grown
    exact ⟨by subst hW; exact (by refine ⟨?_, ?_, ?_, ?_, ?_, ?_, ?_, ?_, ?_, ?_, ?_⟩ <;> first | (simp [go_sem]; done) | (simp; omega)), by intro o; subst hW; simp [go_sem], turned_below (turned_none H.out) hb0, hr, Nat.le_refl _, hr⟩
  have hR0 : Rd W r p := rd_on H.out (by subst hW; go_grown)
  clear hW
  refine (pick_t r p 4 W hR0 (by omega)).mono ?_
  rintro e w1 ⟨x, rfl, x0, x1, ht1⟩
  have HD1 := Lib.hid (d3_turn hd ht1 hR0 (by omega) (by omega))
  have hx : x = 0 ∨ x = 1 ∨ x = 2 ∨ x = 3 := by omega
  clear ht1 hR0 hd x1 x0
  obtain ⟨q1, p2, p3, hR1⟩ := d3_rd HD1.out
  have HR1 := Lib.hid hR1
  clear hR1
  go_wp2_with fail
  refine (pick_t r q1 3 w1 HR1.out (by omega)).mono ?_
  rintro e w2 ⟨y, rfl, _, _, ht2⟩
  have HD2 := Lib.hid (d3_turn HD1.out ht2 HR1.out p2 p3)
  clear ht2
  obtain ⟨q2, p4, p5, hR2⟩ := d3_rd HD2.out
  have HR2 := Lib.hid hR2
  obtain ⟨hz2, _, _⟩ := d3_size HD2.out
  clear hR2
  obtain ⟨qb, hqb⟩ : ∃ qb, decide (0 < y) = qb := ⟨_, rfl⟩
  rcases hx with rfl | rfl | rfl | rfl
  · have hk : KD 1 = 44 := rfl
    have HC := Lib.hid (draw_any 1 (by omega) r q2 qb w2 HR2.out (by rw [hk]; omega))
    rw [hk] at HC
    go_wp2_with fail
    refine HC.out.mono ?_
    rintro e w3 ⟨h3, f3, s3, rfl, hs3, hl3, hn3, ht3⟩
    have HD3 := Lib.hid (d3_turn HD2.out ht3 HR2.out p4 p5)
    have HS3 := Lib.hid (FS.mono (lo' := w.heap.size + 1) (by omega) hs3)
    obtain ⟨a3, n3, c3, rfl⟩ := hs3.slice
    clear ht3 hs3 hqb
    obtain ⟨⟨zz0, zc0, zc1, zc2, zc3, zc4, zc5, zc6, zc7, zc8, zc9⟩, zf, _⟩ := id HD3.out
    have zff := zf.out
    go_upto_region 16 with fail
    (generalize hW9 : World.setCell _ _ _ = W9)
    obtain ⟨⟨z0, y0, y1, y2, y3, y4, y5, y6, y7, y8, y9⟩, ht9, hfs9⟩ := d3_put (g := h3) HD3.out hW9
    clear hW9
    go_wp2
    refine bodyPost_ret (v := .agg #[.int .i64 h3.k, .int .i64 h3.ak, .int .i64 h3.am, .int .i64 h3.a, .int .i64 h3.b, .int .i64 h3.c, .int .i64 h3.d, .int .i64 h3.n, .int .i64 h3.v, .slice a3 n3 c3]) (by simp [results, Try.results128, go_sem, y0, y1, y2, y3, y4, y5, y6, y7, y8, y9]) rfl ⟨h3, f3, .slice a3 n3 c3, rfl, hfs9 _ _ HS3.out, ⟨hl3.1, Int.le_trans hl3.2 (by decide)⟩, hn3, turned_more ht9 (by omega)⟩
  · have hk : KD 2 = 92 := rfl
    have HC := Lib.hid (draw_any 2 (by omega) r q2 qb w2 HR2.out (by rw [hk]; omega))
    rw [hk] at HC
    go_wp2_with fail
    refine HC.out.mono ?_
    rintro e w3 ⟨h3, f3, s3, rfl, hs3, hl3, hn3, ht3⟩
    have HD3 := Lib.hid (d3_turn HD2.out ht3 HR2.out p4 p5)
    have HS3 := Lib.hid (FS.mono (lo' := w.heap.size + 1) (by omega) hs3)
    obtain ⟨a3, n3, c3, rfl⟩ := hs3.slice
    clear ht3 hs3 hqb
    obtain ⟨⟨zz0, zc0, zc1, zc2, zc3, zc4, zc5, zc6, zc7, zc8, zc9⟩, zf, _⟩ := id HD3.out
    have zff := zf.out
    go_upto_region 16 with fail
    (generalize hW9 : World.setCell _ _ _ = W9)
    obtain ⟨⟨z0, y0, y1, y2, y3, y4, y5, y6, y7, y8, y9⟩, ht9, hfs9⟩ := d3_put (g := h3) HD3.out hW9
    clear hW9
    go_wp2
    refine bodyPost_ret (v := .agg #[.int .i64 h3.k, .int .i64 h3.ak, .int .i64 h3.am, .int .i64 h3.a, .int .i64 h3.b, .int .i64 h3.c, .int .i64 h3.d, .int .i64 h3.n, .int .i64 h3.v, .slice a3 n3 c3]) (by simp [results, Try.results128, go_sem, y0, y1, y2, y3, y4, y5, y6, y7, y8, y9]) rfl ⟨h3, f3, .slice a3 n3 c3, rfl, hfs9 _ _ HS3.out, ⟨hl3.1, Int.le_trans hl3.2 (by decide)⟩, hn3, turned_more ht9 (by omega)⟩
  · have hk : KD 3 = 188 := rfl
    have HC := Lib.hid (draw_any 3 (by omega) r q2 qb w2 HR2.out (by rw [hk]; omega))
    rw [hk] at HC
    go_wp2_with fail
    refine HC.out.mono ?_
    rintro e w3 ⟨h3, f3, s3, rfl, hs3, hl3, hn3, ht3⟩
    have HD3 := Lib.hid (d3_turn HD2.out ht3 HR2.out p4 p5)
    have HS3 := Lib.hid (FS.mono (lo' := w.heap.size + 1) (by omega) hs3)
    obtain ⟨a3, n3, c3, rfl⟩ := hs3.slice
    clear ht3 hs3 hqb
    obtain ⟨⟨zz0, zc0, zc1, zc2, zc3, zc4, zc5, zc6, zc7, zc8, zc9⟩, zf, _⟩ := id HD3.out
    have zff := zf.out
    go_upto_region 16 with fail
    (generalize hW9 : World.setCell _ _ _ = W9)
    obtain ⟨⟨z0, y0, y1, y2, y3, y4, y5, y6, y7, y8, y9⟩, ht9, hfs9⟩ := d3_put (g := h3) HD3.out hW9
    clear hW9
    go_wp2
    refine bodyPost_ret (v := .agg #[.int .i64 h3.k, .int .i64 h3.ak, .int .i64 h3.am, .int .i64 h3.a, .int .i64 h3.b, .int .i64 h3.c, .int .i64 h3.d, .int .i64 h3.n, .int .i64 h3.v, .slice a3 n3 c3]) (by simp [results, Try.results128, go_sem, y0, y1, y2, y3, y4, y5, y6, y7, y8, y9]) rfl ⟨h3, f3, .slice a3 n3 c3, rfl, hfs9 _ _ HS3.out, ⟨hl3.1, Int.le_trans hl3.2 (by decide)⟩, hn3, turned_more ht9 (by omega)⟩
  · have hk : KD 4 = 380 := rfl
    have HC := Lib.hid (draw_any 4 (by omega) r q2 qb w2 HR2.out (by rw [hk]; omega))
    rw [hk] at HC
    go_wp2_with fail
    refine HC.out.mono ?_
    rintro e w3 ⟨h3, f3, s3, rfl, hs3, hl3, hn3, ht3⟩
    have HD3 := Lib.hid (d3_turn HD2.out ht3 HR2.out p4 p5)
    have HS3 := Lib.hid (FS.mono (lo' := w.heap.size + 1) (by omega) hs3)
    obtain ⟨a3, n3, c3, rfl⟩ := hs3.slice
    clear ht3 hs3 hqb
    obtain ⟨⟨zz0, zc0, zc1, zc2, zc3, zc4, zc5, zc6, zc7, zc8, zc9⟩, zf, _⟩ := id HD3.out
    have zff := zf.out
    go_upto_region 16 with fail
    (generalize hW9 : World.setCell _ _ _ = W9)
    obtain ⟨⟨z0, y0, y1, y2, y3, y4, y5, y6, y7, y8, y9⟩, ht9, hfs9⟩ := d3_put (g := h3) HD3.out hW9
    clear hW9
    go_wp2
    refine bodyPost_ret (v := .agg #[.int .i64 h3.k, .int .i64 h3.ak, .int .i64 h3.am, .int .i64 h3.a, .int .i64 h3.b, .int .i64 h3.c, .int .i64 h3.d, .int .i64 h3.n, .int .i64 h3.v, .slice a3 n3 c3]) (by simp [results, Try.results128, go_sem, y0, y1, y2, y3, y4, y5, y6, y7, y8, y9]) rfl ⟨h3, f3, .slice a3 n3 c3, rfl, hfs9 _ _ HS3.out, ⟨hl3.1, Int.le_trans hl3.2 (by decide)⟩, hn3, turned_more ht9 (by omega)⟩

set_option maxRecDepth 10000 in
set_option maxHeartbeats 2000000 in
theorem l3Open_t (r : Nat) (p : Int) (w : World) (h : Rd w r p) (hp : p ≤ 500000) : Calls Try.prog 86 #[.pointer (some ⟨r, 0, none⟩)] w (FmT r p 500 w.heap.size w) := by
  have hr := rd_lt h
  have H := Lib.hid h
  clear h
  go_enter Try.func86, Try.ntmps86
  go_wp2_with fail
  generalize hW : World.alloc _ _ = W
  have hd : D3 w r p 0 w.heap.size W := by
    have hb0 : Below w.heap.size w W := by subst hW; go_grown
    exact ⟨by subst hW; exact (by refine ⟨?_, ?_, ?_, ?_, ?_, ?_, ?_, ?_, ?_, ?_, ?_⟩ <;> first | (simp [go_sem]; done) | (simp; omega)), by intro o; subst hW; simp [go_sem], turned_below (turned_none H.out) hb0, hr, Nat.le_refl _, hr⟩
  have hR0 : Rd W r p := rd_on H.out (by subst hW; go_grown)
  have HD0 := Lib.hid hd
  have hzs := hd.1.1
  clear hW hd
  refine (l3Some_t r p W hR0 (by omega)).mono ?_
  rintro e w1 ⟨h1, f1, s1, rfl, hs1, hl1, hn1, ht1⟩
  have HD1 := Lib.hid (d3_turn HD0.out ht1 hR0 (by omega) (by omega))
  have HS1 := Lib.hid (FS.mono (lo' := w.heap.size + 1) (by omega) hs1)
  have HN1 := Lib.hid hn1
  obtain ⟨a1, n1, c1, rfl⟩ := hs1.slice
  clear ht1 hR0 hs1 hn1
  obtain ⟨q1, p2, p3, hR1⟩ := d3_rd HD1.out
  have HR1 := Lib.hid hR1
  obtain ⟨hz1, hrz, _⟩ := d3_size HD1.out
  clear hR1
  go_wp2_with fail
  refine (l3Bad_t r q1 (w.heap.size + 1) h1 f1 _ w1 HR1.out (by omega) HS1.out (by omega) (by omega) (by have := hl1.2; omega) hl1.1 HN1.out).mono ?_
  rintro e w3 ⟨h3, f3, s3, rfl, hs3, hsz3, ht3⟩
  have HD3 := Lib.hid (d3_turn HD1.out ht3 HR1.out p2 p3)
  have HS3 := Lib.hid hs3
  obtain ⟨a3, n3, c3, rfl⟩ := hs3.slice
  clear ht3 hs3
  obtain ⟨⟨zz0, zc0, zc1, zc2, zc3, zc4, zc5, zc6, zc7, zc8, zc9⟩, zf, _⟩ := id HD3.out
  have zff := zf.out
  go_upto_region 16 with fail
  (generalize hW9 : World.setCell _ _ _ = W9)
  obtain ⟨⟨z0, y0, y1, y2, y3, y4, y5, y6, y7, y8, y9⟩, ht9, hfs9⟩ := d3_put (g := h3) HD3.out hW9
  clear hW9
  go_wp2
  refine bodyPost_ret (v := .agg #[.int .i64 h3.k, .int .i64 h3.ak, .int .i64 h3.am, .int .i64 h3.a, .int .i64 h3.b, .int .i64 h3.c, .int .i64 h3.d, .int .i64 h3.n, .int .i64 h3.v, .slice a3 n3 c3]) (by simp [results, Try.results86, go_sem, y0, y1, y2, y3, y4, y5, y6, y7, y8, y9]) rfl ⟨h3, f3, .slice a3 n3 c3, rfl, hfs9 _ _ HS3.out, hsz3, turned_more ht9 (by omega)⟩

/-- A drawn formula. -/
def SomeForm (w : World) (e : Ending) (w' : World) : Prop := ∃ (h : FH) (f : Fo) (s : Value), e = .returned (.agg #[.int .i64 h.k, .int .i64 h.ak, .int .i64 h.am, .int .i64 h.a, .int .i64 h.b, .int .i64 h.c, .int .i64 h.d, .int .i64 h.n, .int .i64 h.v, s]) ∧ FS w' w.heap.size f s ∧ f.size ≤ 1400 ∧ Below w.heap.size w w'

end Go.Proofs.Ytcgolbkpfncgpaa
