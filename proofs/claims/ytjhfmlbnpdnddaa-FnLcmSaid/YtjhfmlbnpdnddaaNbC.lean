/- Euclid's rule for numbers that know how they are made: the loop. -/
import Derived.Test.YtjhfmlbnpdnddaaNbB
namespace Go.Proofs.Ytjhfmlbnpdnddaa
open Go.RowKit

def EuR (a b : Int) (w : World) (n : Nat) (wr : World) : Prop :=
  ∃ c x y d u v : Int, d.natAbs = n ∧ Eu a b c x y d u v ∧ C3 wr w.heap.size c x y ∧ C3 wr (w.heap.size + 1) d u v ∧ C3 wr (w.heap.size + 1 + 1) 0 0 0 ∧ Below w.heap.size w wr

set_option maxHeartbeats 1000000 in
theorem euclidMix_any (a b : Int) (w : World) (ha : -1000000 ≤ a ∧ a ≤ 1000000) (hb : -1000000 ≤ b ∧ b ≤ 1000000) :
    Calls Try.prog 107 #[.agg #[.int .i64 a, .int .i64 1, .int .i64 0], .agg #[.int .i64 b, .int .i64 0, .int .i64 1], .func (.func 108) #[] #[]] w fun e w' => (∃ n x y u v : Int, e = .returned (.agg #[.int .i64 n, .int .i64 x, .int .i64 y]) ∧ Eu a b n x y 0 u v) ∧ Below w.heap.size w w' := by
  have HST := Lib.hid (eu_start ha hb)
  have HA := Lib.hid ha
  have HBD := Lib.hid hb
  clear ha hb
  go_enter Try.func107, Try.ntmps107
  go_wp2_with fail
  generalize hW : ((w.alloc (.cells #[.int .i64 a, .int .i64 1, .int .i64 0] 71)).alloc (.cells #[.int .i64 b, .int .i64 0, .int .i64 1] 71)).alloc (.cells #[.int .i64 0, .int .i64 0, .int .i64 0] 71) = W
  have HR : Hid (EuR a b w b.natAbs W) := Lib.hid ⟨a, 1, 0, b, 0, 1, rfl, HST.out, (by subst hW; exact (by refine ⟨?_, ?_, ?_, ?_, ?_⟩ <;> first | (simp [go_sem]; done) | (simp; omega) | (intro o; simp [go_sem]; done))), (by subst hW; exact (by refine ⟨?_, ?_, ?_, ?_, ?_⟩ <;> first | (simp [go_sem]; done) | (simp; omega) | (intro o; simp [go_sem]; done))), (by subst hW; exact (by refine ⟨?_, ?_, ?_, ?_, ?_⟩ <;> first | (simp [go_sem]; done) | (simp; omega) | (intro o; simp [go_sem]; done))), (by subst hW; go_grown)⟩
  clear hW HST
  go_loopw [] (fun wr => ∃ n, EuR a b w n wr) (fun wr => leastN (fun n => EuR a b w n wr))
  case atStart => exact ⟨_, HR.out⟩
  case round =>
    clear HR
    have HL := Lib.hid (least_spec hrel)
    obtain ⟨c, x, y, d, u, v, hn, hEu, hx, hy, hz, hB⟩ := least_spec hrel
    have HX := Lib.hid hx
    have HY := Lib.hid hy
    have HZ := Lib.hid hz
    have HEu := Lib.hid hEu
    have HN := Lib.hid hn
    have HB := Lib.hid hB
    clear hrel hn
    obtain ⟨x0, x1, x2, x3, x4⟩ := id hx
    obtain ⟨y0, y1, y2, y3, y4⟩ := id hy
    obtain ⟨z0, z1, z2, z3, z4⟩ := id hz
    by_cases hd : d = 0
    · subst hd
      clear hEu hx hy hz
      go_wp2_with fail
      refine (restMix_none _ _ _ _ _ _).mono ?_
      rintro e w1 ⟨rfl, hb1⟩
      have hs1 := hb1.size
      have hx1 := c3_on HX.out hb1
      have hz1 := c3_on HZ.out hb1
      have HB1 := Lib.hid (below_on HB.out hb1)
      clear x0 x1 x2 x3 x4 y0 y1 y2 y3 y4 z0 z1 z2 z3 z4 hB
      obtain ⟨x0, x1, x2, x3, x4⟩ := id hx1
      obtain ⟨z0, z1, z2, z3, z4⟩ := id hz1
      go_wp2
      generalize hW9 : World.setCell _ _ _ = W9
      obtain ⟨⟨r0, r1, r2, r3, _⟩, hs9, _, hb9⟩ := three_put hW9 0 0 0 hz1
      clear hW9
      refine bodyPost_ret (v := .agg #[.int .i64 c, .int .i64 x, .int .i64 y]) (by simp [results, Try.results107, go_sem, r0, r1, r2, r3]) rfl ⟨⟨c, x, y, u, v, rfl, HEu.out⟩, ?_⟩
      exact (hb9 w HB1.out (by omega)).alloc (by omega) _
    · obtain ⟨s0, s1, s2, s3, s4, s5⟩ := eu_step HA.out HBD.out hEu hd
      have HS := Lib.hid s5
      have HM := Lib.hid s4
      have hn0 : -1000000 ≤ c ∧ c ≤ 1000000 := hEu.2.2.2.2.2.1
      have hx0 : -1000000 ≤ x ∧ x ≤ 1000000 := hEu.2.2.2.2.2.2.2.1
      have hy0 : -1000000 ≤ y ∧ y ≤ 1000000 := hEu.2.2.2.2.2.2.2.2.1
      have HC := Lib.hid fun W => restMix_some c x y d u v (c.tdiv d) W hd rfl s0 hn0 hx0 hy0 s1 s2 s3
      obtain ⟨e1, he1⟩ : ∃ e1, c - c.tdiv d * d = e1 := ⟨_, rfl⟩
      obtain ⟨e2, he2⟩ : ∃ e2, x - c.tdiv d * u = e2 := ⟨_, rfl⟩
      obtain ⟨e3, he3⟩ : ∃ e3, y - c.tdiv d * v = e3 := ⟨_, rfl⟩
      rw [he1, he2, he3] at HS HC
      rw [he1] at HM
      clear he1 he2 he3 s0 s1 s2 s3 s4 s5 hn0 hx0 hy0 hEu hx hy hz
      go_wp2_with fail
      refine (HC.out _).mono ?_
      rintro e w1 ⟨rfl, hb1⟩
      have hs1 := hb1.size
      have hx1 := c3_on HX.out hb1
      have hy1 := c3_on HY.out hb1
      have hz1 := c3_on HZ.out hb1
      have HB1 := Lib.hid (below_on HB.out hb1)
      clear x0 x1 x2 x3 x4 y0 y1 y2 y3 y4 z0 z1 z2 z3 z4 hB
      go_wp2_with fail
      generalize hW5 : World.alloc w1 _ = W5
      have hx5 : C3 W5 w.heap.size c x y := by subst hW5; exact c3_on hx1 (by go_grown)
      have hy5 : C3 W5 (w.heap.size + 1) d u v := by subst hW5; exact c3_on hy1 (by go_grown)
      have hz5 : C3 W5 (w.heap.size + 1 + 1) 0 0 0 := by subst hW5; exact c3_on hz1 (by go_grown)
      have hq5 : C3 W5 w1.heap.size e1 e2 e3 := by subst hW5; exact (by refine ⟨?_, ?_, ?_, ?_, ?_⟩ <;> first | (simp [go_sem]; done) | (simp; omega) | (intro o; simp [go_sem]; done))
      have hB5 : Below w.heap.size w W5 := by subst hW5; exact HB1.out.alloc (Nat.le_of_lt (by have := hx1.1; omega)) _
      have hl : w.heap.size + 1 + 1 < w1.heap.size := hz1.1
      clear hW5
      have HX5 := Lib.hid hx5
      have HY5 := Lib.hid hy5
      have HZ5 := Lib.hid hz5
      obtain ⟨x0, x1, x2, x3, x4⟩ := hx5
      obtain ⟨y0, y1, y2, y3, y4⟩ := hy5
      obtain ⟨q0, q1, q2, q3, q4⟩ := hq5
      clear hz5 hz1
      go_region
      generalize hW6 : World.setCell (World.setCell (World.setCell W5 _ _) _ _) _ _ = W6
      obtain ⟨hx6, hs6, ho6, hb6⟩ := three_put hW6 _ _ _ HX5.out
      have hy6 := ho6 _ _ _ _ (by omega) HY5.out
      have hz6 := ho6 _ _ _ _ (by omega) HZ5.out
      have hB6 := hb6 w hB5 (Nat.le_refl _)
      clear hW6 ho6 hb6
      generalize hW7 : World.setCell (World.setCell (World.setCell W6 _ _) _ _) _ _ = W7
      obtain ⟨hy7, hs7, ho7, hb7⟩ := three_put hW7 _ _ _ hy6
      have hx7 := ho7 _ _ _ _ (by omega) hx6
      have hz7 := ho7 _ _ _ _ (by omega) hz6
      have hB7 := hb7 w hB6 (by omega)
      clear hW7 ho7 hb7 hx6 hy6 hz6 hs6 hs7 x0 x1 x2 x3 x4 y0 y1 y2 y3 y4 q0 q1 q2 q3 q4
      have HE : Hid (EuR a b w e1.natAbs W7.drew) := Lib.hid ⟨d, u, v, e1, e2, e3, rfl, HS.out, c3_on hx7 (Below.refl _ _).drew, c3_on hy7 (Below.refl _ _).drew, c3_on hz7 (Below.refl _ _).drew, hB7.drew⟩
      go_wp2
      refine ⟨⟨_, HE.out⟩, ?_⟩
      refine Nat.lt_of_le_of_lt (least_le HE.out) ?_
      have := HM.out
      have := HN.out
      omega

end Go.Proofs.Ytjhfmlbnpdnddaa
