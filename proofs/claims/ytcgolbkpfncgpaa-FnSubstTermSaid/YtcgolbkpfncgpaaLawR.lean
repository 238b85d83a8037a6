/- The walk of the law on a term in place of a variable. -/
import Derived.Test.YtcgolbkpfncgpaaDraw8
import Derived.Test.YtcgolbkpfncgpaaLawS
import Derived.Test.YtcgolbkpfncgpaaIm
import Derived.Deep.CutRange
namespace Go.Proofs.Ytcgolbkpfncgpaa
open Go.RowKit

/-- A point in a box that is newer than W0; nothing of W0 has turned. -/
def PtAt (W0 : World) (x y z u : Int) (ok : Bool) (p q : Value) (W : World) : Prop :=
  ∃ t, p = .pointer (some ⟨t, 0, none⟩) ∧ q = .bool ok ∧ C4 W t x y z u ∧ (∀ o, W.frozen? ⟨t, o, none⟩ = false) ∧ W0.heap.size ≤ t ∧ Below W0.heap.size W0 W

theorem pt_new {W0 w : World} {x y z u : Int} {ty : TypeId} (hb : Below W0.heap.size W0 w) : C4 (w.alloc (.cells #[.int .i64 x, .int .i64 y, .int .i64 z, .int .i64 u] ty)) w.heap.size x y z u ∧ (∀ o, (w.alloc (.cells #[.int .i64 x, .int .i64 y, .int .i64 z, .int .i64 u] ty)).frozen? ⟨w.heap.size, o, none⟩ = false) ∧ W0.heap.size ≤ w.heap.size ∧ Below W0.heap.size W0 (w.alloc (.cells #[.int .i64 x, .int .i64 y, .int .i64 z, .int .i64 u] ty)) :=
  ⟨(by refine ⟨?_, ?_, ?_, ?_, ?_⟩ <;> first | (simp [go_sem]; done) | (simp; omega)), fun o => by simp [go_sem], hb.size, below_on hb (by go_grown)⟩

theorem pt_set {W0 Wc w : World} {z0 z1 z2 z3 x y z u : Int} {t : Nat} (hb0 : Below W0.heap.size W0 w) (hb : Below Wc.heap.size Wc w) (hbx : C4 Wc t z0 z1 z2 z3 ∧ ∀ o, Wc.frozen? ⟨t, o, none⟩ = false) (ht : W0.heap.size ≤ t) :
    C4 ((((w.setCell ⟨t, 0, none⟩ (.int .i64 x)).setCell ⟨t, 1, none⟩ (.int .i64 y)).setCell ⟨t, 2, none⟩ (.int .i64 z)).setCell ⟨t, 3, none⟩ (.int .i64 u)) t x y z u ∧ (∀ o, ((((w.setCell ⟨t, 0, none⟩ (.int .i64 x)).setCell ⟨t, 1, none⟩ (.int .i64 y)).setCell ⟨t, 2, none⟩ (.int .i64 z)).setCell ⟨t, 3, none⟩ (.int .i64 u)).frozen? ⟨t, o, none⟩ = false) ∧ W0.heap.size ≤ t ∧ Below W0.heap.size W0 ((((w.setCell ⟨t, 0, none⟩ (.int .i64 x)).setCell ⟨t, 1, none⟩ (.int .i64 y)).setCell ⟨t, 2, none⟩ (.int .i64 z)).setCell ⟨t, 3, none⟩ (.int .i64 u)) := by
  obtain ⟨h, hf⟩ := hbx
  obtain ⟨g0, g1, g2, g3, g4⟩ := c4_on h hb
  have f : ∀ o, w.frozen? ⟨t, o, none⟩ = false := fun o => ((bcell hb).2 t o h.1).trans (hf o)
  refine ⟨⟨by simpa [World.setCell] using g0, ?_, ?_, ?_, ?_⟩, fun o => by simp [go_sem, f], ht, (((hb0.setCell ht _).setCell ht _).setCell ht _).setCell ht _⟩ <;> simp [go_sem, *]

def Box4 (w : World) (t : Nat) : Prop := C4 w t 0 0 0 0 ∧ ∀ o, w.frozen? ⟨t, o, none⟩ = false
theorem new4 {w w' : World} {ty : TypeId} (hb : Below (w.alloc (.cells #[.int .i64 0, .int .i64 0, .int .i64 0, .int .i64 0] ty)).heap.size (w.alloc (.cells #[.int .i64 0, .int .i64 0, .int .i64 0, .int .i64 0] ty)) w') : Box4 w' w.heap.size :=
  ⟨c4_on (by refine ⟨?_, ?_, ?_, ?_, ?_⟩ <;> first | (simp [go_sem]; done) | (simp; omega)) hb, fun o => ((bcell hb).2 _ o (by simp)).trans (by simp [go_sem])⟩
theorem new4d {w w' : World} {ty : TypeId} (hb : Below (w.alloc (.cells #[.int .i64 0, .int .i64 0, .int .i64 0, .int .i64 0] ty)).drew.heap.size (w.alloc (.cells #[.int .i64 0, .int .i64 0, .int .i64 0, .int .i64 0] ty)).drew w') : Box4 w' w.heap.size :=
  ⟨c4_on (by refine ⟨?_, ?_, ?_, ?_, ?_⟩ <;> first | (simp [go_sem]; done) | (simp; omega)) hb, fun o => ((bcell hb).2 _ o (by simp)).trans (by simp [go_sem])⟩
theorem new4n {w w' : World} {k : Nat} {ty : TypeId} (hb : Below ((w.alloc (.cells #[.int .i64 0, .int .i64 0, .int .i64 0, .int .i64 0] ty)).drewN k).heap.size ((w.alloc (.cells #[.int .i64 0, .int .i64 0, .int .i64 0, .int .i64 0] ty)).drewN k) w') : Box4 w' w.heap.size :=
  ⟨c4_on (by refine ⟨?_, ?_, ?_, ?_, ?_⟩ <;> first | (simp [go_sem]; done) | (simp; omega)) hb, fun o => ((bcell hb).2 _ o (by simp)).trans (by simp [go_sem])⟩
theorem old4 {w w' : World} {t : Nat} (h : Box4 w t) (hb : Below w.heap.size w w') : Box4 w' t := ⟨c4_on h.1 hb, fun o => ((bcell hb).2 _ o h.1.1).trans (h.2 o)⟩
theorem old4d {w w' : World} {t : Nat} (h : Box4 w t) (hb : Below w.drew.heap.size w.drew w') : Box4 w' t := ⟨c4_on (W := w.drew) h.1 hb, fun o => ((bcell hb).2 _ o h.1.1).trans (h.2 o)⟩
theorem old4n {w w' : World} {t k : Nat} (h : Box4 w t) (hb : Below (w.drewN k).heap.size (w.drewN k) w') : Box4 w' t := ⟨c4_on (W := w.drewN k) h.1 hb, fun o => ((bcell hb).2 _ o h.1.1).trans (h.2 o)⟩

theorem pt_box {W0 w : World} {x y z u : Int} {t : Nat} (hb0 : Below W0.heap.size W0 w) (hbx : Box4 w t) (ht : W0.heap.size ≤ t) :
    C4 ((((w.setCell ⟨t, 0, none⟩ (.int .i64 x)).setCell ⟨t, 1, none⟩ (.int .i64 y)).setCell ⟨t, 2, none⟩ (.int .i64 z)).setCell ⟨t, 3, none⟩ (.int .i64 u)) t x y z u ∧ (∀ o, ((((w.setCell ⟨t, 0, none⟩ (.int .i64 x)).setCell ⟨t, 1, none⟩ (.int .i64 y)).setCell ⟨t, 2, none⟩ (.int .i64 z)).setCell ⟨t, 3, none⟩ (.int .i64 u)).frozen? ⟨t, o, none⟩ = false) ∧ W0.heap.size ≤ t ∧ Below W0.heap.size W0 ((((w.setCell ⟨t, 0, none⟩ (.int .i64 x)).setCell ⟨t, 1, none⟩ (.int .i64 y)).setCell ⟨t, 2, none⟩ (.int .i64 z)).setCell ⟨t, 3, none⟩ (.int .i64 u)) :=
  pt_set hb0 (Below.refl _ _) hbx ht

theorem keep54s {W w' : World} {q t : Nat} {a' b' c' d' n' x y z u : Int} (h2 : C5 W q a' b' c' d' n') (h4 : C4 W t x y z u) (hB : Below W.heap.size W w') :
    Below W.heap.size W w' ∧ (w'.cell? ⟨q, 0, none⟩ = some (.int .i64 a') ∧ w'.cell? ⟨q, 1, none⟩ = some (.int .i64 b') ∧ w'.cell? ⟨q, 2, none⟩ = some (.int .i64 c') ∧ w'.cell? ⟨q, 3, none⟩ = some (.int .i64 d') ∧ w'.cell? ⟨q, 4, none⟩ = some (.int .i64 n')) ∧ (w'.cell? ⟨t, 0, none⟩ = some (.int .i64 x) ∧ w'.cell? ⟨t, 1, none⟩ = some (.int .i64 y) ∧ w'.cell? ⟨t, 2, none⟩ = some (.int .i64 z) ∧ w'.cell? ⟨t, 3, none⟩ = some (.int .i64 u)) :=
  ⟨hB, (c5_on h2 hB).2, (c4_on h4 hB).2⟩
theorem keep5544 {W w' : World} {p q t s : Nat} {a b c d n a' b' c' d' n' x y z u x' y' z' u' : Int} (h1 : C5 W p a b c d n) (h2 : C5 W q a' b' c' d' n') (h4 : C4 W t x y z u) (h5 : C4 W s x' y' z' u') (hB : Below W.heap.size W w') :
    Below W.heap.size W w' ∧ (w'.cell? ⟨p, 0, none⟩ = some (.int .i64 a) ∧ w'.cell? ⟨p, 1, none⟩ = some (.int .i64 b) ∧ w'.cell? ⟨p, 2, none⟩ = some (.int .i64 c) ∧ w'.cell? ⟨p, 3, none⟩ = some (.int .i64 d) ∧ w'.cell? ⟨p, 4, none⟩ = some (.int .i64 n)) ∧ (w'.cell? ⟨q, 0, none⟩ = some (.int .i64 a') ∧ w'.cell? ⟨q, 1, none⟩ = some (.int .i64 b') ∧ w'.cell? ⟨q, 2, none⟩ = some (.int .i64 c') ∧ w'.cell? ⟨q, 3, none⟩ = some (.int .i64 d') ∧ w'.cell? ⟨q, 4, none⟩ = some (.int .i64 n')) ∧ (w'.cell? ⟨t, 0, none⟩ = some (.int .i64 x) ∧ w'.cell? ⟨t, 1, none⟩ = some (.int .i64 y) ∧ w'.cell? ⟨t, 2, none⟩ = some (.int .i64 z) ∧ w'.cell? ⟨t, 3, none⟩ = some (.int .i64 u)) ∧ (w'.cell? ⟨s, 0, none⟩ = some (.int .i64 x') ∧ w'.cell? ⟨s, 1, none⟩ = some (.int .i64 y') ∧ w'.cell? ⟨s, 2, none⟩ = some (.int .i64 z') ∧ w'.cell? ⟨s, 3, none⟩ = some (.int .i64 u')) :=
  ⟨hB, (c5_on h1 hB).2, (c5_on h2 hB).2, (c4_on h4 hB).2, (c4_on h5 hB).2⟩

theorem ev_subst (a b c d n v a' b' c' d' n' x y z u E : Int) (hv : 0 ≤ v ∧ v < 4) (hE : ev a' b' c' d' n' x y z u = E) :
    ev ((if v = 0 then 0 else a) + a' * sel a b c d v 0) ((if v = 1 then 0 else b) + b' * sel a b c d v 0) ((if v = 2 then 0 else c) + c' * sel a b c d v 0) ((if v = 3 then 0 else d) + d' * sel a b c d v 0) (n + n' * sel a b c d v 0) x y z u =
      ev a b c d n (if v = 0 then E else x) (if v = 1 then E else y) (if v = 2 then E else z) (if v = 3 then E else u) := by
  have e : ∀ K p q : Int, p * K * q = K * (p * q) := fun K p q => by rw [Int.mul_comm p K, Int.mul_assoc]
  have h' : v = 0 ∨ v = 1 ∨ v = 2 ∨ v = 3 := by omega
  subst hE
  rcases h' with rfl | rfl | rfl | rfl
  all_goals
    simp [sel, ev]
    simp only [Int.add_mul, Int.mul_add, e, Int.mul_comm n' _]
    omega

theorem subst_none {a b c d n v a' b' c' d' n' : Int} (hv : 0 ≤ v ∧ v < 4) (h : sel a b c d v 0 = 0) : (if v = 0 then 0 else a) + a' * sel a b c d v 0 = a ∧ (if v = 1 then 0 else b) + b' * sel a b c d v 0 = b ∧ (if v = 2 then 0 else c) + c' * sel a b c d v 0 = c ∧ (if v = 3 then 0 else d) + d' * sel a b c d v 0 = d ∧ n + n' * sel a b c d v 0 = n := by
  have h' : v = 0 ∨ v = 1 ∨ v = 2 ∨ v = 3 := by omega
  rcases h' with rfl | rfl | rfl | rfl
  all_goals
    simp [sel] at h
    subst h
    simp [sel]

set_option maxHeartbeats 20000000 in
theorem substTerm_walk (sp : Option Addr) (n cap : Nat) (w : World) (h : Code w sp n cap) :
    Calls Try.prog 3 #[.slice sp n cap] w fun e w' => e = .returned (.bool true) ∧ Below w.heap.size w w' := by
  have hc1 := h.1
  have hc2 := h.2.1
  have H := Lib.hid h
  clear h
  by_cases hn : n ≤ 1048576
  · have hn' : ¬ (1048576 : Int) < (n : Int) := by omega
    go_enter Try.func3, Try.ntmps3
    go_wp2_with fail
    refine (DrawSubstTerm_t sp n cap w H.out).mono ?_
    rintro e w1 ⟨a, b, c, d, m, v, a', b', c', d', m', rfl, hb1⟩
    have hbs := hb1.size
    have HC1 := Lib.hid (code_on H.out hb1)
    go_wp2_with fail
    generalize hW : (w1.alloc (.cells #[.int .i64 a, .int .i64 b, .int .i64 c, .int .i64 d, .int .i64 m] 24)).alloc (.cells #[.int .i64 a', .int .i64 b', .int .i64 c', .int .i64 d', .int .i64 m'] 24) = W
    have hx : C5 W w1.heap.size a b c d m := by subst hW; exact (by refine ⟨?_, ?_, ?_, ?_, ?_, ?_⟩ <;> first | (simp [go_sem]; done) | (simp; omega))
    have hy : C5 W (w1.heap.size + 1) a' b' c' d' m' := by subst hW; exact (by refine ⟨?_, ?_, ?_, ?_, ?_, ?_⟩ <;> first | (simp [go_sem]; done) | (simp; omega))
    have hw1 : Below w1.heap.size w1 W := by subst hW; go_grown
    have hw0 : Below w.heap.size w W := below_on hb1 hw1
    have HC := Lib.hid (code_on HC1.out hw1)
    clear hW
    by_cases hv : (tvB a b c d m && tvB a' b' c' d' m' && varB v) = true
    · obtain ⟨⟨h1, h2⟩, hvv⟩ : (tvB a b c d m = true ∧ tvB a' b' c' d' m' = true) ∧ varB v = true := by simpa using hv
      have hv4 : 0 ≤ v ∧ v < 4 := by simpa [varB] using hvv
      by_cases h3 : tvB ((if v = 0 then 0 else a) + a' * sel a b c d v 0) ((if v = 1 then 0 else b) + b' * sel a b c d v 0) ((if v = 2 then 0 else c) + c' * sel a b c d v 0) ((if v = 3 then 0 else d) + d' * sel a b c d v 0) (m + m' * sel a b c d v 0) = true
      · have hi := fun W => SubstTerm_ok a b c d m v a' b' c' d' m' _ _ _ _ _ W h1 h2 hv4 rfl rfl rfl rfl rfl h3
        have hs := fun W => specSubstTerm_ok a b c d m v a' b' c' d' m' _ _ _ _ _ W h1 h2 hv4 rfl rfl rfl rfl rfl h3
        have hev := fun x y z u E (hE : ev a' b' c' d' m' x y z u = E) => ev_subst a b c d m v a' b' c' d' m' x y z u E hv4 hE
        have hno := fun h => subst_none (a := a) (b := b) (c := c) (d := d) (n := m) (a' := a') (b' := b') (c' := c') (d' := d') (n' := m') hv4 h
        obtain ⟨K, hK⟩ : ∃ K, sel a b c d v 0 = K := ⟨_, rfl⟩
        rw [hK] at hi hs hno h3
        simp only [hK] at hev
        obtain ⟨A, hA⟩ : ∃ A, (if v = 0 then 0 else a) + a' * K = A := ⟨_, rfl⟩
        obtain ⟨B, hB⟩ : ∃ A, (if v = 1 then 0 else b) + b' * K = A := ⟨_, rfl⟩
        obtain ⟨C, hC⟩ : ∃ A, (if v = 2 then 0 else c) + c' * K = A := ⟨_, rfl⟩
        obtain ⟨D, hD⟩ : ∃ A, (if v = 3 then 0 else d) + d' * K = A := ⟨_, rfl⟩
        obtain ⟨N, hN⟩ : ∃ A, m + m' * K = A := ⟨_, rfl⟩
        rw [hA, hB, hC, hD, hN] at hi hs hno h3
        simp only [hA, hB, hC, hD, hN] at hev
        have hcf := fun W => CoefOf_any a b c d m v W
        rw [hK] at hcf
        have HI := Lib.hid hi
        have HS := Lib.hid hs
        have HEV := Lib.hid hev
        have HNO := Lib.hid hno
        have HCF := Lib.hid hcf
        have HV := Lib.hid hvv
        have T1 := Lib.hid h1
        have T2 := Lib.hid h2
        have T3 := Lib.hid h3
        clear hi hs hev hno hcf h1 h2 h3 hA hB hC hD hN hK hv hvv hv4
        obtain ⟨x0, x1, x2, x3, x4, x5⟩ := id hx
        obtain ⟨y0, y1, y2, y3, y4, y5⟩ := id hy
        refine (HI.out _).mono ?_
        rintro e w2 ⟨rfl, hb2⟩
        obtain ⟨x0, x1, x2, x3, x4, x5⟩ := c5_on hx hb2
        obtain ⟨y0, y1, y2, y3, y4, y5⟩ := c5_on hy hb2
        go_wp2_with fail
        generalize hW2 : w2.alloc (.cells #[.int .i64 A, .int .i64 B, .int .i64 C, .int .i64 D, .int .i64 N] 24) = W2
        have hX : C5 W2 w2.heap.size A B C D N := by subst hW2; exact (by refine ⟨?_, ?_, ?_, ?_, ?_, ?_⟩ <;> first | (simp [go_sem]; done) | (simp; omega))
        have hbW2 : Below W.heap.size W W2 := below_on hb2 (by subst hW2; go_grown)
        clear hW2
        obtain ⟨x0, x1, x2, x3, x4, x5⟩ := c5_on hx hbW2
        obtain ⟨y0, y1, y2, y3, y4, y5⟩ := c5_on hy hbW2
        refine (HS.out _).mono ?_
        rintro e w3 ⟨rfl, hb3⟩
        have hbb3 := below_on hbW2 hb3
        obtain ⟨x0, x1, x2, x3, x4, x5⟩ := c5_on hx hbb3
        obtain ⟨z0, z1, z2, z3, z4, z5⟩ := c5_on hX hb3
        go_wp2_with fail
        generalize hW4 : w3.alloc (.cells #[.int .i64 A, .int .i64 B, .int .i64 C, .int .i64 D, .int .i64 N] 24) = W4
        have hb33 : Below w3.heap.size w3 W4 := by subst hW4; go_grown
        clear hW4
        have hbW4 := below_on hbb3 hb33
        have hX4 := c5_on hX (below_on hb3 hb33)
        have hx4 := c5_on hx hbW4
        have hy4 := c5_on hy hbW4
        have HC4 := Lib.hid (code_on HC.out hbW4)
        clear x0 x1 x2 x3 x4 x5 y0 y1 y2 y3 y4 y5 z0 z1 z2 z3 z4 z5
        go_loopw [10] (fun i wr => ∃ j : Nat, i = .int .i64 j ∧ j ≤ 8 ∧ Below W4.heap.size W4 wr) (fun i _ => 8 - (intOf i).toNat)
        case atStart => exact ⟨0, rfl, by omega, Below.refl _ _⟩
        case round =>
          obtain ⟨j, rfl, hj, hbl⟩ := hrel
          by_cases hj6 : j < 8
          · have hj' : (j : Int) < 8 := by omega
            go_wp2_with fail
            refine (pbPoint_any sp n cap j wr (code_on HC4.out hbl) hn (by omega) (by omega)).mono ?_
            rintro e w5 ⟨px, py, pz, pu, rfl, hb5, ⟨px0, px1⟩, ⟨py0, py1⟩, ⟨pz0, pz1⟩, pu0, pu1⟩
            have hpv : pvB px py pz pu = true := by simp [pvB, inB]; omega
            obtain ⟨E, h2⟩ : ∃ E, ev a' b' c' d' m' px py pz pu = E := ⟨_, rfl⟩
            have h1 := HEV.out px py pz pu E h2
            have q1 := fun W => pbEval_ok A B C D N px py pz pu W (by simp [T3.out, hpv])
            have q2 := fun W => pbEval_ok a' b' c' d' m' px py pz pu W (by simp [T2.out, hpv])
            rw [h2] at q2
            have Q2 := Lib.hid q2
            have hb5W := below_on hbl hb5
            by_cases hE : inB E 0 1000 = true
            · have hw : wvB px py pz pu v E = true := by simp [wvB, hpv, HV.out, hE]
              have qw := fun W => WithValue_ok px py pz pu v E W hw
              have hqv : pvB (if v = 0 then E else px) (if v = 1 then E else py) (if v = 2 then E else pz) (if v = 3 then E else pu) = true := by
                simp only [pvB, inB, Bool.and_eq_true, decide_eq_true_eq] at hpv hE ⊢
                refine ⟨⟨⟨?_, ?_⟩, ?_⟩, ?_⟩ <;> split <;> omega
              obtain ⟨qx, hqx⟩ : ∃ q, (if v = 0 then E else px) = q := ⟨_, rfl⟩
              obtain ⟨qy, hqy⟩ : ∃ q, (if v = 1 then E else py) = q := ⟨_, rfl⟩
              obtain ⟨qz, hqz⟩ : ∃ q, (if v = 2 then E else pz) = q := ⟨_, rfl⟩
              obtain ⟨qu, hqu⟩ : ∃ q, (if v = 3 then E else pu) = q := ⟨_, rfl⟩
              rw [hqx, hqy, hqz, hqu] at qw hqv h1
              have q3 := fun W => pbEval_ok a b c d m qx qy qz qu W (by simp [T1.out, hqv])
              obtain ⟨F, hF⟩ : ∃ F, ev a b c d m qx qy qz qu = F := ⟨_, rfl⟩
              rw [hF] at q3 h1
              rw [h1] at q1
              have Q1 := Lib.hid q1
              have Q3 := Lib.hid q3
              have QW := Lib.hid qw
              clear q1 q2 q3 qw h1 h2 hpv hqv hqx hqy hqz hqu hF hw hE px0 px1 py0 py1 pz0 pz1 pu0 pu1
              go_wp2_with fail
              generalize hW5 : w5.alloc (.cells #[.int .i64 px, .int .i64 py, .int .i64 pz, .int .i64 pu] 30) = W5
              have hb55 : Below w5.heap.size w5 W5 := by subst hW5; go_grown
              have hp : C4 W5 w5.heap.size px py pz pu := by subst hW5; exact (by refine ⟨?_, ?_, ?_, ?_, ?_⟩ <;> first | (simp [go_sem]; done) | (simp; omega))
              clear hW5
              have hb4W := below_on hb5W hb55
              have g3 := c5_on hy4 hb4W
              have HB4 := Lib.hid hb4W
              clear hb4W hb5W hb5 hb55 hbl
              go_cut [12, 13] from 57 to 82 (fun p q W => PtAt W5 qx qy qz qu true p q W)
              case first =>
                go_region_held3 (fun w' => Below W5.heap.size W5 w' ∧ (w'.cell? ⟨w1.heap.size + 1, 0, none⟩ = some (.int .i64 a') ∧ w'.cell? ⟨w1.heap.size + 1, 1, none⟩ = some (.int .i64 b') ∧ w'.cell? ⟨w1.heap.size + 1, 2, none⟩ = some (.int .i64 c') ∧ w'.cell? ⟨w1.heap.size + 1, 3, none⟩ = some (.int .i64 d') ∧ w'.cell? ⟨w1.heap.size + 1, 4, none⟩ = some (.int .i64 m')) ∧ (w'.cell? ⟨w5.heap.size, 0, none⟩ = some (.int .i64 px) ∧ w'.cell? ⟨w5.heap.size, 1, none⟩ = some (.int .i64 py) ∧ w'.cell? ⟨w5.heap.size, 2, none⟩ = some (.int .i64 pz) ∧ w'.cell? ⟨w5.heap.size, 3, none⟩ = some (.int .i64 pu))) (exact keep54s g3 hp (by go_grown)) (first | (go_at_call 16; (with_reducible refine (Q2.out _).mono ?_); rintro e w6 ⟨rfl, hb6⟩; have hbb6 := below_on (w := W5) (by go_grown) hb6; have hs6 : W5.heap.size ≤ w6.heap.size := hbb6.size; have hz6 := hb6.size; (try simp at hz6); (first | (with_reducible have n6 := new4 hb6) | (with_reducible have n6 := new4d hb6) | (with_reducible have n6 := new4n hb6) | skip); (try obtain ⟨⟨n60, n61, n62, n63, n64⟩, m6⟩ := id n6)) | (go_at_call 15; (with_reducible refine (QW.out _).mono ?_); rintro e w7 ⟨rfl, hb7⟩; have hbb7 := below_on (w := W5) (by go_grown) hb7; have hs7 : W5.heap.size ≤ w7.heap.size := hbb7.size; have hz7 := hb7.size; (try simp at hz7); (first | (with_reducible have n7 := new4 hb7) | (with_reducible have n7 := new4d hb7) | (with_reducible have n7 := new4n hb7) | (with_reducible have n7 := old4 n6 hb7) | (with_reducible have n7 := old4d n6 hb7) | (with_reducible have n7 := old4n n6 hb7) | skip); (try obtain ⟨⟨n70, n71, n72, n73, n74⟩, m7⟩ := id n7)))
                all_goals
                  go_wp2_with fail
                  go_meet
                  first | (refine ⟨_, rfl, rfl, ?_⟩; first | (with_reducible exact pt_new hbb7) | (with_reducible exact pt_new (below_drew hbb7)) | (with_reducible exact pt_new (below_drewN hbb7)) | ((with_reducible refine pt_box hbb7 n7 ?_); omega))
              case rest =>
                obtain ⟨t, rfl, rfl, hq, _, ht, hBc⟩ := hcut
                have hB4c := below_on HB4.out hBc
                have g1 := c5_on hX4 hB4c
                have g2 := c5_on hx4 hB4c
                have hp2 := c4_on hp hBc
                have HB5 := Lib.hid hB4c
                obtain ⟨Wc, hWc⟩ : ∃ W, W = wc := ⟨_, rfl⟩
                clear hB4c hBc g3 hp
                subst hWc
                go_wp2_with fail
                go_region_held3 (fun w' => Below Wc.heap.size Wc w' ∧ (w'.cell? ⟨w2.heap.size, 0, none⟩ = some (.int .i64 A) ∧ w'.cell? ⟨w2.heap.size, 1, none⟩ = some (.int .i64 B) ∧ w'.cell? ⟨w2.heap.size, 2, none⟩ = some (.int .i64 C) ∧ w'.cell? ⟨w2.heap.size, 3, none⟩ = some (.int .i64 D) ∧ w'.cell? ⟨w2.heap.size, 4, none⟩ = some (.int .i64 N)) ∧ (w'.cell? ⟨w1.heap.size, 0, none⟩ = some (.int .i64 a) ∧ w'.cell? ⟨w1.heap.size, 1, none⟩ = some (.int .i64 b) ∧ w'.cell? ⟨w1.heap.size, 2, none⟩ = some (.int .i64 c) ∧ w'.cell? ⟨w1.heap.size, 3, none⟩ = some (.int .i64 d) ∧ w'.cell? ⟨w1.heap.size, 4, none⟩ = some (.int .i64 m)) ∧ (w'.cell? ⟨w5.heap.size, 0, none⟩ = some (.int .i64 px) ∧ w'.cell? ⟨w5.heap.size, 1, none⟩ = some (.int .i64 py) ∧ w'.cell? ⟨w5.heap.size, 2, none⟩ = some (.int .i64 pz) ∧ w'.cell? ⟨w5.heap.size, 3, none⟩ = some (.int .i64 pu)) ∧ (w'.cell? ⟨t, 0, none⟩ = some (.int .i64 qx) ∧ w'.cell? ⟨t, 1, none⟩ = some (.int .i64 qy) ∧ w'.cell? ⟨t, 2, none⟩ = some (.int .i64 qz) ∧ w'.cell? ⟨t, 3, none⟩ = some (.int .i64 qu))) (exact keep5544 g1 g2 hp2 hq (by go_grown)) (first | (go_at_call 16; (with_reducible refine (Q1.out _).mono ?_); rintro e w8 ⟨rfl, hb8⟩; have hbb8 := below_on (w := Wc) (by go_grown) hb8; have hs8 : Wc.heap.size ≤ w8.heap.size := hbb8.size) | (go_at_call 16; (with_reducible refine (Q3.out _).mono ?_); rintro e w9 ⟨rfl, hb9⟩; have hbb9 := below_on (w := Wc) (by go_grown) hb9; have hs9 : Wc.heap.size ≤ w9.heap.size := hbb9.size))
                all_goals
                  go_wp2
                  go_roundw
                  case rel => exact ⟨j + 1, by go_num, by omega, below_on HB5.out (by go_grown)⟩
                  case measure => simp [intOf]; omega
            · have hE0 : inB E 0 1000 = false := by simpa using hE
              have hw : wvB px py pz pu v E = false := by simp [wvB, hE0]
              have QW := Lib.hid fun W => WithValue_bad px py pz pu v E W hw
              clear q1 q2 h1 h2 hpv hw hE hE0 px0 px1 py0 py1 pz0 pz1 pu0 pu1
              go_wp2_with fail
              generalize hW5 : w5.alloc (.cells #[.int .i64 px, .int .i64 py, .int .i64 pz, .int .i64 pu] 30) = W5
              have hb55 : Below w5.heap.size w5 W5 := by subst hW5; go_grown
              have hp : C4 W5 w5.heap.size px py pz pu := by subst hW5; exact (by refine ⟨?_, ?_, ?_, ?_, ?_⟩ <;> first | (simp [go_sem]; done) | (simp; omega))
              clear hW5
              have hb4W := below_on hb5W hb55
              have g3 := c5_on hy4 hb4W
              have HB4 := Lib.hid hb4W
              clear hb4W hb5W hb5 hb55 hbl
              go_cut [12, 13] from 57 to 82 (fun p q W => PtAt W5 0 0 0 0 false p q W)
              case first =>
                go_region_held3 (fun w' => Below W5.heap.size W5 w' ∧ (w'.cell? ⟨w1.heap.size + 1, 0, none⟩ = some (.int .i64 a') ∧ w'.cell? ⟨w1.heap.size + 1, 1, none⟩ = some (.int .i64 b') ∧ w'.cell? ⟨w1.heap.size + 1, 2, none⟩ = some (.int .i64 c') ∧ w'.cell? ⟨w1.heap.size + 1, 3, none⟩ = some (.int .i64 d') ∧ w'.cell? ⟨w1.heap.size + 1, 4, none⟩ = some (.int .i64 m')) ∧ (w'.cell? ⟨w5.heap.size, 0, none⟩ = some (.int .i64 px) ∧ w'.cell? ⟨w5.heap.size, 1, none⟩ = some (.int .i64 py) ∧ w'.cell? ⟨w5.heap.size, 2, none⟩ = some (.int .i64 pz) ∧ w'.cell? ⟨w5.heap.size, 3, none⟩ = some (.int .i64 pu))) (exact keep54s g3 hp (by go_grown)) (first | (go_at_call 16; (with_reducible refine (Q2.out _).mono ?_); rintro e w6 ⟨rfl, hb6⟩; have hbb6 := below_on (w := W5) (by go_grown) hb6; have hs6 : W5.heap.size ≤ w6.heap.size := hbb6.size; have hz6 := hb6.size; (try simp at hz6); (first | (with_reducible have n6 := new4 hb6) | (with_reducible have n6 := new4d hb6) | (with_reducible have n6 := new4n hb6) | skip); (try obtain ⟨⟨n60, n61, n62, n63, n64⟩, m6⟩ := id n6)) | (go_at_call 15; (with_reducible refine (QW.out _).mono ?_); rintro e w7 ⟨rfl, hb7⟩; have hbb7 := below_on (w := W5) (by go_grown) hb7; have hs7 : W5.heap.size ≤ w7.heap.size := hbb7.size; have hz7 := hb7.size; (try simp at hz7); (first | (with_reducible have n7 := new4 hb7) | (with_reducible have n7 := new4d hb7) | (with_reducible have n7 := new4n hb7) | (with_reducible have n7 := old4 n6 hb7) | (with_reducible have n7 := old4d n6 hb7) | (with_reducible have n7 := old4n n6 hb7) | skip); (try obtain ⟨⟨n70, n71, n72, n73, n74⟩, m7⟩ := id n7)))
                all_goals
                  go_wp2_with fail
                  go_meet
                  first | (refine ⟨_, rfl, rfl, ?_⟩; first | (with_reducible exact pt_new hbb7) | (with_reducible exact pt_new (below_drew hbb7)) | (with_reducible exact pt_new (below_drewN hbb7)) | ((with_reducible refine pt_box hbb7 n7 ?_); omega))
              case rest =>
                obtain ⟨t, rfl, rfl, hq, _, ht, hBc⟩ := hcut
                have HB5 := Lib.hid (below_on HB4.out hBc)
                clear hBc g3 hp hq
                go_wp2_with fail
                go_region_with (fail)
                all_goals
                  go_wp2
                  go_roundw
                  case rel => exact ⟨j + 1, by go_num, by omega, by first | exact HB5.out | exact below_drew HB5.out | exact below_drewN HB5.out⟩
                  case measure => simp [intOf]; omega
          · have hj' : ¬ (j : Int) < 8 := by omega
            obtain ⟨x0, x1, x2, x3, x4, x5⟩ := c5_on hx4 hbl
            obtain ⟨z0, z1, z2, z3, z4, z5⟩ := c5_on hX4 hbl
            have HBL := Lib.hid hbl
            clear hbl
            go_wp2_with fail
            refine (HCF.out _).mono ?_
            rintro e w5 ⟨rfl, hb5⟩
            have HB5 := Lib.hid (below_on HBL.out hb5)
            by_cases hK0 : K = 0
            · obtain ⟨rfl, rfl, rfl, rfl, rfl⟩ := HNO.out hK0
              subst hK0
              obtain ⟨x0, x1, x2, x3, x4, x5⟩ := c5_on hx4 HB5.out
              obtain ⟨z0, z1, z2, z3, z4, z5⟩ := c5_on hX4 HB5.out
              clear hb5
              go_wp2
              go_ret
              exact ⟨rfl, below_on hw0 (below_on hbW4 HB5.out)⟩
            · have hk0 : (K == 0) = false := by simpa using hK0
              have hk1 : (K != 0) = true := by simpa using hK0
              clear hK0 hb5
              go_wp2
              go_ret
              exact ⟨rfl, below_on hw0 (below_on hbW4 HB5.out)⟩
      · have h4 : tvB ((if v = 0 then 0 else a) + a' * sel a b c d v 0) ((if v = 1 then 0 else b) + b' * sel a b c d v 0) ((if v = 2 then 0 else c) + c' * sel a b c d v 0) ((if v = 3 then 0 else d) + d' * sel a b c d v 0) (m + m' * sel a b c d v 0) = false := by simpa using h3
        have HI := Lib.hid fun W => SubstTerm_far a b c d m v a' b' c' d' m' _ _ _ _ _ W h1 h2 hv4 rfl rfl rfl rfl rfl h4
        have HS := Lib.hid fun W => specSubstTerm_far a b c d m v a' b' c' d' m' _ _ _ _ _ W h1 h2 hv4 rfl rfl rfl rfl rfl h4
        clear h1 h2 h3 h4 hv hvv hv4
        obtain ⟨x0, x1, x2, x3, x4, x5⟩ := id hx
        obtain ⟨y0, y1, y2, y3, y4, y5⟩ := id hy
        refine (HI.out _).mono ?_
        rintro e w2 ⟨rfl, hb2⟩
        obtain ⟨x0, x1, x2, x3, x4, x5⟩ := c5_on hx hb2
        obtain ⟨y0, y1, y2, y3, y4, y5⟩ := c5_on hy hb2
        go_wp2_with fail
        generalize hW2 : w2.alloc (.cells #[.int .i64 0, .int .i64 0, .int .i64 0, .int .i64 0, .int .i64 0] 24) = W2
        have hX : C5 W2 w2.heap.size 0 0 0 0 0 := by subst hW2; exact (by refine ⟨?_, ?_, ?_, ?_, ?_, ?_⟩ <;> first | (simp [go_sem]; done) | (simp; omega))
        have hbW2 : Below W.heap.size W W2 := below_on hb2 (by subst hW2; go_grown)
        clear hW2
        obtain ⟨x0, x1, x2, x3, x4, x5⟩ := c5_on hx hbW2
        obtain ⟨y0, y1, y2, y3, y4, y5⟩ := c5_on hy hbW2
        refine (HS.out _).mono ?_
        rintro e w3 ⟨rfl, hb3⟩
        have hbb3 := below_on hbW2 hb3
        clear x0 x1 x2 x3 x4 x5 y0 y1 y2 y3 y4 y5
        obtain ⟨z0, z1, z2, z3, z4, z5⟩ := c5_on hX hb3
        go_wp2
        go_ret
        have hfin := below_on hw0 hbb3
        exact ⟨rfl, by go_grown⟩
    · have h4 : (tvB a b c d m && tvB a' b' c' d' m' && varB v) = false := by simpa using hv
      have HI := Lib.hid fun W => SubstTerm_bad a b c d m v a' b' c' d' m' W h4
      have HS := Lib.hid fun W => specSubstTerm_bad a b c d m v a' b' c' d' m' W h4
      clear hv h4
      obtain ⟨x0, x1, x2, x3, x4, x5⟩ := id hx
      obtain ⟨y0, y1, y2, y3, y4, y5⟩ := id hy
      refine (HI.out _).mono ?_
      rintro e w2 ⟨rfl, hb2⟩
      obtain ⟨x0, x1, x2, x3, x4, x5⟩ := c5_on hx hb2
      obtain ⟨y0, y1, y2, y3, y4, y5⟩ := c5_on hy hb2
      go_wp2_with fail
      generalize hW2 : w2.alloc (.cells #[.int .i64 0, .int .i64 0, .int .i64 0, .int .i64 0, .int .i64 0] 24) = W2
      have hX : C5 W2 w2.heap.size 0 0 0 0 0 := by subst hW2; exact (by refine ⟨?_, ?_, ?_, ?_, ?_, ?_⟩ <;> first | (simp [go_sem]; done) | (simp; omega))
      have hbW2 : Below W.heap.size W W2 := below_on hb2 (by subst hW2; go_grown)
      clear hW2
      obtain ⟨x0, x1, x2, x3, x4, x5⟩ := c5_on hx hbW2
      obtain ⟨y0, y1, y2, y3, y4, y5⟩ := c5_on hy hbW2
      refine (HS.out _).mono ?_
      rintro e w3 ⟨rfl, hb3⟩
      have hbb3 := below_on hbW2 hb3
      clear x0 x1 x2 x3 x4 x5 y0 y1 y2 y3 y4 y5
      obtain ⟨z0, z1, z2, z3, z4, z5⟩ := c5_on hX hb3
      go_wp2
      go_ret
      have hfin := below_on hw0 hbb3
      exact ⟨rfl, by go_grown⟩
  · have hn' : (1048576 : Int) < (n : Int) := by omega
    go_enter Try.func3, Try.ntmps3
    go_wp2
    go_ret
    exact ⟨rfl, Below.refl _ _⟩

end Go.Proofs.Ytcgolbkpfncgpaa
