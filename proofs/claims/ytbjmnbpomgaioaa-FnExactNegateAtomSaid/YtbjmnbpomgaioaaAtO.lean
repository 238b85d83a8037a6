/- Contracts of the program's atMost, SplitZero and NegateAtom. -/
import Derived.Test.YtbjmnbpomgaioaaAtN
import Derived.Test.YtbjmnbpomgaioaaAtF
import Derived.Laws.AppendOwn
namespace Go.Proofs.Ytbjmnbpomgaioaa
open Go.RowKit

/-- A new list of multiples. -/
def MulT (a b c d n : Int) (w : World) (e : Ending) (w' : World) : Prop := ∃ bl, e = .returned (.slice (some ⟨bl, 0, none⟩) 5 5) ∧ C5 w' bl a b c d n ∧ Below w.heap.size w w' ∧ w.heap.size ≤ bl

theorem multiples_new (a b c d n : Int) (w : World) : Calls Try.prog 72 #[.agg #[.int .i64 a, .int .i64 b, .int .i64 c, .int .i64 d, .int .i64 n]] w (MulT a b c d n w) :=
  (multiples_any a b c d n w).mono fun e w' ⟨he, hw⟩ => ⟨_, he, by subst hw; exact (by refine ⟨?_, ?_, ?_, ?_, ?_, ?_⟩ <;> first | (simp [go_sem]; done) | (simp; omega)), by subst hw; go_grown, by omega⟩
theorem times_new (a b c d n k A B C D M : Int) (bl : Nat) (w : World) (hl : C5 w bl a b c d n) (hA : a * k = A) (hB : b * k = B) (hC : c * k = C) (hD : d * k = D) (hM : n * k = M)
    (hs : (-100000000 ≤ A ∧ A ≤ 100000000) ∧ (-100000000 ≤ B ∧ B ≤ 100000000) ∧ (-100000000 ≤ C ∧ C ≤ 100000000) ∧ (-100000000 ≤ D ∧ D ≤ 100000000) ∧ (-100000000 ≤ M ∧ M ≤ 100000000)) :
    Calls Try.prog 74 #[.slice (some ⟨bl, 0, none⟩) 5 5, .int .i64 k] w (MulT A B C D M w) := by
  subst hA hB hC hD hM
  exact (times_of a b c d n k bl w hl hs).mono fun e w' ⟨he, hw⟩ => ⟨_, he, by subst hw; exact (by refine ⟨?_, ?_, ?_, ?_, ?_, ?_⟩ <;> first | (simp [go_sem]; done) | (simp; omega)), by subst hw; go_grown, by omega⟩
theorem plus_new (a b c d n a' b' c' d' n' A B C D M : Int) (bl bm : Nat) (w : World) (hl : C5 w bl a b c d n) (hm : C5 w bm a' b' c' d' n') (hA : a + a' = A) (hB : b + b' = B) (hC : c + c' = C) (hD : d + d' = D) (hM : n + n' = M)
    (hs : (-1000000000 ≤ A ∧ A ≤ 1000000000) ∧ (-1000000000 ≤ B ∧ B ≤ 1000000000) ∧ (-1000000000 ≤ C ∧ C ≤ 1000000000) ∧ (-1000000000 ≤ D ∧ D ≤ 1000000000) ∧ (-1000000000 ≤ M ∧ M ≤ 1000000000)) :
    Calls Try.prog 73 #[.slice (some ⟨bl, 0, none⟩) 5 5, .slice (some ⟨bm, 0, none⟩) 5 5] w (MulT A B C D M w) := by
  subst hA hB hC hD hM
  exact (plus_of a b c d n a' b' c' d' n' bl bm w hl hm hs).mono fun e w' ⟨he, hw⟩ => ⟨_, he, by subst hw; exact (by refine ⟨?_, ?_, ?_, ?_, ?_, ?_⟩ <;> first | (simp [go_sem]; done) | (simp; omega)), by subst hw; go_grown, by omega⟩

/-- A list of sums reads as the terms of the atoms L. -/
def SumsAt (w : World) (v : Value) (L : List AtD) : Prop :=
  ∃ g cap, v = .slice (some ⟨g, 0, none⟩) L.length cap ∧ g < w.heap.size ∧ L.length ≤ 1000 ∧ (∀ x ∈ L, x.k = 0 ∧ x.m = 0) ∧ ∀ i x, L[i]? = some x → ∃ bl, w.cell? ⟨g, i, none⟩ = some (.slice (some ⟨bl, 0, none⟩) 5 5) ∧ C5 w bl x.a x.b x.c x.d x.n

theorem Try.infoAtom : (Try.prog.info? 41).map (fun i => (i.zero, i.size, i.bytes)) = some (some (.agg #[.int .i64 0, .int .i64 0, .int .i64 0, .int .i64 0, .int .i64 0, .int .i64 0, .int .i64 0]), 7, 56) := by kernel_rfl
theorem Try.infoMul : (Try.prog.info? 86).map (fun i => (i.zero, i.size, i.bytes)) = some (some (.slice none 0 0), 1, 24) := by kernel_rfl

theorem acells_one (x : AtD) : ∀ u ∈ acells x, u.oneCell' = true := by
  intro u hu
  simp only [acells, List.mem_cons, List.not_mem_nil, or_false] at hu
  rcases hu with rfl | rfl | rfl | rfl | rfl | rfl | rfl <;> rfl
theorem grown_below2 {w W W' : World} {v : Value} {B e size n : Nat} {xs : List Value} (hb : Below w.heap.size w W) (hown : W.ownsRow B e size v n xs) (hB : w.heap.size ≤ B) (hg : W.grownBy W' v.ownBlock) : Below w.heap.size w W' :=
  ⟨hg.os.trans hb.os, hg.tape.trans hb.tape, hg.output.trans hb.output, Nat.le_trans hb.size hg.size, fun i hi =>
    (hg.block i (Nat.lt_of_lt_of_le hi hb.size) (fun e => by have := hown.lt i e.symm; omega)).trans (hb.block i hi)⟩

def AmR (L : List AtD) (w : World) (v i : Value) (wr : World) : Prop := ∃ k : Nat, i = .int .i64 k ∧ k ≤ L.length ∧ (L.take k).all avD = true ∧ OwnA wr w.heap.size v (L.take k) ∧ Below w.heap.size w wr

theorem atom_news {w : World} (x : AtD) : ∀ j u, (acells x)[j]? = some u → (w.alloc (.cells (acells x).toArray 41)).cell? ((⟨w.heap.size, 0, none⟩ : Addr).add j) = some u := by
  intro j u hj
  match j, hj with
  | 0, hj => simp [acells] at hj; subst hj; simp [Addr.add, acells]
  | 1, hj => simp [acells] at hj; subst hj; simp [Addr.add, acells]
  | 2, hj => simp [acells] at hj; subst hj; simp [Addr.add, acells]
  | 3, hj => simp [acells] at hj; subst hj; simp [Addr.add, acells]
  | 4, hj => simp [acells] at hj; subst hj; simp [Addr.add, acells]
  | 5, hj => simp [acells] at hj; subst hj; simp [Addr.add, acells]
  | 6, hj => simp [acells] at hj; subst hj; simp [Addr.add, acells]
  | j + 7, hj => simp [acells] at hj

set_option maxRecDepth 10000 in
set_option maxHeartbeats 2000000 in
theorem atMost_t (v : Value) (L : List AtD) (w : World) (h : SumsAt w v L) (M : List AtD) (t : Bool) (ht : L.all avD = t) (hM : M = if t then L else []) :
    Calls Try.prog 75 #[v] w (AtsT M t w) := by
  obtain ⟨g, cap, rfl, hg, hL, hz, hc⟩ := h
  obtain ⟨i0, hi, hz0, hz1, hz2⟩ := info_parts Try.infoAtom
  have HI := Lib.hid (And.intro hi (And.intro hz0 (And.intro hz1 hz2)))
  obtain ⟨N, hN⟩ : ∃ N, N = L.length := ⟨_, rfl⟩
  rw [← hN] at hL ⊢
  have HN := Lib.hid hN
  have HC := Lib.hid hc
  have HZ := Lib.hid hz
  have HT := Lib.hid ht
  have HM := Lib.hid hM
  clear hN hc hz ht hM hi hz0 hz1 hz2
  go_enter Try.func75, Try.ntmps75
  go_wp2
  go_loopw [4, 11] (fun v i wr => AmR L w v i wr) (fun _ i _ => N - (intOf i).toNat)
  case atStart => exact ⟨0, rfl, by omega, rfl, World.ownsRow_nil _ _ _ _, Below.refl _ _⟩
  case round =>
    obtain ⟨k, rfl, hk, hall, hown, hbw⟩ := hrel
    have hk' : k ≤ N := by rw [HN.out]; exact hk
    have HALL := Lib.hid hall
    have HO := Lib.hid hown
    have HB := Lib.hid hbw
    have hsw := hbw.size
    clear hk hall hown
    by_cases hlt : k < N
    · have hkN : (k : Int) < (N : Int) := by omega
      have hk0 : (0 : Int) ≤ k := by omega
      obtain ⟨y, hy⟩ : ∃ y, L[k]? = some y := ⟨_, List.getElem?_eq_getElem (by rw [← HN.out]; exact hlt)⟩
      obtain ⟨bl, hcell, hc5⟩ := HC.out k y hy
      have hc1 := (hbw.cell (p := ⟨g, k, none⟩) hg).trans hcell
      have HC5 := Lib.hid (c5_on hc5 hbw)
      have HT1 := Lib.hid (show L.take (k + 1) = L.take k ++ [y] by rw [List.take_add_one, hy]; rfl)
      have hyz := HZ.out y (List.mem_of_getElem? hy)
      have hav : avD y = avB 0 0 y.a y.b y.c y.d y.n := by unfold avD; rw [hyz.1, hyz.2]
      have HNN := Lib.hid (show k + 1 ≤ L.length by rw [← HN.out]; omega)
      have HY := Lib.hid (show y = mostD y.a y.b y.c y.d y.n by obtain ⟨q0, q1, q2, q3, q4, q5, q6⟩ := y; obtain ⟨rfl, rfl⟩ := hyz; rfl)
      have HMEM := Lib.hid (List.mem_of_getElem? hy)
      clear hcell hc5 hy hyz hbw
      cases ha : avB 0 0 y.a y.b y.c y.d y.n with
      | true =>
        have HA := Lib.hid ha
        have HAV := Lib.hid (hav.trans ha)
        clear ha hav
        go_wp2_with fail
        refine (withSum_yes 0 0 0 0 0 0 0 _ _ _ _ _ bl wr HC5.out HA.out).mono ?_
        rintro e w1 ⟨rfl, hb1⟩
        have hown1 := own_below (show wr.ownsRow w.heap.size 41 7 _ (L.take k).length (AL (L.take k)) from HO.out) hb1
        have HB1 := Lib.hid (below_on HB.out hb1)
        have hs1 := HB1.out.size
        have hlen : (L.take k).length ≤ 1000 := by rw [List.length_take]; omega
        obtain ⟨hi, hz0, hz1, hz2⟩ := HI.out
        clear hc1 hb1
        go_upto_region 8 with fail
        generalize hW : w1.alloc _ = W
        have hx : C7 W w1.heap.size 0 0 y.a y.b y.c y.d y.n := by subst hW; exact (by refine ⟨?_, ?_, ?_, ?_, ?_, ?_, ?_, ?_⟩ <;> first | (simp [go_sem]; done) | (simp; omega))
        have hbW : Below w1.heap.size w1 W := by subst hW; go_grown
        have hownW := own_below hown1 hbW
        have HBW := Lib.hid (below_on HB1.out hbW)
        have hsW := HBW.out.size
        obtain ⟨x0, x1, x2, x3, x4, x5, x6, x7⟩ := hx
        clear hW hbW hown1
        go_wp2_with (at_builtin; refine wpList_append_own _ rfl _ _ 36 rfl w.heap.size 41 i0 (.agg #[.int .i64 0, .int .i64 0, .int .i64 0, .int .i64 0, .int .i64 0, .int .i64 0, .int .i64 0]) 7 56 Try.underlying36 hi hz0 hz1 hz2 rfl (by decide) _ _ _ rfl (hownW.alloc _) ⟨W.heap.size, 0, none⟩ 1 1 (acells (mostD y.a y.b y.c y.d y.n)) rfl rfl ?c1 ?c2 ?c3 ?c4 ?c5 ?_)
        case c1 => exact atom_news (w := W) (mostD y.a y.b y.c y.d y.n)
        case c2 => exact acells_one _
        case c3 => unfold maxLen; omega
        case c4 => omega
        case c5 => simp; omega
        · intro v' w4 hown4 hgrow _
          have hbA : Below W.heap.size W (W.alloc (.cells (acells (mostD y.a y.b y.c y.d y.n)).toArray 41)) := by go_grown
          have HN4 : Hid (OwnA w4 w.heap.size v' (L.take (k + 1))) := by
            show w4.ownsRow _ _ _ _ _ _
            rw [HT1.out, al_app, List.length_append]
            have e : AL [y] = acells (mostD y.a y.b y.c y.d y.n) := by rw [← HY.out]; simp [AL]
            rw [e, List.length_take]
            exact hown4
          have HB4 : Hid (Below w.heap.size w w4) := grown_below2 (HBW.out.trans (hbA.mono (by omega))) (own_below hownW hbA) (Nat.le_refl _) hgrow
          have HA4 := Lib.hid (show (L.take (k + 1)).all avD = true by rw [HT1.out, List.all_append, HALL.out]; simp [HAV.out])
          clear hown4 hgrow hbA hownW hi hz0 hz1 hz2 x0 x1 x2 x3 x4 x5 x6 x7
          go_wp2
          go_roundw
          case rel => exact ⟨k + 1, by go_num, HNN.out, HA4.out, HN4.out, HB4.out⟩
          case measure => simp [intOf]; omega
      | false =>
        have HA := Lib.hid ha
        have HAV := Lib.hid (hav.trans ha)
        clear ha hav
        go_wp2_with fail
        refine (withSum_no 0 0 0 0 0 0 0 _ _ _ _ _ bl wr HC5.out HA.out).mono ?_
        rintro e w1 ⟨rfl, hb1⟩
        have HB1 := Lib.hid (below_on HB.out hb1)
        have hs1 := HB1.out.size
        have ht : t = false := by rw [← HT.out, List.all_eq_false]; exact ⟨y, HMEM.out, by rw [HAV.out]; simp⟩
        have HT2 := Lib.hid ht
        clear hc1 ht
        go_wp2
        go_ret2
        have e := HT2.out
        subst e
        have e := HM.out
        subst e
        exact ⟨_, rfl, World.ownsRow_nil _ _ _ _, by have := HB1.out; go_grown⟩
    · have hkN : ¬ (k : Int) < (N : Int) := by omega
      obtain rfl : k = N := by omega
      have ht : t = true := by have := HALL.out; rw [HN.out, List.take_length] at this; rw [← HT.out]; exact this
      have HT2 := Lib.hid ht
      clear ht
      go_wp2
      go_ret2
      have e := HT2.out
      subst e
      have e := HM.out
      subst e
      exact ⟨_, rfl, by have := HO.out; rw [HN.out, List.take_length] at this; exact this, hbw⟩

theorem sums_of {w : World} {g cap : Nat} (L : List AtD) (hg : g < w.heap.size) (hL : L.length ≤ 1000) (hz : ∀ x ∈ L, x.k = 0 ∧ x.m = 0) (h : ∀ i x, L[i]? = some x → ∃ bl, w.cell? ⟨g, i, none⟩ = some (.slice (some ⟨bl, 0, none⟩) 5 5) ∧ C5 w bl x.a x.b x.c x.d x.n) : SumsAt w (.slice (some ⟨g, 0, none⟩) L.length cap) L :=
  ⟨g, cap, rfl, hg, hL, hz, h⟩
theorem sums_one {w : World} {g cap bl : Nat} {a b c d n : Int} (hg : g < w.heap.size) (hc : w.cell? ⟨g, 0, none⟩ = some (.slice (some ⟨bl, 0, none⟩) 5 5)) (h5 : C5 w bl a b c d n) : SumsAt w (.slice (some ⟨g, 0, none⟩) 1 cap) [mostD a b c d n] :=
  sums_of [mostD a b c d n] hg (by simp) (by intro x hx; simp at hx; subst hx; exact ⟨rfl, rfl⟩) (by
    intro i x hx
    match i, hx with
    | 0, hx => simp at hx; subst hx; exact ⟨bl, hc, h5⟩
    | i + 1, hx => simp at hx)
theorem sums_two {w : World} {g cap bl bm : Nat} {a b c d n a' b' c' d' n' : Int} (hg : g < w.heap.size) (hc : w.cell? ⟨g, 0, none⟩ = some (.slice (some ⟨bl, 0, none⟩) 5 5)) (h5 : C5 w bl a b c d n) (hc' : w.cell? ⟨g, 1, none⟩ = some (.slice (some ⟨bm, 0, none⟩) 5 5)) (h5' : C5 w bm a' b' c' d' n') : SumsAt w (.slice (some ⟨g, 0, none⟩) 2 cap) [mostD a b c d n, mostD a' b' c' d' n'] :=
  sums_of [mostD a b c d n, mostD a' b' c' d' n'] hg (by simp) (by intro x hx; simp at hx; rcases hx with rfl | rfl <;> exact ⟨rfl, rfl⟩) (by
    intro i x hx
    match i, hx with
    | 0, hx => simp at hx; subst hx; exact ⟨bl, hc, h5⟩
    | 1, hx => simp at hx; subst hx; exact ⟨bm, hc', h5'⟩
    | i + 2, hx => simp at hx)

theorem szL_ok {a b c d n : Int} (h : tvB a b c d n = true) : (szL a b c d n).all avD = true := by
  obtain ⟨⟨a0, a1⟩, ⟨b0, b1⟩, ⟨c0, c1⟩, ⟨d0, d1⟩, n0, n1⟩ := tv_bd h
  have e : ∀ a b c d n : Int, avD (mostD a b c d n) = tvB a b c d n := fun a b c d n => avB_most a b c d n
  simp only [szL, List.all_cons, List.all_nil, Bool.and_true, e, Bool.and_eq_true]
  refine ⟨h, ?_⟩
  simp only [tvB, wlB, Bool.and_eq_true, decide_eq_true_eq]
  omega

set_option maxRecDepth 10000 in
set_option maxHeartbeats 2000000 in
theorem SplitZero_t (k m a b c d n : Int) (w : World) :
    Calls Try.prog 26 #[.agg #[.int .i64 k, .int .i64 m, .int .i64 a, .int .i64 b, .int .i64 c, .int .i64 d, .int .i64 n]] w (AtsT (if avB k m a b c d n = true ∧ k = 1 then szL a b c d n else []) (decide (avB k m a b c d n = true ∧ k = 1)) w) := by
  cases hav : avB k m a b c d n with
  | false =>
    have HA := Lib.hid hav
    rw [if_neg (by simp), decide_eq_false (by simp)]
    clear hav
    go_enter Try.func26, Try.ntmps26
    go_wp2_with fail
    generalize hW : World.alloc _ _ = W
    have hw : Below w.heap.size w W := by subst hW; go_grown
    clear hW
    refine (AtomValid_is _ _ _ _ _ _ _ false _ HA.out).mono ?_
    rintro e w1 ⟨rfl, hb1⟩
    go_wp2
    go_ret2
    exact ⟨_, rfl, World.ownsRow_nil _ _ _ _, below_on hw hb1⟩
  | true =>
    have HA := Lib.hid hav
    by_cases hk : k = 1
    · subst hk
      rw [if_pos ⟨rfl, rfl⟩, decide_eq_true ⟨rfl, rfl⟩]
      have htv := (avB_cases hav).2
      obtain ⟨q1, q2, q3, q4, q5⟩ := tv_bd htv
      have HALL := Lib.hid (szL_ok htv)
      have HTM := Lib.hid fun bl W hl => times_new a b c d n (-1) (-a) (-b) (-c) (-d) (-n) bl W hl (by omega) (by omega) (by omega) (by omega) (by omega) (by omega)
      clear hav htv q1 q2 q3 q4 q5
      go_enter Try.func26, Try.ntmps26
      go_wp2_with fail
      generalize hW : World.alloc _ _ = W
      have hx : C7 W w.heap.size 1 m a b c d n := by subst hW; exact (by refine ⟨?_, ?_, ?_, ?_, ?_, ?_, ?_, ?_⟩ <;> first | (simp [go_sem]; done) | (simp; omega))
      have hw : Below w.heap.size w W := by subst hW; go_grown
      clear hW
      refine (AtomValid_is _ _ _ _ _ _ _ true _ HA.out).mono ?_
      rintro e w1 ⟨rfl, hb1⟩
      obtain ⟨x0, x1, x2, x3, x4, x5, x6, x7⟩ := c7_on hx hb1
      have hw1 := below_on hw hb1
      go_wp2_with fail
      refine (multiples_new a b c d n w1).mono ?_
      rintro e w2 ⟨b2, rfl, h2, hb2, _⟩
      have hw2 := below_on hw1 hb2
      clear x0 x1 x2 x3 x4 x5 x6 x7 hx hb1
      go_wp2_with fail
      refine (HTM.out b2 w2 h2).mono ?_
      rintro e w3 ⟨b3, rfl, h3, hb3, _⟩
      have hw3 := below_on hw2 hb3
      have h23 := c5_on h2 hb3
      go_wp2_with fail
      generalize hW : World.alloc _ _ = W4
      have hb4 : Below w3.heap.size w3 W4 := by subst hW; go_grown
      have hs : SumsAt W4 (.slice (some ⟨w3.heap.size, 0, none⟩) 2 2) (szL a b c d n) := by
        refine sums_two (bl := b2) (bm := b3) (by subst hW; simp) (by subst hW; simp [go_sem]) (c5_on h23 hb4) (by subst hW; simp [go_sem]) (c5_on h3 hb4)
      have hw4 := below_on hw3 hb4
      clear hW h2 h23 h3
      refine (atMost_t _ _ W4 hs (szL a b c d n) true HALL.out rfl).mono ?_
      rintro e w5 ⟨v5, rfl, ho5, hb5⟩
      have HO := Lib.hid (show OwnA w5 w.heap.size v5 (szL a b c d n) from own_mono ho5 hw4.size)
      have hw5 := below_on hw4 hb5
      clear ho5 hs
      go_wp2
      go_ret2
      exact ⟨_, rfl, HO.out, hw5⟩
    · have hk1 : (k == 1) = false := by simpa using hk
      have hk2 : (k != 1) = true := by simpa using hk
      rw [if_neg (fun h => hk h.2), decide_eq_false (fun h => hk h.2)]
      clear hav hk
      go_enter Try.func26, Try.ntmps26
      go_wp2_with fail
      generalize hW : World.alloc _ _ = W
      have hx : C7 W w.heap.size k m a b c d n := by subst hW; exact (by refine ⟨?_, ?_, ?_, ?_, ?_, ?_, ?_, ?_⟩ <;> first | (simp [go_sem]; done) | (simp; omega))
      have hw : Below w.heap.size w W := by subst hW; go_grown
      clear hW
      refine (AtomValid_is _ _ _ _ _ _ _ true _ HA.out).mono ?_
      rintro e w1 ⟨rfl, hb1⟩
      obtain ⟨x0, x1, x2, x3, x4, x5, x6, x7⟩ := c7_on hx hb1
      go_wp2
      go_ret2
      exact ⟨_, rfl, World.ownsRow_nil _ _ _ _, below_on hw hb1⟩

end Go.Proofs.Ytbjmnbpomgaioaa
