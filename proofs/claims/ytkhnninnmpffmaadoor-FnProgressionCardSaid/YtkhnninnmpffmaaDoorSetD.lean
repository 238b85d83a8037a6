/- The model's normal form, and what it returns of a form of any size. -/
import Derived.Test.YtkhnninnmpffmaaDoorSetC
import Derived.Lib.SmallJoins
namespace Go.Proofs.YtkhnninnmpffmaaDoor
open Go.RowKit

theorem snoc_of {l : List UInt8} (h : l ≠ []) : ∃ m x, l = m ++ [x] := ⟨l.dropLast, l.getLast h, (List.dropLast_concat_getLast h).symm⟩
theorem snoc_at (m : List UInt8) (x : UInt8) : (m ++ [x])[m.length]? = some x := by simp
def strSz : Value → Nat | .string s => s.size | _ => 0
/-- A box of two strings. -/
def S2 (w : World) (b : Nat) (x y : ByteArray) : Prop := b < w.heap.size ∧ w.cell? ⟨b, 0, none⟩ = some (.string x) ∧ w.cell? ⟨b, 1, none⟩ = some (.string y) ∧ ∀ o, w.frozen? ⟨b, o, none⟩ = false
theorem s2_on {W w' : World} {b : Nat} {x y : ByteArray} (h : S2 W b x y) (hb : Below W.heap.size W w') : S2 w' b x y :=
  ⟨Nat.lt_of_lt_of_le h.1 hb.size, ((bcell hb).1 b 0 h.1).trans h.2.1, ((bcell hb).1 b 1 h.1).trans h.2.2.1, fun o => ((bcell hb).2 b o h.1).trans (h.2.2.2 o)⟩
theorem s2_new {w W : World} {x y : ByteArray} {t : TypeId} (hW : w.alloc (.cells #[.string x, .string y] t) = W) : S2 W w.heap.size x y ∧ W.heap.size = w.heap.size + 1 ∧ Below w.heap.size w W := by
  subst hW
  exact ⟨by refine ⟨?_, ?_, ?_, ?_⟩ <;> first | (simp [go_sem]; done) | (intro o; simp [go_sem]; done), by simp, by go_grown⟩
theorem s2_put {W W' : World} {b : Nat} {x y : ByteArray} (hW : (W.setCell ⟨b, 0, none⟩ (.string x)).setCell ⟨b, 1, none⟩ (.string y) = W') (x' y' : ByteArray) (hx : S2 W b x' y') :
    S2 W' b x y ∧ W'.heap.size = W.heap.size ∧ (∀ c u v, c ≠ b → S2 W c u v → S2 W' c u v) ∧ (∀ (w : World), Below w.heap.size w W → w.heap.size ≤ b → Below w.heap.size w W') := by
  obtain ⟨x0, c0, c1, fz⟩ := hx
  subst hW
  have hsz : ((W.setCell ⟨b, 0, none⟩ (.string x)).setCell ⟨b, 1, none⟩ (.string y)).heap.size = W.heap.size := by simp [World.setCell]
  refine ⟨⟨by rw [hsz]; exact x0, by simp [go_sem, *], by simp [go_sem, *], fun o => by simp [go_sem, *]⟩, hsz, fun c u v hy hc => ?_, fun w hw hx => ?_⟩
  · obtain ⟨y0, d0, d1, gz⟩ := hc
    exact ⟨by rw [hsz]; exact y0, by simp [go_sem, *], by simp [go_sem, *], fun o => by simp [go_sem, *]⟩
  · exact (hw.setCell hx _).setCell hx _
/-- The model's loop: what holds at each round. -/
def NrR (h l : List UInt8) (A M : List UInt8) : Prop := M ≠ [] ∧ M.length ≤ l.length ∧ A.length ≤ h.length ∧ nfS A M = nfS h l ∧ MinS (atS A M) M.length
theorem nr_turn {h l A M : List UInt8} {x : UInt8} (hr : NrR h l (A ++ [x]) (M ++ [x])) : NrR h l A (x :: M) := by
  obtain ⟨h1, h2, h3, h4, h5⟩ := hr
  refine ⟨by simp, by simpa using h2, by simp at h3; omega, by rw [← nfS_turn]; exact h4, ?_⟩
  rw [← at_turn']
  simpa using h5
theorem nr_nil {h l M : List UInt8} (hr : NrR h l [] M) : nfS h l = ([], M) := by
  rw [← hr.2.2.2.1]
  exact nfS_nf ⟨hr.1, hr.2.2.2.2, .inl rfl⟩
theorem nr_ne {h l A M : List UInt8} {x y : UInt8} (hr : NrR h l (A ++ [x]) (M ++ [y])) (hne : ¬ x = y) : nfS h l = (A ++ [x], M ++ [y]) := by
  rw [← hr.2.2.2.1]
  exact nfS_nf ⟨hr.1, hr.2.2.2.2, .inr (by rw [List.getLast?_concat, List.getLast?_concat]; exact fun e => hne (Option.some.inj e))⟩
theorem nr_least {h l : List UInt8} {d : Nat} (hl : l ≠ []) (hd : IsLs l d) : NrR h l h (l.take d) := by
  obtain ⟨d0, d1, d2, d3⟩ := hd
  have hl0 : 0 < l.length := List.length_pos_iff.2 hl
  have hdl : d ≤ l.length := Nat.le_of_dvd hl0 d1
  have hlen : (l.take d).length = d := by rw [List.length_take]; omega
  have hne : l.take d ≠ [] := fun e => by rw [e] at hlen; simp at hlen; omega
  refine ⟨hne, by omega, Nat.le_refl _, ?_, by rw [hlen]; exact least_min d0 d1 hl0 d2 d3⟩
  exact nfS_congr hne hl fun n => rep_at d0 d1 d2 n

set_option maxHeartbeats 2000000 in
theorem l7Normal_any (h l : List UInt8) (w : World) (hl0 : l ≠ []) (hh : h.length ≤ 1000000000) (hl : l.length ≤ 1000000000) :
    Calls Tryd.prog 26 #[.string (bs h), .string (bs l)] w fun e w' => e = .returned (.agg #[.string (bs ((nfS h l).1)), .string (bs ((nfS h l).2))]) ∧ Below w.heap.size w w' := by
  have HL := Lib.hid fun w => l7Least_any l w hl0 hl
  have HR := Lib.hid fun d => nr_least (h := h) (d := d) hl0
  have happ := bs_app
  clear hl0
  go_enter Tryd.func26, Tryd.ntmps26
  go_wp2_with fail
  generalize hW : World.alloc w _ = W
  obtain ⟨hz, hsW, hw0⟩ := s2_new hW
  clear hW
  refine (HL.out _).mono ?_
  rintro e w1 ⟨⟨d, rfl, hd⟩, hb1⟩
  have HZ := Lib.hid (s2_on hz hb1)
  have hb1' := below_on hw0 hb1
  have HN := Lib.hid (HR.out d hd)
  generalize l.take d = m at HN
  clear hd
  go_wp2
  go_loopw [0, 1] (fun x y wr => ∃ A M : List UInt8, x = .string (bs A) ∧ y = .string (bs M) ∧ NrR h l A M ∧ Below w1.heap.size w1 wr) (fun x _ _ => strSz x)
  case atStart => exact ⟨h, m, rfl, rfl, HN.out, Below.refl _ _⟩
  case round =>
    obtain ⟨A, M, rfl, rfl, hr, hb⟩ := hrel
    have HRR := Lib.hid hr
    have HB := Lib.hid hb
    clear hr hb
    by_cases hA : A = []
    · subst hA
      have hs0 : (bs ([] : List UInt8)).size = 0 := bs_size []
      have HF := Lib.hid (nr_nil HRR.out)
      clear HN HL HR happ
      go_wp2
      go_region
      obtain ⟨y0, y1, y2, y3⟩ := s2_on HZ.out (below_on HB.out (by go_grown))
      go_wp2
      generalize hW : World.setCell _ _ _ = W8
      obtain ⟨⟨_, r1, r2, _⟩, _, _, hb8⟩ := s2_put hW _ _ ⟨y0, y1, y2, y3⟩
      refine bodyPost_ret (v := .agg #[.string (bs ([])), .string (bs M)]) (by simp [results, Tryd.results26, go_sem, r1, r2]) rfl ⟨by rw [HF.out], ?_⟩
      exact below_on (hb8 w (below_on hb1' (below_on HB.out (by go_grown))) (Nat.le_refl _)) (by go_grown)
    · obtain ⟨A0, x, rfl⟩ := snoc_of hA
      obtain ⟨M0, y, rfl⟩ := snoc_of HRR.out.1
      obtain ⟨a, ha⟩ : ∃ a, A0.length = a := ⟨_, rfl⟩
      obtain ⟨p, hp⟩ : ∃ p, M0.length = p := ⟨_, rfl⟩
      obtain ⟨n, hn⟩ : ∃ n, a + 1 = n := ⟨_, rfl⟩
      obtain ⟨m, hm⟩ : ∃ m, p + 1 = m := ⟨_, rfl⟩
      have hlen1 : (A0 ++ [x]).length = n := by simp; omega
      have hlen2 : (M0 ++ [y]).length = m := by simp; omega
      have hx := snoc_at A0 x
      have hy := snoc_at M0 y
      rw [ha] at hx
      rw [hp] at hy
      have s1 := run_upto (P := Tryd.prog) Tryd.underlying9 (l := A0 ++ [x]) (k := a) (by omega) (by rw [← ha, List.take_left]) .i64
      have s2 := run_upto (P := Tryd.prog) Tryd.underlying9 (l := M0 ++ [y]) (k := p) (by omega) (by rw [← hp, List.take_left]) .i64
      have s3 := run_from (P := Tryd.prog) Tryd.underlying9 (l := M0 ++ [y]) (k := p) (by omega) (by rw [← hp, List.drop_left]) .i64
      have i1 := fun w => run_at (P := Tryd.prog) Tryd.underlying9 hx .i64 w
      have i2 := fun w => run_at (P := Tryd.prog) Tryd.underlying9 hy .i64 w
      have z1 := bs_size (A0 ++ [x])
      have z2 := bs_size (M0 ++ [y])
      have c1 : bs [y] ++ bs M0 = bs (y :: M0) := happ [y] M0
      have z3 : (bs [y]).size = 1 := bs_size [y]
      have z4 : (bs M0).size = p := by rw [bs_size, hp]
      rw [hlen1] at z1
      rw [hlen2] at z2
      have k1 : Hid (A0.length ≤ 1000000000 ∧ A0.length < (A0 ++ [x]).length ∧ (M0 ++ [y]).length ≤ 1000000000) := Lib.hid (by have q1 := HRR.out.2.1; have q2 := HRR.out.2.2.1; rw [List.length_append] at q1 q2 ⊢; simp at q1 q2 ⊢; omega)
      have b1 : a ≤ 1000000000 := by rw [← ha]; exact k1.out.1
      have b2 : p ≤ 1000000000 := by have := k1.out.2.2; omega
      have hw1 : IntKind.i64.wrap ((n : Int) - 1) = (a : Int) := by rw [IntKind.wrap_i64]; omega
      have hw2 : IntKind.i64.wrap ((m : Int) - 1) = (p : Int) := by rw [IntKind.wrap_i64]; omega
      have g1 : decide (0 < n) = true := decide_eq_true (by omega)
      have zx : Hid ((bs A0).size < (bs (A0 ++ [x])).size) := Lib.hid (by rw [bs_size, bs_size]; exact k1.out.2.1)
      obtain ⟨u, hu⟩ : ∃ u : Int, (x.toNat : Int) = u := ⟨_, rfl⟩
      obtain ⟨v, hv⟩ : ∃ v : Int, (y.toNat : Int) = v := ⟨_, rfl⟩
      have e1 : (u == v) = (x == y) := by rw [← hu, ← hv]; exact u8_eq x y
      rw [hu] at i1
      rw [hv] at i2
      have HE : Hid (x = y → NrR h l A0 (y :: M0)) := Lib.hid fun e => by subst e; exact nr_turn HRR.out
      have HX : Hid (¬ x = y → nfS h l = (A0 ++ [x], M0 ++ [y])) := Lib.hid fun e => nr_ne HRR.out e
      clear hA HRR hu hv hx hy ha hp hlen1 hlen2 k1 HN HL HR happ
      generalize A0 ++ [x] = X at *
      generalize M0 ++ [y] = Y at *
      cases hq : x == y with
      | true =>
        rw [hq] at e1
        have HR2 := Lib.hid (HE.out (by simpa using hq))
        clear hq HE HX
        go_wp2
        go_region
        go_wp2
        go_region
        go_wp2
        go_roundw
        case rel => exact ⟨A0, y :: M0, rfl, rfl, HR2.out, below_on HB.out (by go_grown)⟩
        case measure => exact zx.out
      | false =>
        rw [hq] at e1
        have HF := Lib.hid (HX.out (by simpa using hq))
        clear hq HE HX
        go_wp2
        go_region
        obtain ⟨y0, y1, y2, y3⟩ := s2_on HZ.out (below_on HB.out (by go_grown))
        go_wp2
        generalize hW : World.setCell _ _ _ = W8
        obtain ⟨⟨_, r1, r2, _⟩, _, _, hb8⟩ := s2_put hW _ _ ⟨y0, y1, y2, y3⟩
        refine bodyPost_ret (v := .agg #[.string (bs X), .string (bs Y)]) (by simp [results, Tryd.results26, go_sem, r1, r2]) rfl ⟨by rw [HF.out], ?_⟩
        exact below_on (hb8 w (below_on hb1' (below_on HB.out (by go_grown))) (Nat.le_refl _)) (by go_grown)
end Go.Proofs.YtkhnninnmpffmaaDoor
