/- Reading a term's text, the program: readMultiples and ParseTerm. -/
import Derived.Test.YtjgmoledhkikcaaDoorPtA
import Derived.Test.YtjgmoledhkikcaaDoorIm
import Derived.Test.YtjgmoledhkikcaaDoorDr1
import Derived.Maps.OwnOps
import Derived.Maps.Views
namespace Go.Proofs.YtjgmoledhkikcaaDoor
open Go.RowKit Go.Maps

/-- Block M is a map that gives the numbers of m. -/
def MapIs (w : World) (M N : Nat) (m : UInt8 → Int) : Prop :=
  ∃ D : DataW Unit, IsMap D ∧ w.ownsMap Tryd.prog 5 (plainElem Tryd.prog 3) M N D ∧ ∀ c : UInt8, D.atKey (.int .u8 (c.toNat : Int)) (.lit (.int .i64 0)) = .lit (.int .i64 (m c))
theorem lawU8 : Keyed Tryd.prog 5 := int_keyed Tryd.underlying5
theorem zeroInt (w : World) : (zeroValue 3).run Tryd.prog w = .ok (.int .i64 0) w := by kernel_rfl
theorem wf_u8 (c : UInt8) : (Lit.int .u8 (c.toNat : Int)).wf = true := by
  have := c.toNat_lt
  have h : ∀ n : Fin 256, (Lit.int .u8 (n.1 : Int)).wf = true := by decide +kernel
  exact h ⟨c.toNat, this⟩
theorem map_made (w : World) : MapIs (w.alloc (.map #[] 0)) w.heap.size 0 (fun _ => 0) :=
  ⟨.map [], isMap_empty, World.ownsMap_made _ _ _ _, fun _ => rfl⟩
theorem map_on {w w' : World} {M N : Nat} {m : UInt8 → Int} (h : MapIs w M N m) (hb : Below w.heap.size w w') : MapIs w' M N m := by
  obtain ⟨D, h1, h2, h3⟩ := h
  exact ⟨D, h1, h2.kept (row := none) ⟨hb.os, hb.tape, hb.output, hb.size, fun i hi _ => hb.block i hi⟩ (by simp), h3⟩
theorem map_put {w : World} {M N : Nat} {m : UInt8 → Int} {D : DataW Unit} {c : UInt8} {n : Int} (h1 : IsMap D) (h3 : ∀ c : UInt8, D.atKey (.int .u8 (c.toNat : Int)) (.lit (.int .i64 0)) = .lit (.int .i64 (m c)))
    (h2 : w.ownsMap Tryd.prog 5 (plainElem Tryd.prog 3) M N (D.put (.int .u8 (c.toNat : Int)) (.lit (.int .i64 n)))) : MapIs w M N (updM m c n) := by
  refine ⟨_, h1.put _ _, h2, fun x => ?_⟩
  unfold updM
  by_cases hx : x = c
  · subst hx
    rw [if_pos rfl]
    exact atKey_put_same (k := .int .u8 (x.toNat : Int)) h1 (show WideAt.IsKeyLit (.int .u8 (x.toNat : Int)) from trivial) _ _
  · rw [if_neg hx, atKey_put_other (fun e => hx (by injection e with _ e; exact UInt8.toNat_inj.1 (Int.ofNat_inj.1 e)))]
    exact h3 x
theorem map_at {w : World} {M N : Nat} {m : UInt8 → Int} (h : MapIs w M N m) : ∃ D : DataW Unit, w.ownsMap Tryd.prog 5 (plainElem Tryd.prog 3) M N D ∧ ∀ (c : UInt8) (n : Int), D.atKey (.int .u8 (c.toNat : Int)) (.lit (.int .i64 0)) = .lit (.int .i64 n) → n = m c := by
  obtain ⟨D, _, h2, h3⟩ := h
  refine ⟨D, h2, fun c n hn => ?_⟩
  rw [h3 c] at hn
  injection hn with hn
  injection hn with _ hn
  exact hn.symm

theorem ow_on {w w' : World} {M N : Nat} {D : DataW Unit} (h : w.ownsMap Tryd.prog 5 (plainElem Tryd.prog 3) M N D) (hb : Below w.heap.size w w') : w'.ownsMap Tryd.prog 5 (plainElem Tryd.prog 3) M N D :=
  h.kept (row := none) ⟨hb.os, hb.tape, hb.output, hb.size, fun i hi _ => hb.block i hi⟩ (by simp)
theorem cutM_lt {l : List UInt8} {c : UInt8} {n : Int} {r : List UInt8} (h : cutM l = some (c, n, r)) : r.length < l.length := by
  have he : endS l ≤ l.length := by
    unfold endS
    have h1 : ((l.drop (fstS l)).takeWhile isD).length ≤ (l.drop (fstS l)).length := (List.takeWhile_prefix isD).length_le
    have h2 : fstS l ≤ l.length := by
      cases l with
      | nil => exact Nat.zero_le _
      | cons x r => show (if isS x = true then 1 else 0) ≤ _; simp only [List.length_cons]; split <;> omega
    rw [List.length_drop] at h1
    omega
  have hd : (l.drop (endS l)).length = l.length - endS l := List.length_drop ..
  unfold cutM at h
  obtain ⟨q, hq⟩ : ∃ q, cutR l = q := ⟨_, rfl⟩
  rw [hq] at h
  have hqr : q.2.2 = r := by
    cases ha : Lib.atoiAll q.2.1 with
    | ok v => rw [ha] at h; simp only [Option.some.injEq, Prod.mk.injEq] at h; exact h.2.2
    | «syntax» => rw [ha] at h; cases h
    | range => rw [ha] at h; cases h
  subst hqr
  unfold cutR at hq
  cases hdr : l.drop (endS l) with
  | nil =>
    rw [hdr] at hq hd
    subst hq
    simp only at h ⊢
    cases l with
    | nil =>
      have : Lib.atoiAll ([] : List UInt8) = .syntax := rfl
      simp [this] at h
    | cons x r => simp
  | cons x t =>
    rw [hdr] at hq hd
    simp only [List.length_cons] at hd
    simp only at hq
    split at hq
    · subst hq; simp only; omega
    · subst hq
      simp only [List.length_cons]
      rcases Nat.eq_zero_or_pos (endS l) with h0 | h0
      · simp only [h0, List.take_zero] at h
        have : Lib.atoiAll ([] : List UInt8) = .syntax := rfl
        simp [this] at h
      · omega
theorem cutM_bd {l : List UInt8} {c : UInt8} {n : Int} {r : List UInt8} (h : cutM l = some (c, n, r)) : -9223372036854775808 ≤ n ∧ n ≤ 9223372036854775807 := by
  unfold cutM at h
  cases ha : Lib.atoiAll (cutR l).2.1 with
  | ok v =>
    rw [ha] at h
    simp only [Option.some.injEq, Prod.mk.injEq] at h
    obtain ⟨_, rfl, _⟩ := h
    exact Lib.atoiAll_bounds ha
  | «syntax» => rw [ha] at h; cases h
  | range => rw [ha] at h; cases h

def RmR (l0 : List UInt8) (w : World) (s : Value) (wr : World) : Prop :=
  ∃ (l : List UInt8) (m : UInt8 → Int) (N : Nat), s = .string (bs l) ∧ Reach (l0, fun _ => 0) (l, m) ∧ MapIs wr w.heap.size N m ∧ N + l.length ≤ l0.length ∧ Below w.heap.size w wr
def RmT (l0 : List UInt8) (w : World) (e : Ending) (w' : World) : Prop :=
  ((∃ (m : UInt8 → Int) (M N : Nat), Reach (l0, fun _ => 0) ([], m) ∧ e = .returned (.tuple #[.map (some M), .bool true]) ∧ MapIs w' M N m) ∨
   (∃ (l : List UInt8) (m : UInt8 → Int), Reach (l0, fun _ => 0) (l, m) ∧ l ≠ [] ∧ stepM (l, m) = none ∧ e = .returned (.tuple #[.map none, .bool false]))) ∧ Below w.heap.size w w'
def lenV (s : Value) : Nat := match s with
  | .string b => b.size
  | _ => 0
theorem lenV_bs (l : List UInt8) : lenV (.string (bs l)) = l.length := bs_size l

set_option maxRecDepth 10000 in
set_option maxHeartbeats 2000000 in
theorem readMultiples_any (l0 : List UInt8) (w : World) (hl : l0.length ≤ 1048576) (hE : Errs w) :
    Calls Tryd.prog 78 #[.string (bs l0)] w (RmT l0 w) := by
  have hmm := @run_makeMap Tryd.prog
  have hl0 := bs_list
  have hsz := bs_size
  have hb0 : ({ data := #[] } : ByteArray) = bs [] := rfl
  have HE := Lib.hid hE
  have HST := Lib.hid (show RmR l0 w (.string (bs l0)) (w.alloc (.map #[] 0)) from ⟨l0, fun _ => 0, 0, rfl, .refl _, map_made w, by omega, by go_grown⟩)
  clear hE
  go_enter Tryd.func78, Tryd.ntmps78
  go_wp2
  go_loopw [0] (fun s wr => RmR l0 w s wr) (fun s _ => lenV s)
  case atStart => exact HST.out
  case round =>
    obtain ⟨l, m, N, rfl, hre, hmp, hN, hbw⟩ := hrel
    clear HST
    have HB := Lib.hid hbw
    have HR := Lib.hid hre
    have HM := Lib.hid hmp
    clear hbw hre hmp
    cases l with
    | nil =>
      go_wp2
      go_returns
      exact ⟨.inl ⟨m, _, _, HR.out, rfl, HM.out⟩, HB.out⟩
    | cons c0 r0 =>
      obtain ⟨l, hle⟩ : ∃ l, c0 :: r0 = l := ⟨_, rfl⟩
      have hne : l ≠ [] := by rw [← hle]; exact List.cons_ne_nil _ _
      have hee : l.isEmpty = false := by rw [← hle]; rfl
      have HST := Lib.hid (show stepM (l, m) = (cutM l).map fun q => (q.2.2, updM m q.1 q.2.1) from by rw [← hle]; rfl)
      rw [hle] at hN HR ⊢
      clear hle
      have HNE := Lib.hid hne
      have HC := Lib.hid (cutMultiple_any l wr hne (by omega) (errs_on HE.out HB.out))
      rcases hq : cutM l with _ | ⟨c, n, r⟩
      · have hcv : cutV l = .tuple #[.int .u8 0, .int .i64 0, .string (bs []), .bool false] := by unfold cutV; rw [hq]
        have HNO := Lib.hid (show stepM (l, m) = none from by rw [HST.out, hq]; rfl)
        rw [hcv] at HC
        clear hq hcv hne
        go_wp2_with fail
        refine HC.out.mono ?_
        rintro e w3 ⟨rfl, hb3⟩
        go_wp2
        go_returns
        exact ⟨.inr ⟨l, m, HR.out, HNE.out, HNO.out, rfl⟩, below_on HB.out hb3⟩
      · have hcv : cutV l = .tuple #[.int .u8 (c.toNat : Int), .int .i64 n, .string (bs r), .bool true] := by unfold cutV; rw [hq]
        have HNX := Lib.hid (show Reach (l0, fun _ => 0) (r, updM m c n) from HR.out.snoc (by rw [HST.out, hq]; rfl))
        have hlt := cutM_lt hq
        have hbd := cutM_bd hq
        have HWF := Lib.hid (show (Lit.int .i64 n).wf = true from WalkArith.wf_i64 hbd)
        rw [hcv] at HC
        clear hq hcv hne hbd
        go_wp2_with fail
        refine HC.out.mono ?_
        rintro e w3 ⟨rfl, hb3⟩
        have HB3 := Lib.hid (below_on HB.out hb3)
        obtain ⟨D, hD1, hown, hD3⟩ := map_on HM.out hb3
        have HD1 := Lib.hid hD1
        have HD3 := Lib.hid hD3
        have hs3 : w.heap.size ≤ w3.heap.size := HB3.out.size
        clear hb3 hD1 hD3
        go_wp2_with (at_mapUpdate; refine wpList_mapUpdate_own _ rfl _ _ _ 99 rfl 5 3 lawU8 Tryd.underlying99 _ w.heap.size N _ rfl hown (by unfold maxLen; omega) _ _ _ rfl rfl (keyOf_int_mk Tryd.underlying5 (wf_u8 c)) _ [] (plainElem_int Tryd.underlying3 HWF.out) ?_; intro w4 hown4 hgrow4)
        have HM4 := Lib.hid (map_put HD1.out HD3.out hown4)
        have HB4 := Lib.hid (show Below w.heap.size w w4 from HB3.out.trans ⟨hgrow4.os, hgrow4.tape, hgrow4.output, hgrow4.size, fun i hi => hgrow4.block i (by omega) (fun e => by injection e with e; omega)⟩)
        clear hown hown4 hgrow4
        go_wp2
        go_roundw
        case rel => exact ⟨r, updM m c n, N + 1, rfl, HNX.out, HM4.out, by omega, HB4.out⟩
        case measure => rw [lenV_bs, lenV_bs]; exact hlt

/-- A text of a valid term. -/
def IsTx (s : List UInt8) (T : Int × Int × Int × Int × Int) : Prop := tvB T.1 T.2.1 T.2.2.1 T.2.2.2.1 T.2.2.2.2 = true ∧ tfL T.1 T.2.1 T.2.2.1 T.2.2.2.1 T.2.2.2.2 = s
open Classical in
/-- ParseTerm's answer. -/
noncomputable def ptT (s : List UInt8) : (Int × Int × Int × Int × Int) × Bool := if h : ∃ T, IsTx s T then (Classical.choose h, true) else ((0, 0, 0, 0, 0), false)
theorem tx_one {s : List UInt8} {T U : Int × Int × Int × Int × Int} (h : IsTx s T) (k : IsTx s U) : T = U := by
  obtain ⟨m, r1, a0, a1, a2, a3, a4⟩ := read_tf h.1
  obtain ⟨m', r2, b0, b1, b2, b3, b4⟩ := read_tf k.1
  rw [h.2] at r1
  rw [k.2] at r2
  have e := (r1.det r2 rfl).stuck rfl
  have e2 : m' = m := congrArg Prod.snd e
  subst e2
  obtain ⟨t0, t1, t2, t3, t4⟩ := T
  obtain ⟨u0, u1, u2, u3, u4⟩ := U
  simp only at a0 a1 a2 a3 a4 b0 b1 b2 b3 b4
  subst a0 a1 a2 a3 a4 b0 b1 b2 b3 b4
  rfl
theorem pt_yes {s : List UInt8} {T : Int × Int × Int × Int × Int} (h : IsTx s T) : ptT s = (T, true) := by
  unfold ptT
  rw [dif_pos ⟨T, h⟩, tx_one (Classical.choose_spec (⟨T, h⟩ : ∃ T, IsTx s T)) h]
theorem pt_no {s : List UInt8} (h : ¬ ∃ T, IsTx s T) : ptT s = ((0, 0, 0, 0, 0), false) := by unfold ptT; rw [dif_neg h]
/-- What has been read decides. -/
theorem pt_read {s : List UInt8} {m : UInt8 → Int} (hr : Reach (s, fun _ => 0) ([], m)) (hn : ¬ IsTx s (m 97, m 98, m 99, m 100, m 0)) : ptT s = ((0, 0, 0, 0, 0), false) := by
  refine pt_no (fun ⟨T, hT⟩ => hn ?_)
  obtain ⟨m', r1, a0, a1, a2, a3, a4⟩ := read_tf hT.1
  rw [hT.2] at r1
  have e := (r1.det hr rfl).stuck rfl
  have e2 : m = m' := congrArg Prod.snd e
  subst e2
  rw [a0, a1, a2, a3, a4]
  exact hT
theorem pt_stuck {s l : List UInt8} {m : UInt8 → Int} (hr : Reach (s, fun _ => 0) (l, m)) (hl : l ≠ []) (hs : stepM (l, m) = none) : ptT s = ((0, 0, 0, 0, 0), false) := by
  refine pt_no (fun ⟨T, hT⟩ => ?_)
  obtain ⟨m', r1, _⟩ := read_tf hT.1
  rw [hT.2] at r1
  have e := (r1.det hr rfl).stuck hs
  exact hl (congrArg Prod.fst e)

def PtV (r : (Int × Int × Int × Int × Int) × Bool) : Value := .tuple #[.agg #[.int .i64 r.1.1, .int .i64 r.1.2.1, .int .i64 r.1.2.2.1, .int .i64 r.1.2.2.2.1, .int .i64 r.1.2.2.2.2], .bool r.2]
theorem ptv_ret {a b : (Int × Int × Int × Int × Int) × Bool} (h : a = b) : Ending.returned (PtV a) = .returned (PtV b) := by rw [h]

set_option maxRecDepth 10000 in
set_option maxHeartbeats 4000000 in
theorem ParseTerm_any (s : List UInt8) (w : World) (hl : s.length ≤ 1048576) (hE : Errs w) (ht : Tab w) :
    Calls Tryd.prog 55 #[.string (bs s)] w fun e w' => e = .returned (PtV (ptT s)) ∧ Below w.heap.size w w' := by
  have hl0 := bs_list
  have hsz := bs_size
  have HE := Lib.hid hE
  have HT := Lib.hid ht
  have HRM := Lib.hid (fun W hW => readMultiples_any s W hl hW)
  clear hE ht
  go_enter Tryd.func55, Tryd.ntmps55
  go_wp2_with fail
  generalize hW : World.alloc _ _ = W
  have hz : C5 W w.heap.size 0 0 0 0 0 := by subst hW; exact (by refine ⟨?_, ?_, ?_, ?_, ?_, ?_⟩ <;> first | (simp [go_sem]; done) | (simp; omega))
  have fz0 : Hid (∀ o, W.frozen? ⟨w.heap.size, o, none⟩ = false) := by intro o; subst hW; simp [go_sem]
  have hw : Below w.heap.size w W := by subst hW; go_grown
  clear hW
  refine (HRM.out W (errs_on HE.out hw)).mono ?_
  rintro e w1 ⟨h1, hb1⟩
  have hz1 := c5_on hz hb1
  have fz1 : Hid (∀ o, w1.frozen? ⟨w.heap.size, o, none⟩ = false) := Lib.hid (fz_on hz fz0 hb1)
  have hw1 := below_on hw hb1
  clear hz fz0 hb1 hw
  rcases h1 with ⟨m, M, N, hre, rfl, hmp⟩ | ⟨l, m, hre, hne, hst, rfl⟩
  · obtain ⟨D, hown, hD⟩ := map_at hmp
    have HRE := Lib.hid hre
    have hD97 := hD 97
    have hD98 := hD 98
    have hD99 := hD 99
    have hD100 := hD 100
    have hD0 := hD 0
    have HTX := Lib.hid (fun hn => pt_read (s := s) (m := m) HRE.out hn)
    obtain ⟨a, ha⟩ : ∃ a, m 97 = a := ⟨_, rfl⟩
    obtain ⟨b, hb⟩ : ∃ a, m 98 = a := ⟨_, rfl⟩
    obtain ⟨c, hc⟩ : ∃ a, m 99 = a := ⟨_, rfl⟩
    obtain ⟨d, hd⟩ : ∃ a, m 100 = a := ⟨_, rfl⟩
    obtain ⟨n, hn⟩ : ∃ a, m 0 = a := ⟨_, rfl⟩
    rw [ha] at hD97
    rw [hb] at hD98
    rw [hc] at hD99
    rw [hd] at hD100
    rw [hn] at hD0
    rw [ha, hb, hc, hd, hn] at HTX
    have H97 := Lib.hid hD97
    have H98 := Lib.hid hD98
    have H99 := Lib.hid hD99
    have H100 := Lib.hid hD100
    have H0 := Lib.hid hD0
    have HO := Lib.hid hown
    clear ha hb hc hd hn hD hD97 hD98 hD99 hD100 hD0 hre hmp hown
    have hmk : ∀ w, (Instr.makeSlice 102 (.int .i64 5) (.int .i64 5)).run Tryd.prog w = .ok (.slice (some ⟨w.heap.size, 0, none⟩) 5 5) (w.alloc (.cells #[.int .i64 0, .int .i64 0, .int .i64 0, .int .i64 0, .int .i64 0] 3)) := fun _ => by kernel_rfl
    go_wp2_with fail
    refine wp_loop_rounds 5 ?_
    repeat any_goals (rw [rounds_succ]; go_wp2_with (at_lookup; refine wpList_lookup_own_int _ rfl _ _ 99 rfl 5 3 .i64 lawU8 Tryd.underlying99 Tryd.underlying3 (zeroInt _) M N D rfl (ow_on HO.out (by go_grown)) _ _ rfl (keyOf_int_mk Tryd.underlying5 (by kernel_rfl)) ?_; intro cc hat hwc; first | rw [H97.out cc hat] | rw [H98.out cc hat] | rw [H99.out cc hat] | rw [H100.out cc hat] | rw [H0.out cc hat]; clear hat hwc))
    have HTB := Lib.hid (tab_on HT.out hw1)
    generalize hW : World.alloc _ _ = W2
    have hx : C5 W2 w1.heap.size a b c d n := by subst hW; exact (by refine ⟨?_, ?_, ?_, ?_, ?_, ?_⟩ <;> first | (simp [go_sem]; done) | (simp; omega))
    have hb2 : Below w1.heap.size w1 W2 := by subst hW; go_grown
    clear hW
    have hz2 := c5_on hz1 hb2
    have fz2 : Hid (∀ o, W2.frozen? ⟨w.heap.size, o, none⟩ = false) := Lib.hid (fz_on hz1 fz1 hb2)
    have hw2 := below_on hw1 hb2
    clear hz1 fz1 hb2 hw1
    rcases htv : tvB a b c d n with _ | _
    · have HP := Lib.hid (show ptT s = ((0, 0, 0, 0, 0), false) from HTX.out (fun h => by have := h.1; simp only at this; rw [htv] at this; cases this))
      have HTV := Lib.hid htv
      clear htv
      refine (term_bad a b c d n _ W2 hx HTV.out).mono ?_
      rintro e w3 ⟨rfl, hb3⟩
      have hz3 := c5_on hz2 hb3
      have fz3 : Hid (∀ o, w3.frozen? ⟨w.heap.size, o, none⟩ = false) := Lib.hid (fz_on hz2 fz2 hb3)
      have hw3 := below_on hw2 hb3
      clear hz2 fz2 hb3 hw2 hx
      go_upto_region 12 with fail
      generalize hW : World.alloc _ _ = W4
      have hb4 : Below w3.heap.size w3 W4 := by subst hW; go_grown
      clear hW
      have hz4 := c5_on hz3 hb4
      have fz4 : Hid (∀ o, W4.frozen? ⟨w.heap.size, o, none⟩ = false) := Lib.hid (fz_on hz3 fz3 hb4)
      have hw4 := below_on hw3 hb4
      clear hz3 fz3 hb4 hw3
      obtain ⟨z0, z1, z2, z3, z4, z5⟩ := hz4
      have fz := fz4.out
      go_wp2
      refine bodyPost_ret (v := .tuple #[.agg #[.int .i64 0, .int .i64 0, .int .i64 0, .int .i64 0, .int .i64 0], .bool false]) (by simp [results, Tryd.results55, go_sem, z1, z2, z3, z4, z5]) rfl ⟨ptv_ret HP.out.symm, ?_⟩
      exact hw4.trans (by go_grown)
    · have HTV := Lib.hid htv
      have HFT := Lib.hid (fun W hW => pFormatTerm_any a b c d n W hW)
      obtain ⟨F, hF⟩ : ∃ F, tfL a b c d n = F := ⟨_, rfl⟩
      rw [hF] at HFT
      have HFF := Lib.hid hF
      have HPT : Hid (ptT s = if (F == s) = true then ((a, b, c, d, n), true) else ((0, 0, 0, 0, 0), false)) := by
        show ptT s = _
        by_cases hs : F = s
        · rw [if_pos (by simpa using hs)]
          exact pt_yes ⟨htv, hF.trans hs⟩
        · rw [if_neg (by simpa using hs)]
          exact HTX.out (fun h => hs (hF.symm.trans h.2))
      clear htv hF
      refine (term_ok a b c d n _ W2 hx HTV.out).mono ?_
      rintro e w3 ⟨rfl, hb3⟩
      have hz3 := c5_on hz2 hb3
      have fz3 : Hid (∀ o, w3.frozen? ⟨w.heap.size, o, none⟩ = false) := Lib.hid (fz_on hz2 fz2 hb3)
      have hw3 := below_on hw2 hb3
      have HT3 := Lib.hid (tab_on HT.out hw3)
      clear hz2 fz2 hb3 hw2 hx
      go_wp2_with fail
      generalize hW : World.alloc _ _ = W4
      have hx : C5 W4 w3.heap.size a b c d n := by subst hW; exact (by refine ⟨?_, ?_, ?_, ?_, ?_, ?_⟩ <;> first | (simp [go_sem]; done) | (simp; omega))
      have hb4 : Below w3.heap.size w3 W4 := by subst hW; go_grown
      clear hW
      have hz4 := c5_on hz3 hb4
      have fz4 : Hid (∀ o, W4.frozen? ⟨w.heap.size, o, none⟩ = false) := Lib.hid (fz_on hz3 fz3 hb4)
      have hw4 := below_on hw3 hb4
      have HT4 := Lib.hid (tab_on HT.out hw4)
      clear hz3 fz3 hb4 hw3
      obtain ⟨x0, x1, x2, x3, x4, x5⟩ := id hx
      refine (HFT.out W4 HT4.out).mono ?_
      rintro e w5 ⟨rfl, hb5⟩
      have hz5 := c5_on hz4 hb5
      have fz5 : Hid (∀ o, w5.frozen? ⟨w.heap.size, o, none⟩ = false) := Lib.hid (fz_on hz4 fz4 hb5)
      have hx5 := c5_on hx hb5
      have hw5 := below_on hw4 hb5
      clear hz4 fz4 hb5 hw4 hx x0 x1 x2 x3 x4 x5
      obtain ⟨x0, x1, x2, x3, x4, x5⟩ := hx5
      obtain ⟨z0, z1, z2, z3, z4, z5⟩ := hz5
      have fz := fz5.out
      rcases hq : (F == s) with _ | _
      · have hq2 : (F != s) = true := by unfold bne; rw [hq]; rfl
        rw [hq] at HPT
        go_wp2
        refine bodyPost_ret (v := .tuple #[.agg #[.int .i64 0, .int .i64 0, .int .i64 0, .int .i64 0, .int .i64 0], .bool false]) (by simp [results, Tryd.results55, go_sem, z1, z2, z3, z4, z5]) rfl ⟨ptv_ret HPT.out.symm, ?_⟩
        exact hw5.trans (by go_grown)
      · have hq2 : (F != s) = false := by unfold bne; rw [hq]; rfl
        rw [hq] at HPT
        go_wp2
        refine bodyPost_ret (v := .tuple #[.agg #[.int .i64 a, .int .i64 b, .int .i64 c, .int .i64 d, .int .i64 n], .bool true]) (by simp [results, Tryd.results55, go_sem, z1, z2, z3, z4, z5]) rfl ⟨ptv_ret HPT.out.symm, ?_⟩
        exact hw5.trans (by go_grown)
  · have HP := Lib.hid (pt_stuck hre hne hst)
    clear hre hne hst
    obtain ⟨z0, z1, z2, z3, z4, z5⟩ := hz1
    have fz := fz1.out
    go_wp2
    refine bodyPost_ret (v := .tuple #[.agg #[.int .i64 0, .int .i64 0, .int .i64 0, .int .i64 0, .int .i64 0], .bool false]) (by simp [results, Tryd.results55, go_sem, z1, z2, z3, z4, z5]) rfl ⟨ptv_ret HP.out.symm, ?_⟩
    exact hw1.trans (by go_grown)

end Go.Proofs.YtjgmoledhkikcaaDoor
