/- Reading a term's text, the program: cutMultiple. -/
import Derived.Test.YtjgmoledhkikcaaDoorPtM
import Derived.Lib.SmallJoins
import Derived.Deep.QuietTactic
namespace Go.Proofs.YtjgmoledhkikcaaDoor
open Go.RowKit

/-- The library's errors, as strconv.Atoi asks for them. -/
def Err1 (w : World) (g : Nat) : Prop := ∃ ev, w.cell? ⟨g, 0, none⟩ = some ev ∧ (ev = .nilIface ∨ ∃ te pe, ev = .iface te pe) ∧ g < w.heap.size
def Errs (w : World) : Prop := Err1 w 1 ∧ Err1 w 2
theorem err1_on {w w' : World} {g : Nat} (h : Err1 w g) (hb : Below w.heap.size w w') : Err1 w' g := by
  obtain ⟨ev, h1, h2, h3⟩ := h
  exact ⟨ev, (hb.cell (p := ⟨g, 0, none⟩) h3).trans h1, h2, Nat.lt_of_lt_of_le h3 hb.size⟩
theorem errs_on {w w' : World} (h : Errs w) (hb : Below w.heap.size w w') : Errs w' := ⟨err1_on h.1 hb, err1_on h.2 hb⟩

theorem rn_from {P : Program} {t : TypeId} (ht : P.underlying t = some .string) {l x : List UInt8} {k : Nat} (hk : k ≤ l.length) (hx : l.drop k = x) (kk : IntKind) (w : World) :
    (Instr.slice t (.string (bs l)) (some (.int kk k)) none none).run P w = .ok (.string (bs x)) w := by
  have hs := bs_size l
  rw [run_slice_string_l w t (bs l) ht kk k (by omega) (by omega), bs_ext, ← hx, hs, Int.toNat_natCast, List.take_of_length_le (by simp)]
theorem rn_upto {P : Program} {t : TypeId} (ht : P.underlying t = some .string) {l x : List UInt8} {k : Nat} (hk : k ≤ l.length) (hx : l.take k = x) (kk : IntKind) (w : World) :
    (Instr.slice t (.string (bs l)) none (some (.int kk k)) none).run P w = .ok (.string (bs x)) w := by
  have hs := bs_size l
  rw [run_slice_string_h w t (bs l) ht kk k (by omega) (by omega), bs_ext, ← hx, Int.toNat_natCast, List.drop_zero, Nat.sub_zero]

theorem atoi_ok (l : List UInt8) (n : Int) (h : Lib.atoiAll l = .ok n) (hl : l.length ≤ 1100000) (w : World) :
    Calls Tryd.prog 42 #[.string (bs l)] w fun e w' => e = .returned (.tuple #[.int .i64 n, .nilIface]) ∧ Below w.heap.size w w' :=
  (Tryd.strconv_Atoi_ok (bs l) (by rw [bs_size]; omega) n (by rw [bs_data]; exact h) w).mono fun _ _ ⟨he, hw⟩ => ⟨he, by
    rcases hw with rfl | ⟨t, rfl⟩
    · exact Below.refl _ _
    · exact Go.Joins.below_bytesWorld _ _ _ _ (Nat.le_refl _)⟩
theorem atoi_no (l : List UInt8) (h : ∀ n, Lib.atoiAll l ≠ .ok n) (hl : l.length ≤ 1100000) (w : World) (hE : Errs w) :
    Calls Tryd.prog 42 #[.string (bs l)] w fun e w' => ∃ (v : Int) (N : Nat), e = .returned (.tuple #[.int .i64 v, .iface 110 (.pointer (some ⟨N, 0, none⟩))]) ∧ Below w.heap.size w w' := by
  obtain ⟨⟨e1, h1, k1, _⟩, ⟨e2, h2, k2, _⟩⟩ := hE
  cases ha : Lib.atoiAll l with
  | ok n => exact absurd ha (h n)
  | «syntax» => exact (Tryd.strconv_Atoi_syntax (bs l) (by rw [bs_size]; omega) (by rw [bs_data]; exact ha) e1 w h1 k1).mono fun _ _ ⟨N, he, _, _, hb⟩ => ⟨0, N, he, hb⟩
  | range => exact (Tryd.strconv_Atoi_range (bs l) (by rw [bs_size]; omega) (by rw [bs_data]; exact ha) e2 w h2 k2).mono fun _ _ ⟨N, he, _, _, hb⟩ => ⟨_, N, he, hb⟩

theorem idx_let (c : UInt8) : decide (Lib.indexByte [97, 98, 99, 100] c ≥ 0) = isL c := by
  have : ∀ n : Fin 256, decide (Lib.indexByte [97, 98, 99, 100] (UInt8.ofNat n.1) ≥ 0) = isL (UInt8.ofNat n.1) := by decide +kernel
  have h := this ⟨c.toNat, c.toNat_lt⟩
  simpa using h
theorem index_is (c : UInt8) (w : World) :
    Calls Tryd.prog 109 #[.string ⟨#[97, 98, 99, 100]⟩, .int .u8 (c.toNat : Int)] w fun e w' => ∃ r : Int, e = .returned (.int .i64 r) ∧ decide (0 ≤ r) = isL c ∧ w = w' :=
  (Tryd.strings_IndexByte ⟨#[97, 98, 99, 100]⟩ (c.toNat : Int) w).mono fun _ _ ⟨he, hw⟩ => ⟨_, he, by
    have e : ((c.toNat : Int).toNat.toUInt8) = c := by simp
    rw [e]
    exact idx_let c, hw.symm⟩

/-- What cutMultiple answers. -/
def cutV (l : List UInt8) : Value := match cutM l with
  | some (c, n, r) => .tuple #[.int .u8 (c.toNat : Int), .int .i64 n, .string (bs r), .bool true]
  | none => .tuple #[.int .u8 0, .int .i64 0, .string (bs []), .bool false]

theorem end_is {l : List UInt8} {k : Nat} (h1 : ∀ (j : Nat) (x : UInt8), j < k → l[fstS l + j]? = some x → isD x = true) (h2 : fstS l + k ≤ l.length) (h3 : ∀ x, l[fstS l + k]? = some x → isD x = false) : endS l = fstS l + k := by
  unfold endS
  have e : l.drop (fstS l) = (l.drop (fstS l)).take k ++ (l.drop (fstS l)).drop k := (List.take_append_drop _ _).symm
  rw [e, tw_dig (fun x hx => ?_) (fun x hx => ?_)]
  · rw [List.length_take, List.length_drop]; omega
  · obtain ⟨j, hj, hx'⟩ := List.mem_iff_getElem.1 hx
    rw [List.length_take] at hj
    refine h1 j x (by omega) ?_
    rw [List.getElem_take, List.getElem_drop] at hx'
    rw [List.getElem?_eq_getElem (by rw [List.length_drop] at hj; omega), hx']
  · rw [List.drop_drop, List.head?_drop] at hx
    exact h3 x hx

/-- Where the digits have been read to. -/
def CuR (l : List UInt8) (n f : Nat) (i : Value) : Prop :=
  ∃ e : Nat, i = .int .i64 e ∧ e ≤ n ∧ f ≤ e ∧ ∀ (j : Nat) (x : UInt8), l[j]? = some x → f ≤ j → j < e → isD x = true
theorem bl_dn {B k : Nat} {w W : World} (h : Below B w W) : Below B w (W.drewN k) := ⟨h.os, h.tape, h.output, h.size, h.block⟩
theorem cv_ret {a b : Value} (h : a = b) : Ending.returned b = .returned a := by rw [h]

set_option maxRecDepth 10000 in
set_option maxHeartbeats 4000000 in
/-- The first multiple of a text is read. -/
theorem cutMultiple_any (l : List UInt8) (w : World) (hl : l ≠ []) (hlen : l.length ≤ 1048576) (hE : Errs w) :
    Calls Tryd.prog 99 #[.string (bs l)] w fun e w' => e = .returned (cutV l) ∧ Below w.heap.size w w' := by
  obtain ⟨c0, r0, rfl⟩ : ∃ c r, l = c :: r := by cases l with
    | nil => exact absurd rfl hl
    | cons c r => exact ⟨c, r, rfl⟩
  obtain ⟨l, hle⟩ : ∃ l, c0 :: r0 = l := ⟨_, rfl⟩
  have h0 : l[0]? = some c0 := by rw [← hle]; rfl
  have hfs : fstS l = if isS c0 = true then 1 else 0 := by rw [← hle]; rfl
  have hpos : 1 ≤ l.length := by rw [← hle]; simp
  rw [hle] at hlen ⊢
  clear hl hle
  have HE := Lib.hid hE
  have hsz := bs_size
  have hl0 := bs_list
  have happ := bs_app
  have hb0 : ({ data := #[] } : ByteArray) = bs [] := rfl
  have hb1 : ({ data := #[49] } : ByteArray) = bs [49] := rfl
  have hix0 : ∀ W, (Instr.index 9 (.string (bs l)) (.int .i64 0)).run Tryd.prog W = .ok (.int .u8 (c0.toNat : Int)) W := fun W => run_at (P := Tryd.prog) Tryd.underlying9 h0 .i64 W
  obtain ⟨f, hf⟩ : ∃ f, fstS l = f := ⟨_, rfl⟩
  have HFS := Lib.hid hf
  obtain ⟨n, hn⟩ : ∃ n, l.length = n := ⟨_, rfl⟩
  have HN := Lib.hid hn
  rw [hn] at hlen hpos
  rw [hf] at hfs
  obtain ⟨z0, hz0⟩ : ∃ z : Int, (c0.toNat : Int) = z := ⟨_, rfl⟩
  have h43 : (z0 == 43) = (c0 == 43) := by rw [← hz0]; exact u8_eq c0 43
  have h45 : (z0 == 45) = (c0 == 45) := by rw [← hz0]; exact u8_eq c0 45
  rw [hz0] at hix0
  clear hz0 hf hn hE h0
  rcases q43 : (c0 == 43) with _ | _
  · rcases q45 : (c0 == 45) with _ | _
    · have hfv : f = 0 := by rw [hfs]; unfold isS; rw [q43, q45]; rfl
      rw [q43] at h43
      rw [q45] at h45
      clear hfs q43 q45
      obtain rfl : f = 0 := hfv
      have HST := Lib.hid (show CuR l n 0 (.int .i64 0) from ⟨0, rfl, by omega, Nat.le_refl _, fun j x h1 h2 => by omega⟩)
      go_enter Tryd.func99, Tryd.ntmps99
      go_wp2
      go_loopw [7] (fun i wr => CuR l n 0 i ∧ w = wr) (fun i _ => n - (intOf i).toNat)
      case atStart => exact ⟨HST.out, rfl⟩
      case round =>
        obtain ⟨⟨e, rfl, he, hef, hdig⟩, rfl⟩ := hrel
        clear HST
        have HD := Lib.hid hdig
        clear hdig
        rcases hye : l[e]? with _ | y
        · have hen : e = n := by
            rcases Nat.lt_or_ge e n with g | g
            · rw [List.getElem?_eq_getElem (by rw [HN.out]; exact g)] at hye; cases hye
            · omega
          have HEND := Lib.hid (show endS l = e from by
            have := end_is (l := l) (k := e - 0) (fun j x h1 h2 => HD.out (0 + j) x (by rw [HFS.out] at h2; exact h2) (by omega) (by omega)) (by rw [HFS.out, HN.out]; omega) (fun x hx => by rw [HFS.out, show 0 + (e - 0) = e by omega, hye] at hx; cases hx)
            rw [this, HFS.out]; omega)
          have HCR := Lib.hid (show cutR l = (0, l.take e, []) from by unfold cutR; rw [HEND.out, List.drop_of_length_le (by rw [HN.out]; omega)])
          have hA := fun W => rn_upto (P := Tryd.prog) Tryd.underlying9 (l := l) (k := e) (by rw [HN.out]; omega) rfl .i64 W
          have hB := fun W => rn_from (P := Tryd.prog) Tryd.underlying9 (l := l) (k := e) (x := []) (by rw [HN.out]; omega) (List.drop_of_length_le (by rw [HN.out]; omega)) .i64 W
          obtain ⟨T, hT⟩ : ∃ T, l.take e = T := ⟨_, rfl⟩
          have hTl : T.length ≤ 1048576 := by rw [← hT, List.length_take]; omega
          have hlen0 : (l.length : Int) = n := by rw [HN.out]
          have hlt : ¬ (e : Int) < (n : Int) := by omega
          rw [hT] at hA HCR
          clear hT hye hen HEND
          go_wp2_with fail
          go_quiet (fail)
          generalize hWd : World.drewN w _ = w2
          have hw2 : Below w.heap.size w w2 := by subst hWd; exact bl_dn (Below.refl _ _)
          clear hWd
          go_wp2_with fail
          rcases Classical.em (∃ v, Lib.atoiAll T = .ok v) with ⟨v, hv⟩ | hno
          · have HA := Lib.hid (fun W => atoi_ok T v hv (by first | omega | (simp; omega)) W)
            have HV := Lib.hid (show cutV l = .tuple #[.int .u8 ((0 : UInt8).toNat : Int), .int .i64 v, .string (bs []), .bool true] from by unfold cutV cutM; rw [HCR.out]; simp only [hv])
            clear hv
            go_wp2_with fail
            refine (HA.out _).mono ?_
            rintro e w1 ⟨rfl, hb1⟩
            go_wp2
            go_returns
            exact ⟨cv_ret HV.out, below_on hw2 hb1⟩
          · have HA := Lib.hid (fun W hW => atoi_no T (fun v hv => hno ⟨v, hv⟩) (by first | omega | (simp; omega)) W hW)
            have HV := Lib.hid (show cutV l = .tuple #[.int .u8 0, .int .i64 0, .string (bs []), .bool false] from by
              unfold cutV cutM
              rw [HCR.out]
              cases ha : Lib.atoiAll T with
              | ok v => exact absurd ⟨v, ha⟩ hno
              | «syntax» => rfl
              | range => rfl)
            clear hno
            go_wp2_with fail
            refine (HA.out _ (errs_on HE.out hw2)).mono ?_
            rintro e w1 ⟨v, N, rfl, hb1⟩
            go_wp2
            go_returns
            exact ⟨cv_ret HV.out, below_on hw2 hb1⟩
        · have hen : e < n := by have := (List.getElem?_eq_some_iff.1 hye).1; rw [HN.out] at this; exact this
          have hlt : (e : Int) < (n : Int) := by omega
          have hix := fun W => run_at (P := Tryd.prog) Tryd.underlying9 hye .i64 W
          obtain ⟨z, hz⟩ : ∃ z : Int, (y.toNat : Int) = z := ⟨_, rfl⟩
          have hlen0 : (l.length : Int) = n := by rw [HN.out]
          rcases hyd : isD y with _ | _
          · have HEND := Lib.hid (show endS l = e from by
              have := end_is (l := l) (k := e - 0) (fun j x h1 h2 => HD.out (0 + j) x (by rw [HFS.out] at h2; exact h2) (by omega) (by omega)) (by rw [HFS.out, HN.out]; omega) (fun x hx => by rw [HFS.out, show 0 + (e - 0) = e by omega, hye] at hx; obtain rfl := Option.some.inj hx; exact hyd)
              rw [this, HFS.out]; omega)
            have hdr : l.drop e = y :: l.drop (e + 1) := by
              rw [List.drop_eq_getElem_cons (by rw [HN.out]; exact hen)]
              congr 1
              rw [List.getElem?_eq_getElem (by rw [HN.out]; exact hen)] at hye
              exact Option.some.inj hye
            have hA := fun W => rn_upto (P := Tryd.prog) Tryd.underlying9 (l := l) (k := e) (by rw [HN.out]; omega) rfl .i64 W
            obtain ⟨R, hR⟩ : ∃ R, l.drop (e + 1) = R := ⟨_, rfl⟩
            rw [hR] at hdr
            have hRl : R.length ≤ 1048576 := by rw [← hR, List.length_drop]; omega
            have hB := fun W => rn_from (P := Tryd.prog) Tryd.underlying9 (l := l) (k := e) (x := y :: R) (by rw [HN.out]; omega) hdr .i64 W
            obtain ⟨T, hT⟩ : ∃ T, l.take e = T := ⟨_, rfl⟩
            have hTl : T.length ≤ 1048576 := by rw [← hT, List.length_take]; omega
            have HCR0 := Lib.hid (show cutR l = if isL y = true then (y, (if e = 0 then T ++ [49] else T), R) else (0, T, y :: R) from by unfold cutR; rw [HEND.out, HFS.out, hdr, hT])
            have hYx : ∀ W, (Instr.index 9 (.string (bs (y :: R))) (.int .i64 0)).run Tryd.prog W = .ok (.int .u8 (y.toNat : Int)) W := fun W => run_at (P := Tryd.prog) Tryd.underlying9 (l := y :: R) (i := 0) (x := y) rfl .i64 W
            have hYr : ∀ W, (Instr.slice 9 (.string (bs (y :: R))) (some (.int .i64 1)) none none).run Tryd.prog W = .ok (.string (bs R)) W := fun W => rn_from (P := Tryd.prog) Tryd.underlying9 (l := y :: R) (k := 1) (x := R) (by simp) rfl .i64 W
            have HIX := Lib.hid (fun W => index_is y W)
            rw [hT] at hA
            rw [hz] at hix hYx HIX
            have HZ := Lib.hid hz
            have hdd : (decide (48 ≤ z) && decide (z ≤ 57)) = false := by rw [← hz]; unfold isD at hyd; rw [← hyd]; congr 1 <;> (apply decide_eq_decide.2; omega)
            have hYl : (y :: R).length ≤ 1048577 := by simp; omega
            obtain ⟨Y, hY⟩ : ∃ Y, y :: R = Y := ⟨_, rfl⟩
            have hYe : Y.isEmpty = false := by rw [← hY]; rfl
            rw [hY] at hB hYx hYr HCR0 hYl
            have HYY := Lib.hid hY
            clear hT hye HEND hdr hR hyd hz hY
            have hdc : (decide (48 ≤ z) = false ∧ True) ∨ (decide (48 ≤ z) = true ∧ decide (z ≤ 57) = false) := by
              cases h48 : decide (48 ≤ z) with
              | false => exact .inl ⟨rfl, trivial⟩
              | true => rw [h48, Bool.true_and] at hdd; exact .inr ⟨rfl, hdd⟩
            rcases hdc with ⟨hd1, hd2⟩ | ⟨hd1, hd2⟩
            all_goals
              clear hdd
              rcases hL : isL y with _ | _
              · have HCR := Lib.hid (show cutR l = (0, T, Y) from by rw [HCR0.out, hL]; rfl)
                rw [hL] at HIX
                clear hL HCR0
                go_wp2_with fail
                go_quiet (fail)
                generalize hWd : World.drewN w _ = w2
                have hw2 : Below w.heap.size w w2 := by subst hWd; exact bl_dn (Below.refl _ _)
                clear hWd
                go_wp2_with fail
                refine (HIX.out _).mono ?_
                rintro e w1 ⟨r, rfl, hr, hw1⟩
                have hw3 : Below w.heap.size w w1 := hw1 ▸ hw2
                clear hw1 hw2
                rcases Classical.em (∃ v, Lib.atoiAll T = .ok v) with ⟨v, hv⟩ | hno
                · have HA := Lib.hid (fun W => atoi_ok T v hv (by first | omega | (simp; omega)) W)
                  have HV := Lib.hid (show cutV l = .tuple #[.int .u8 ((0 : UInt8).toNat : Int), .int .i64 v, .string (bs Y), .bool true] from by unfold cutV cutM; rw [HCR.out]; simp only [hv])
                  clear hv
                  go_wp2_with fail
                  refine (HA.out _).mono ?_
                  rintro e w1 ⟨rfl, hb1⟩
                  go_wp2
                  go_returns
                  exact ⟨cv_ret HV.out, below_on hw3 hb1⟩
                · have HA := Lib.hid (fun W hW => atoi_no T (fun v hv => hno ⟨v, hv⟩) (by first | omega | (simp; omega)) W hW)
                  have HV := Lib.hid (show cutV l = .tuple #[.int .u8 0, .int .i64 0, .string (bs []), .bool false] from by
                    unfold cutV cutM
                    rw [HCR.out]
                    cases ha : Lib.atoiAll T with
                    | ok v => exact absurd ⟨v, ha⟩ hno
                    | «syntax» => rfl
                    | range => rfl)
                  clear hno
                  go_wp2_with fail
                  refine (HA.out _ (errs_on HE.out hw3)).mono ?_
                  rintro e w1 ⟨v, N, rfl, hb1⟩
                  go_wp2
                  go_returns
                  exact ⟨cv_ret HV.out, below_on hw3 hb1⟩
              · rw [hL] at HIX
                by_cases hef2 : e = 0
                · have HCR := Lib.hid (show cutR l = (y, T ++ [49], R) from by rw [HCR0.out, hL, if_pos hef2]; rfl)
                  have heq : ((e : Int) == 0) = true := by rw [beq_iff_eq]; omega
                  clear hL HCR0 hef2
                  go_wp2_with fail
                  go_quiet (fail)
                  generalize hWd : World.drewN w _ = w2
                  have hw2 : Below w.heap.size w w2 := by subst hWd; exact bl_dn (Below.refl _ _)
                  clear hWd
                  go_wp2_with fail
                  refine (HIX.out _).mono ?_
                  rintro e w1 ⟨r, rfl, hr, hw1⟩
                  have hw3 : Below w.heap.size w w1 := hw1 ▸ hw2
                  clear hw1 hw2
                  go_wp2_with fail
                  go_quiet (fail)
                  generalize hWd : World.drewN w1 _ = w2
                  have hw2 : Below w.heap.size w w2 := by subst hWd; exact bl_dn hw3
                  clear hWd hw3
                  rw [← HZ.out]
                  go_wp2_with fail
                  rcases Classical.em (∃ v, Lib.atoiAll (T ++ [49]) = .ok v) with ⟨v, hv⟩ | hno
                  · have HA := Lib.hid (fun W => atoi_ok (T ++ [49]) v hv (by first | omega | (simp; omega)) W)
                    have HV := Lib.hid (show cutV l = .tuple #[.int .u8 ((y : UInt8).toNat : Int), .int .i64 v, .string (bs R), .bool true] from by unfold cutV cutM; rw [HCR.out]; simp only [hv])
                    clear hv
                    go_wp2_with fail
                    refine (HA.out _).mono ?_
                    rintro e w1 ⟨rfl, hb1⟩
                    go_wp2
                    go_returns
                    exact ⟨cv_ret HV.out, below_on hw2 hb1⟩
                  · have HA := Lib.hid (fun W hW => atoi_no (T ++ [49]) (fun v hv => hno ⟨v, hv⟩) (by first | omega | (simp; omega)) W hW)
                    have HV := Lib.hid (show cutV l = .tuple #[.int .u8 0, .int .i64 0, .string (bs []), .bool false] from by
                      unfold cutV cutM
                      rw [HCR.out]
                      cases ha : Lib.atoiAll (T ++ [49]) with
                      | ok v => exact absurd ⟨v, ha⟩ hno
                      | «syntax» => rfl
                      | range => rfl)
                    clear hno
                    go_wp2_with fail
                    refine (HA.out _ (errs_on HE.out hw2)).mono ?_
                    rintro e w1 ⟨v, N, rfl, hb1⟩
                    go_wp2
                    go_returns
                    exact ⟨cv_ret HV.out, below_on hw2 hb1⟩
                · have HCR := Lib.hid (show cutR l = (y, T, R) from by rw [HCR0.out, hL, if_neg hef2]; rfl)
                  have heq : ((e : Int) == 0) = false := by rw [beq_eq_false_iff_ne]; omega
                  clear hL HCR0 hef2
                  go_wp2_with fail
                  go_quiet (fail)
                  generalize hWd : World.drewN w _ = w2
                  have hw2 : Below w.heap.size w w2 := by subst hWd; exact bl_dn (Below.refl _ _)
                  clear hWd
                  go_wp2_with fail
                  refine (HIX.out _).mono ?_
                  rintro e w1 ⟨r, rfl, hr, hw1⟩
                  have hw3 : Below w.heap.size w w1 := hw1 ▸ hw2
                  clear hw1 hw2
                  go_wp2_with fail
                  go_quiet (fail)
                  generalize hWd : World.drewN w1 _ = w2
                  have hw2 : Below w.heap.size w w2 := by subst hWd; exact bl_dn hw3
                  clear hWd hw3
                  rw [← HZ.out]
                  go_wp2_with fail
                  rcases Classical.em (∃ v, Lib.atoiAll T = .ok v) with ⟨v, hv⟩ | hno
                  · have HA := Lib.hid (fun W => atoi_ok T v hv (by first | omega | (simp; omega)) W)
                    have HV := Lib.hid (show cutV l = .tuple #[.int .u8 ((y : UInt8).toNat : Int), .int .i64 v, .string (bs R), .bool true] from by unfold cutV cutM; rw [HCR.out]; simp only [hv])
                    clear hv
                    go_wp2_with fail
                    refine (HA.out _).mono ?_
                    rintro e w1 ⟨rfl, hb1⟩
                    go_wp2
                    go_returns
                    exact ⟨cv_ret HV.out, below_on hw2 hb1⟩
                  · have HA := Lib.hid (fun W hW => atoi_no T (fun v hv => hno ⟨v, hv⟩) (by first | omega | (simp; omega)) W hW)
                    have HV := Lib.hid (show cutV l = .tuple #[.int .u8 0, .int .i64 0, .string (bs []), .bool false] from by
                      unfold cutV cutM
                      rw [HCR.out]
                      cases ha : Lib.atoiAll T with
                      | ok v => exact absurd ⟨v, ha⟩ hno
                      | «syntax» => rfl
                      | range => rfl)
                    clear hno
                    go_wp2_with fail
                    refine (HA.out _ (errs_on HE.out hw2)).mono ?_
                    rintro e w1 ⟨v, N, rfl, hb1⟩
                    go_wp2
                    go_returns
                    exact ⟨cv_ret HV.out, below_on hw2 hb1⟩
          · have hd1 : decide (48 ≤ z) = true ∧ decide (z ≤ 57) = true := by
              unfold isD at hyd
              rw [Bool.and_eq_true, decide_eq_true_eq, decide_eq_true_eq] at hyd
              exact ⟨decide_eq_true (by omega), decide_eq_true (by omega)⟩
            obtain ⟨hd1, hd2⟩ := hd1
            have HYD := Lib.hid hyd
            have HYE := Lib.hid hye
            rw [hz] at hix
            clear hyd hye hz
            go_wp2
            go_roundw
            case rel => exact ⟨⟨e + 1, by go_num, by omega, by omega, fun j x h1 h2 h3 => by
              by_cases hje : j = e
              · subst hje; rw [HYE.out] at h1; obtain rfl := Option.some.inj h1; exact HYD.out
              · exact HD.out j x h1 h2 (by omega)⟩, by first | rfl | trivial⟩
            case measure => simp [intOf]; omega
    · have hfv : f = 1 := by rw [hfs]; unfold isS; rw [q43, q45]; rfl
      rw [q43] at h43
      rw [q45] at h45
      clear hfs q43 q45
      obtain rfl : f = 1 := hfv
      have HST := Lib.hid (show CuR l n 1 (.int .i64 1) from ⟨1, rfl, by omega, Nat.le_refl _, fun j x h1 h2 => by omega⟩)
      go_enter Tryd.func99, Tryd.ntmps99
      go_wp2
      go_loopw [7] (fun i wr => CuR l n 1 i ∧ w = wr) (fun i _ => n - (intOf i).toNat)
      case atStart => exact ⟨HST.out, rfl⟩
      case round =>
        obtain ⟨⟨e, rfl, he, hef, hdig⟩, rfl⟩ := hrel
        clear HST
        have HD := Lib.hid hdig
        clear hdig
        rcases hye : l[e]? with _ | y
        · have hen : e = n := by
            rcases Nat.lt_or_ge e n with g | g
            · rw [List.getElem?_eq_getElem (by rw [HN.out]; exact g)] at hye; cases hye
            · omega
          have HEND := Lib.hid (show endS l = e from by
            have := end_is (l := l) (k := e - 1) (fun j x h1 h2 => HD.out (1 + j) x (by rw [HFS.out] at h2; exact h2) (by omega) (by omega)) (by rw [HFS.out, HN.out]; omega) (fun x hx => by rw [HFS.out, show 1 + (e - 1) = e by omega, hye] at hx; cases hx)
            rw [this, HFS.out]; omega)
          have HCR := Lib.hid (show cutR l = (0, l.take e, []) from by unfold cutR; rw [HEND.out, List.drop_of_length_le (by rw [HN.out]; omega)])
          have hA := fun W => rn_upto (P := Tryd.prog) Tryd.underlying9 (l := l) (k := e) (by rw [HN.out]; omega) rfl .i64 W
          have hB := fun W => rn_from (P := Tryd.prog) Tryd.underlying9 (l := l) (k := e) (x := []) (by rw [HN.out]; omega) (List.drop_of_length_le (by rw [HN.out]; omega)) .i64 W
          obtain ⟨T, hT⟩ : ∃ T, l.take e = T := ⟨_, rfl⟩
          have hTl : T.length ≤ 1048576 := by rw [← hT, List.length_take]; omega
          have hlen0 : (l.length : Int) = n := by rw [HN.out]
          have hlt : ¬ (e : Int) < (n : Int) := by omega
          rw [hT] at hA HCR
          clear hT hye hen HEND
          go_wp2_with fail
          go_quiet (fail)
          generalize hWd : World.drewN w _ = w2
          have hw2 : Below w.heap.size w w2 := by subst hWd; exact bl_dn (Below.refl _ _)
          clear hWd
          go_wp2_with fail
          rcases Classical.em (∃ v, Lib.atoiAll T = .ok v) with ⟨v, hv⟩ | hno
          · have HA := Lib.hid (fun W => atoi_ok T v hv (by first | omega | (simp; omega)) W)
            have HV := Lib.hid (show cutV l = .tuple #[.int .u8 ((0 : UInt8).toNat : Int), .int .i64 v, .string (bs []), .bool true] from by unfold cutV cutM; rw [HCR.out]; simp only [hv])
            clear hv
            go_wp2_with fail
            refine (HA.out _).mono ?_
            rintro e w1 ⟨rfl, hb1⟩
            go_wp2
            go_returns
            exact ⟨cv_ret HV.out, below_on hw2 hb1⟩
          · have HA := Lib.hid (fun W hW => atoi_no T (fun v hv => hno ⟨v, hv⟩) (by first | omega | (simp; omega)) W hW)
            have HV := Lib.hid (show cutV l = .tuple #[.int .u8 0, .int .i64 0, .string (bs []), .bool false] from by
              unfold cutV cutM
              rw [HCR.out]
              cases ha : Lib.atoiAll T with
              | ok v => exact absurd ⟨v, ha⟩ hno
              | «syntax» => rfl
              | range => rfl)
            clear hno
            go_wp2_with fail
            refine (HA.out _ (errs_on HE.out hw2)).mono ?_
            rintro e w1 ⟨v, N, rfl, hb1⟩
            go_wp2
            go_returns
            exact ⟨cv_ret HV.out, below_on hw2 hb1⟩
        · have hen : e < n := by have := (List.getElem?_eq_some_iff.1 hye).1; rw [HN.out] at this; exact this
          have hlt : (e : Int) < (n : Int) := by omega
          have hix := fun W => run_at (P := Tryd.prog) Tryd.underlying9 hye .i64 W
          obtain ⟨z, hz⟩ : ∃ z : Int, (y.toNat : Int) = z := ⟨_, rfl⟩
          have hlen0 : (l.length : Int) = n := by rw [HN.out]
          rcases hyd : isD y with _ | _
          · have HEND := Lib.hid (show endS l = e from by
              have := end_is (l := l) (k := e - 1) (fun j x h1 h2 => HD.out (1 + j) x (by rw [HFS.out] at h2; exact h2) (by omega) (by omega)) (by rw [HFS.out, HN.out]; omega) (fun x hx => by rw [HFS.out, show 1 + (e - 1) = e by omega, hye] at hx; obtain rfl := Option.some.inj hx; exact hyd)
              rw [this, HFS.out]; omega)
            have hdr : l.drop e = y :: l.drop (e + 1) := by
              rw [List.drop_eq_getElem_cons (by rw [HN.out]; exact hen)]
              congr 1
              rw [List.getElem?_eq_getElem (by rw [HN.out]; exact hen)] at hye
              exact Option.some.inj hye
            have hA := fun W => rn_upto (P := Tryd.prog) Tryd.underlying9 (l := l) (k := e) (by rw [HN.out]; omega) rfl .i64 W
            obtain ⟨R, hR⟩ : ∃ R, l.drop (e + 1) = R := ⟨_, rfl⟩
            rw [hR] at hdr
            have hRl : R.length ≤ 1048576 := by rw [← hR, List.length_drop]; omega
            have hB := fun W => rn_from (P := Tryd.prog) Tryd.underlying9 (l := l) (k := e) (x := y :: R) (by rw [HN.out]; omega) hdr .i64 W
            obtain ⟨T, hT⟩ : ∃ T, l.take e = T := ⟨_, rfl⟩
            have hTl : T.length ≤ 1048576 := by rw [← hT, List.length_take]; omega
            have HCR0 := Lib.hid (show cutR l = if isL y = true then (y, (if e = 1 then T ++ [49] else T), R) else (0, T, y :: R) from by unfold cutR; rw [HEND.out, HFS.out, hdr, hT])
            have hYx : ∀ W, (Instr.index 9 (.string (bs (y :: R))) (.int .i64 0)).run Tryd.prog W = .ok (.int .u8 (y.toNat : Int)) W := fun W => run_at (P := Tryd.prog) Tryd.underlying9 (l := y :: R) (i := 0) (x := y) rfl .i64 W
            have hYr : ∀ W, (Instr.slice 9 (.string (bs (y :: R))) (some (.int .i64 1)) none none).run Tryd.prog W = .ok (.string (bs R)) W := fun W => rn_from (P := Tryd.prog) Tryd.underlying9 (l := y :: R) (k := 1) (x := R) (by simp) rfl .i64 W
            have HIX := Lib.hid (fun W => index_is y W)
            rw [hT] at hA
            rw [hz] at hix hYx HIX
            have HZ := Lib.hid hz
            have hdd : (decide (48 ≤ z) && decide (z ≤ 57)) = false := by rw [← hz]; unfold isD at hyd; rw [← hyd]; congr 1 <;> (apply decide_eq_decide.2; omega)
            have hYl : (y :: R).length ≤ 1048577 := by simp; omega
            obtain ⟨Y, hY⟩ : ∃ Y, y :: R = Y := ⟨_, rfl⟩
            have hYe : Y.isEmpty = false := by rw [← hY]; rfl
            rw [hY] at hB hYx hYr HCR0 hYl
            have HYY := Lib.hid hY
            clear hT hye HEND hdr hR hyd hz hY
            have hdc : (decide (48 ≤ z) = false ∧ True) ∨ (decide (48 ≤ z) = true ∧ decide (z ≤ 57) = false) := by
              cases h48 : decide (48 ≤ z) with
              | false => exact .inl ⟨rfl, trivial⟩
              | true => rw [h48, Bool.true_and] at hdd; exact .inr ⟨rfl, hdd⟩
            rcases hdc with ⟨hd1, hd2⟩ | ⟨hd1, hd2⟩
            all_goals
              clear hdd
              rcases hL : isL y with _ | _
              · have HCR := Lib.hid (show cutR l = (0, T, Y) from by rw [HCR0.out, hL]; rfl)
                rw [hL] at HIX
                clear hL HCR0
                go_wp2_with fail
                go_quiet (fail)
                generalize hWd : World.drewN w _ = w2
                have hw2 : Below w.heap.size w w2 := by subst hWd; exact bl_dn (Below.refl _ _)
                clear hWd
                go_wp2_with fail
                refine (HIX.out _).mono ?_
                rintro e w1 ⟨r, rfl, hr, hw1⟩
                have hw3 : Below w.heap.size w w1 := hw1 ▸ hw2
                clear hw1 hw2
                rcases Classical.em (∃ v, Lib.atoiAll T = .ok v) with ⟨v, hv⟩ | hno
                · have HA := Lib.hid (fun W => atoi_ok T v hv (by first | omega | (simp; omega)) W)
                  have HV := Lib.hid (show cutV l = .tuple #[.int .u8 ((0 : UInt8).toNat : Int), .int .i64 v, .string (bs Y), .bool true] from by unfold cutV cutM; rw [HCR.out]; simp only [hv])
                  clear hv
                  go_wp2_with fail
                  refine (HA.out _).mono ?_
                  rintro e w1 ⟨rfl, hb1⟩
                  go_wp2
                  go_returns
                  exact ⟨cv_ret HV.out, below_on hw3 hb1⟩
                · have HA := Lib.hid (fun W hW => atoi_no T (fun v hv => hno ⟨v, hv⟩) (by first | omega | (simp; omega)) W hW)
                  have HV := Lib.hid (show cutV l = .tuple #[.int .u8 0, .int .i64 0, .string (bs []), .bool false] from by
                    unfold cutV cutM
                    rw [HCR.out]
                    cases ha : Lib.atoiAll T with
                    | ok v => exact absurd ⟨v, ha⟩ hno
                    | «syntax» => rfl
                    | range => rfl)
                  clear hno
                  go_wp2_with fail
                  refine (HA.out _ (errs_on HE.out hw3)).mono ?_
                  rintro e w1 ⟨v, N, rfl, hb1⟩
                  go_wp2
                  go_returns
                  exact ⟨cv_ret HV.out, below_on hw3 hb1⟩
              · rw [hL] at HIX
                by_cases hef2 : e = 1
                · have HCR := Lib.hid (show cutR l = (y, T ++ [49], R) from by rw [HCR0.out, hL, if_pos hef2]; rfl)
                  have heq : ((e : Int) == 1) = true := by rw [beq_iff_eq]; omega
                  clear hL HCR0 hef2
                  go_wp2_with fail
                  go_quiet (fail)
                  generalize hWd : World.drewN w _ = w2
                  have hw2 : Below w.heap.size w w2 := by subst hWd; exact bl_dn (Below.refl _ _)
                  clear hWd
                  go_wp2_with fail
                  refine (HIX.out _).mono ?_
                  rintro e w1 ⟨r, rfl, hr, hw1⟩
                  have hw3 : Below w.heap.size w w1 := hw1 ▸ hw2
                  clear hw1 hw2
                  go_wp2_with fail
                  go_quiet (fail)
                  generalize hWd : World.drewN w1 _ = w2
                  have hw2 : Below w.heap.size w w2 := by subst hWd; exact bl_dn hw3
                  clear hWd hw3
                  rw [← HZ.out]
                  go_wp2_with fail
                  rcases Classical.em (∃ v, Lib.atoiAll (T ++ [49]) = .ok v) with ⟨v, hv⟩ | hno
                  · have HA := Lib.hid (fun W => atoi_ok (T ++ [49]) v hv (by first | omega | (simp; omega)) W)
                    have HV := Lib.hid (show cutV l = .tuple #[.int .u8 ((y : UInt8).toNat : Int), .int .i64 v, .string (bs R), .bool true] from by unfold cutV cutM; rw [HCR.out]; simp only [hv])
                    clear hv
                    go_wp2_with fail
                    refine (HA.out _).mono ?_
                    rintro e w1 ⟨rfl, hb1⟩
                    go_wp2
                    go_returns
                    exact ⟨cv_ret HV.out, below_on hw2 hb1⟩
                  · have HA := Lib.hid (fun W hW => atoi_no (T ++ [49]) (fun v hv => hno ⟨v, hv⟩) (by first | omega | (simp; omega)) W hW)
                    have HV := Lib.hid (show cutV l = .tuple #[.int .u8 0, .int .i64 0, .string (bs []), .bool false] from by
                      unfold cutV cutM
                      rw [HCR.out]
                      cases ha : Lib.atoiAll (T ++ [49]) with
                      | ok v => exact absurd ⟨v, ha⟩ hno
                      | «syntax» => rfl
                      | range => rfl)
                    clear hno
                    go_wp2_with fail
                    refine (HA.out _ (errs_on HE.out hw2)).mono ?_
                    rintro e w1 ⟨v, N, rfl, hb1⟩
                    go_wp2
                    go_returns
                    exact ⟨cv_ret HV.out, below_on hw2 hb1⟩
                · have HCR := Lib.hid (show cutR l = (y, T, R) from by rw [HCR0.out, hL, if_neg hef2]; rfl)
                  have heq : ((e : Int) == 1) = false := by rw [beq_eq_false_iff_ne]; omega
                  clear hL HCR0 hef2
                  go_wp2_with fail
                  go_quiet (fail)
                  generalize hWd : World.drewN w _ = w2
                  have hw2 : Below w.heap.size w w2 := by subst hWd; exact bl_dn (Below.refl _ _)
                  clear hWd
                  go_wp2_with fail
                  refine (HIX.out _).mono ?_
                  rintro e w1 ⟨r, rfl, hr, hw1⟩
                  have hw3 : Below w.heap.size w w1 := hw1 ▸ hw2
                  clear hw1 hw2
                  go_wp2_with fail
                  go_quiet (fail)
                  generalize hWd : World.drewN w1 _ = w2
                  have hw2 : Below w.heap.size w w2 := by subst hWd; exact bl_dn hw3
                  clear hWd hw3
                  rw [← HZ.out]
                  go_wp2_with fail
                  rcases Classical.em (∃ v, Lib.atoiAll T = .ok v) with ⟨v, hv⟩ | hno
                  · have HA := Lib.hid (fun W => atoi_ok T v hv (by first | omega | (simp; omega)) W)
                    have HV := Lib.hid (show cutV l = .tuple #[.int .u8 ((y : UInt8).toNat : Int), .int .i64 v, .string (bs R), .bool true] from by unfold cutV cutM; rw [HCR.out]; simp only [hv])
                    clear hv
                    go_wp2_with fail
                    refine (HA.out _).mono ?_
                    rintro e w1 ⟨rfl, hb1⟩
                    go_wp2
                    go_returns
                    exact ⟨cv_ret HV.out, below_on hw2 hb1⟩
                  · have HA := Lib.hid (fun W hW => atoi_no T (fun v hv => hno ⟨v, hv⟩) (by first | omega | (simp; omega)) W hW)
                    have HV := Lib.hid (show cutV l = .tuple #[.int .u8 0, .int .i64 0, .string (bs []), .bool false] from by
                      unfold cutV cutM
                      rw [HCR.out]
                      cases ha : Lib.atoiAll T with
                      | ok v => exact absurd ⟨v, ha⟩ hno
                      | «syntax» => rfl
                      | range => rfl)
                    clear hno
                    go_wp2_with fail
                    refine (HA.out _ (errs_on HE.out hw2)).mono ?_
                    rintro e w1 ⟨v, N, rfl, hb1⟩
                    go_wp2
                    go_returns
                    exact ⟨cv_ret HV.out, below_on hw2 hb1⟩
          · have hd1 : decide (48 ≤ z) = true ∧ decide (z ≤ 57) = true := by
              unfold isD at hyd
              rw [Bool.and_eq_true, decide_eq_true_eq, decide_eq_true_eq] at hyd
              exact ⟨decide_eq_true (by omega), decide_eq_true (by omega)⟩
            obtain ⟨hd1, hd2⟩ := hd1
            have HYD := Lib.hid hyd
            have HYE := Lib.hid hye
            rw [hz] at hix
            clear hyd hye hz
            go_wp2
            go_roundw
            case rel => exact ⟨⟨e + 1, by go_num, by omega, by omega, fun j x h1 h2 h3 => by
              by_cases hje : j = e
              · subst hje; rw [HYE.out] at h1; obtain rfl := Option.some.inj h1; exact HYD.out
              · exact HD.out j x h1 h2 (by omega)⟩, by first | rfl | trivial⟩
            case measure => simp [intOf]; omega
  · have hfv : f = 1 := by rw [hfs]; unfold isS; rw [q43]; rfl
    rw [q43] at h43
    clear hfs q43 h45
    obtain rfl : f = 1 := hfv
    have HST := Lib.hid (show CuR l n 1 (.int .i64 1) from ⟨1, rfl, by omega, Nat.le_refl _, fun j x h1 h2 => by omega⟩)
    go_enter Tryd.func99, Tryd.ntmps99
    go_wp2
    go_loopw [7] (fun i wr => CuR l n 1 i ∧ w = wr) (fun i _ => n - (intOf i).toNat)
    case atStart => exact ⟨HST.out, rfl⟩
    case round =>
      obtain ⟨⟨e, rfl, he, hef, hdig⟩, rfl⟩ := hrel
      clear HST
      have HD := Lib.hid hdig
      clear hdig
      rcases hye : l[e]? with _ | y
      · have hen : e = n := by
          rcases Nat.lt_or_ge e n with g | g
          · rw [List.getElem?_eq_getElem (by rw [HN.out]; exact g)] at hye; cases hye
          · omega
        have HEND := Lib.hid (show endS l = e from by
          have := end_is (l := l) (k := e - 1) (fun j x h1 h2 => HD.out (1 + j) x (by rw [HFS.out] at h2; exact h2) (by omega) (by omega)) (by rw [HFS.out, HN.out]; omega) (fun x hx => by rw [HFS.out, show 1 + (e - 1) = e by omega, hye] at hx; cases hx)
          rw [this, HFS.out]; omega)
        have HCR := Lib.hid (show cutR l = (0, l.take e, []) from by unfold cutR; rw [HEND.out, List.drop_of_length_le (by rw [HN.out]; omega)])
        have hA := fun W => rn_upto (P := Tryd.prog) Tryd.underlying9 (l := l) (k := e) (by rw [HN.out]; omega) rfl .i64 W
        have hB := fun W => rn_from (P := Tryd.prog) Tryd.underlying9 (l := l) (k := e) (x := []) (by rw [HN.out]; omega) (List.drop_of_length_le (by rw [HN.out]; omega)) .i64 W
        obtain ⟨T, hT⟩ : ∃ T, l.take e = T := ⟨_, rfl⟩
        have hTl : T.length ≤ 1048576 := by rw [← hT, List.length_take]; omega
        have hlen0 : (l.length : Int) = n := by rw [HN.out]
        have hlt : ¬ (e : Int) < (n : Int) := by omega
        rw [hT] at hA HCR
        clear hT hye hen HEND
        go_wp2_with fail
        go_quiet (fail)
        generalize hWd : World.drewN w _ = w2
        have hw2 : Below w.heap.size w w2 := by subst hWd; exact bl_dn (Below.refl _ _)
        clear hWd
        go_wp2_with fail
        rcases Classical.em (∃ v, Lib.atoiAll T = .ok v) with ⟨v, hv⟩ | hno
        · have HA := Lib.hid (fun W => atoi_ok T v hv (by first | omega | (simp; omega)) W)
          have HV := Lib.hid (show cutV l = .tuple #[.int .u8 ((0 : UInt8).toNat : Int), .int .i64 v, .string (bs []), .bool true] from by unfold cutV cutM; rw [HCR.out]; simp only [hv])
          clear hv
          go_wp2_with fail
          refine (HA.out _).mono ?_
          rintro e w1 ⟨rfl, hb1⟩
          go_wp2
          go_returns
          exact ⟨cv_ret HV.out, below_on hw2 hb1⟩
        · have HA := Lib.hid (fun W hW => atoi_no T (fun v hv => hno ⟨v, hv⟩) (by first | omega | (simp; omega)) W hW)
          have HV := Lib.hid (show cutV l = .tuple #[.int .u8 0, .int .i64 0, .string (bs []), .bool false] from by
            unfold cutV cutM
            rw [HCR.out]
            cases ha : Lib.atoiAll T with
            | ok v => exact absurd ⟨v, ha⟩ hno
            | «syntax» => rfl
            | range => rfl)
          clear hno
          go_wp2_with fail
          refine (HA.out _ (errs_on HE.out hw2)).mono ?_
          rintro e w1 ⟨v, N, rfl, hb1⟩
          go_wp2
          go_returns
          exact ⟨cv_ret HV.out, below_on hw2 hb1⟩
      · have hen : e < n := by have := (List.getElem?_eq_some_iff.1 hye).1; rw [HN.out] at this; exact this
        have hlt : (e : Int) < (n : Int) := by omega
        have hix := fun W => run_at (P := Tryd.prog) Tryd.underlying9 hye .i64 W
        obtain ⟨z, hz⟩ : ∃ z : Int, (y.toNat : Int) = z := ⟨_, rfl⟩
        have hlen0 : (l.length : Int) = n := by rw [HN.out]
        rcases hyd : isD y with _ | _
        · have HEND := Lib.hid (show endS l = e from by
            have := end_is (l := l) (k := e - 1) (fun j x h1 h2 => HD.out (1 + j) x (by rw [HFS.out] at h2; exact h2) (by omega) (by omega)) (by rw [HFS.out, HN.out]; omega) (fun x hx => by rw [HFS.out, show 1 + (e - 1) = e by omega, hye] at hx; obtain rfl := Option.some.inj hx; exact hyd)
            rw [this, HFS.out]; omega)
          have hdr : l.drop e = y :: l.drop (e + 1) := by
            rw [List.drop_eq_getElem_cons (by rw [HN.out]; exact hen)]
            congr 1
            rw [List.getElem?_eq_getElem (by rw [HN.out]; exact hen)] at hye
            exact Option.some.inj hye
          have hA := fun W => rn_upto (P := Tryd.prog) Tryd.underlying9 (l := l) (k := e) (by rw [HN.out]; omega) rfl .i64 W
          obtain ⟨R, hR⟩ : ∃ R, l.drop (e + 1) = R := ⟨_, rfl⟩
          rw [hR] at hdr
          have hRl : R.length ≤ 1048576 := by rw [← hR, List.length_drop]; omega
          have hB := fun W => rn_from (P := Tryd.prog) Tryd.underlying9 (l := l) (k := e) (x := y :: R) (by rw [HN.out]; omega) hdr .i64 W
          obtain ⟨T, hT⟩ : ∃ T, l.take e = T := ⟨_, rfl⟩
          have hTl : T.length ≤ 1048576 := by rw [← hT, List.length_take]; omega
          have HCR0 := Lib.hid (show cutR l = if isL y = true then (y, (if e = 1 then T ++ [49] else T), R) else (0, T, y :: R) from by unfold cutR; rw [HEND.out, HFS.out, hdr, hT])
          have hYx : ∀ W, (Instr.index 9 (.string (bs (y :: R))) (.int .i64 0)).run Tryd.prog W = .ok (.int .u8 (y.toNat : Int)) W := fun W => run_at (P := Tryd.prog) Tryd.underlying9 (l := y :: R) (i := 0) (x := y) rfl .i64 W
          have hYr : ∀ W, (Instr.slice 9 (.string (bs (y :: R))) (some (.int .i64 1)) none none).run Tryd.prog W = .ok (.string (bs R)) W := fun W => rn_from (P := Tryd.prog) Tryd.underlying9 (l := y :: R) (k := 1) (x := R) (by simp) rfl .i64 W
          have HIX := Lib.hid (fun W => index_is y W)
          rw [hT] at hA
          rw [hz] at hix hYx HIX
          have HZ := Lib.hid hz
          have hdd : (decide (48 ≤ z) && decide (z ≤ 57)) = false := by rw [← hz]; unfold isD at hyd; rw [← hyd]; congr 1 <;> (apply decide_eq_decide.2; omega)
          have hYl : (y :: R).length ≤ 1048577 := by simp; omega
          obtain ⟨Y, hY⟩ : ∃ Y, y :: R = Y := ⟨_, rfl⟩
          have hYe : Y.isEmpty = false := by rw [← hY]; rfl
          rw [hY] at hB hYx hYr HCR0 hYl
          have HYY := Lib.hid hY
          clear hT hye HEND hdr hR hyd hz hY
          have hdc : (decide (48 ≤ z) = false ∧ True) ∨ (decide (48 ≤ z) = true ∧ decide (z ≤ 57) = false) := by
            cases h48 : decide (48 ≤ z) with
            | false => exact .inl ⟨rfl, trivial⟩
            | true => rw [h48, Bool.true_and] at hdd; exact .inr ⟨rfl, hdd⟩
          rcases hdc with ⟨hd1, hd2⟩ | ⟨hd1, hd2⟩
          all_goals
            clear hdd
            rcases hL : isL y with _ | _
            · have HCR := Lib.hid (show cutR l = (0, T, Y) from by rw [HCR0.out, hL]; rfl)
              rw [hL] at HIX
              clear hL HCR0
              go_wp2_with fail
              go_quiet (fail)
              generalize hWd : World.drewN w _ = w2
              have hw2 : Below w.heap.size w w2 := by subst hWd; exact bl_dn (Below.refl _ _)
              clear hWd
              go_wp2_with fail
              refine (HIX.out _).mono ?_
              rintro e w1 ⟨r, rfl, hr, hw1⟩
              have hw3 : Below w.heap.size w w1 := hw1 ▸ hw2
              clear hw1 hw2
              rcases Classical.em (∃ v, Lib.atoiAll T = .ok v) with ⟨v, hv⟩ | hno
              · have HA := Lib.hid (fun W => atoi_ok T v hv (by first | omega | (simp; omega)) W)
                have HV := Lib.hid (show cutV l = .tuple #[.int .u8 ((0 : UInt8).toNat : Int), .int .i64 v, .string (bs Y), .bool true] from by unfold cutV cutM; rw [HCR.out]; simp only [hv])
                clear hv
                go_wp2_with fail
                refine (HA.out _).mono ?_
                rintro e w1 ⟨rfl, hb1⟩
                go_wp2
                go_returns
                exact ⟨cv_ret HV.out, below_on hw3 hb1⟩
              · have HA := Lib.hid (fun W hW => atoi_no T (fun v hv => hno ⟨v, hv⟩) (by first | omega | (simp; omega)) W hW)
                have HV := Lib.hid (show cutV l = .tuple #[.int .u8 0, .int .i64 0, .string (bs []), .bool false] from by
                  unfold cutV cutM
                  rw [HCR.out]
                  cases ha : Lib.atoiAll T with
                  | ok v => exact absurd ⟨v, ha⟩ hno
                  | «syntax» => rfl
                  | range => rfl)
                clear hno
                go_wp2_with fail
                refine (HA.out _ (errs_on HE.out hw3)).mono ?_
                rintro e w1 ⟨v, N, rfl, hb1⟩
                go_wp2
                go_returns
                exact ⟨cv_ret HV.out, below_on hw3 hb1⟩
            · rw [hL] at HIX
              by_cases hef2 : e = 1
              · have HCR := Lib.hid (show cutR l = (y, T ++ [49], R) from by rw [HCR0.out, hL, if_pos hef2]; rfl)
                have heq : ((e : Int) == 1) = true := by rw [beq_iff_eq]; omega
                clear hL HCR0 hef2
                go_wp2_with fail
                go_quiet (fail)
                generalize hWd : World.drewN w _ = w2
                have hw2 : Below w.heap.size w w2 := by subst hWd; exact bl_dn (Below.refl _ _)
                clear hWd
                go_wp2_with fail
                refine (HIX.out _).mono ?_
                rintro e w1 ⟨r, rfl, hr, hw1⟩
                have hw3 : Below w.heap.size w w1 := hw1 ▸ hw2
                clear hw1 hw2
                go_wp2_with fail
                go_quiet (fail)
                generalize hWd : World.drewN w1 _ = w2
                have hw2 : Below w.heap.size w w2 := by subst hWd; exact bl_dn hw3
                clear hWd hw3
                rw [← HZ.out]
                go_wp2_with fail
                rcases Classical.em (∃ v, Lib.atoiAll (T ++ [49]) = .ok v) with ⟨v, hv⟩ | hno
                · have HA := Lib.hid (fun W => atoi_ok (T ++ [49]) v hv (by first | omega | (simp; omega)) W)
                  have HV := Lib.hid (show cutV l = .tuple #[.int .u8 ((y : UInt8).toNat : Int), .int .i64 v, .string (bs R), .bool true] from by unfold cutV cutM; rw [HCR.out]; simp only [hv])
                  clear hv
                  go_wp2_with fail
                  refine (HA.out _).mono ?_
                  rintro e w1 ⟨rfl, hb1⟩
                  go_wp2
                  go_returns
                  exact ⟨cv_ret HV.out, below_on hw2 hb1⟩
                · have HA := Lib.hid (fun W hW => atoi_no (T ++ [49]) (fun v hv => hno ⟨v, hv⟩) (by first | omega | (simp; omega)) W hW)
                  have HV := Lib.hid (show cutV l = .tuple #[.int .u8 0, .int .i64 0, .string (bs []), .bool false] from by
                    unfold cutV cutM
                    rw [HCR.out]
                    cases ha : Lib.atoiAll (T ++ [49]) with
                    | ok v => exact absurd ⟨v, ha⟩ hno
                    | «syntax» => rfl
                    | range => rfl)
                  clear hno
                  go_wp2_with fail
                  refine (HA.out _ (errs_on HE.out hw2)).mono ?_
                  rintro e w1 ⟨v, N, rfl, hb1⟩
                  go_wp2
                  go_returns
                  exact ⟨cv_ret HV.out, below_on hw2 hb1⟩
              · have HCR := Lib.hid (show cutR l = (y, T, R) from by rw [HCR0.out, hL, if_neg hef2]; rfl)
                have heq : ((e : Int) == 1) = false := by rw [beq_eq_false_iff_ne]; omega
                clear hL HCR0 hef2
                go_wp2_with fail
                go_quiet (fail)
                generalize hWd : World.drewN w _ = w2
                have hw2 : Below w.heap.size w w2 := by subst hWd; exact bl_dn (Below.refl _ _)
                clear hWd
                go_wp2_with fail
                refine (HIX.out _).mono ?_
                rintro e w1 ⟨r, rfl, hr, hw1⟩
                have hw3 : Below w.heap.size w w1 := hw1 ▸ hw2
                clear hw1 hw2
                go_wp2_with fail
                go_quiet (fail)
                generalize hWd : World.drewN w1 _ = w2
                have hw2 : Below w.heap.size w w2 := by subst hWd; exact bl_dn hw3
                clear hWd hw3
                rw [← HZ.out]
                go_wp2_with fail
                rcases Classical.em (∃ v, Lib.atoiAll T = .ok v) with ⟨v, hv⟩ | hno
                · have HA := Lib.hid (fun W => atoi_ok T v hv (by first | omega | (simp; omega)) W)
                  have HV := Lib.hid (show cutV l = .tuple #[.int .u8 ((y : UInt8).toNat : Int), .int .i64 v, .string (bs R), .bool true] from by unfold cutV cutM; rw [HCR.out]; simp only [hv])
                  clear hv
                  go_wp2_with fail
                  refine (HA.out _).mono ?_
                  rintro e w1 ⟨rfl, hb1⟩
                  go_wp2
                  go_returns
                  exact ⟨cv_ret HV.out, below_on hw2 hb1⟩
                · have HA := Lib.hid (fun W hW => atoi_no T (fun v hv => hno ⟨v, hv⟩) (by first | omega | (simp; omega)) W hW)
                  have HV := Lib.hid (show cutV l = .tuple #[.int .u8 0, .int .i64 0, .string (bs []), .bool false] from by
                    unfold cutV cutM
                    rw [HCR.out]
                    cases ha : Lib.atoiAll T with
                    | ok v => exact absurd ⟨v, ha⟩ hno
                    | «syntax» => rfl
                    | range => rfl)
                  clear hno
                  go_wp2_with fail
                  refine (HA.out _ (errs_on HE.out hw2)).mono ?_
                  rintro e w1 ⟨v, N, rfl, hb1⟩
                  go_wp2
                  go_returns
                  exact ⟨cv_ret HV.out, below_on hw2 hb1⟩
        · have hd1 : decide (48 ≤ z) = true ∧ decide (z ≤ 57) = true := by
            unfold isD at hyd
            rw [Bool.and_eq_true, decide_eq_true_eq, decide_eq_true_eq] at hyd
            exact ⟨decide_eq_true (by omega), decide_eq_true (by omega)⟩
          obtain ⟨hd1, hd2⟩ := hd1
          have HYD := Lib.hid hyd
          have HYE := Lib.hid hye
          rw [hz] at hix
          clear hyd hye hz
          go_wp2
          go_roundw
          case rel => exact ⟨⟨e + 1, by go_num, by omega, by omega, fun j x h1 h2 h3 => by
            by_cases hje : j = e
            · subst hje; rw [HYE.out] at h1; obtain rfl := Option.some.inj h1; exact HYD.out
            · exact HD.out j x h1 h2 (by omega)⟩, by first | rfl | trivial⟩
          case measure => simp [intOf]; omega

end Go.Proofs.YtjgmoledhkikcaaDoor
