/- The text of an atom: data, the program and the model. -/
import Derived.Test.YtjgmoledhkikcaaDoorTxD
import Derived.Test.YtjgmoledhkikcaaDoorAtB
namespace Go.Proofs.YtjgmoledhkikcaaDoor
open Go.RowKit

/-- An atom's text. -/
def taL (k m a b c d n : Int) : List UInt8 :=
  if avB k m a b c d n = true then (if k = 0 then tfL a b c d n ++ [60, 61, 48] else if k = 1 then tfL a b c d n ++ [61, 48] else if k = 2 then Lib.itoa m ++ 124 :: tfL a b c d n else Lib.itoa m ++ 33 :: tfL a b c d n) else []
theorem tf_len (a b c d n : Int) : (tfL a b c d n).length ≤ 115 := by
  unfold tfL
  split
  · rename_i h
    have := ft_len (ft_bd h) 5
    split
    · simp
    · omega
  · simp

set_option maxHeartbeats 2000000 in
theorem pFormatAtom_any (k m a b c d n : Int) (w : World) (ht : Tab w) :
    Calls Tryd.prog 34 #[.agg #[.int .i64 k, .int .i64 m, .int .i64 a, .int .i64 b, .int .i64 c, .int .i64 d, .int .i64 n]] w fun e w' => e = .returned (.string (bs (taL k m a b c d n))) ∧ Below w.heap.size w w' := by
  have hb0 : ({ data := #[] } : ByteArray) = bs [] := rfl
  have hb1 : ({ data := #[60, 61, 48] } : ByteArray) = bs [60, 61, 48] := rfl
  have hb2 : ({ data := #[61, 48] } : ByteArray) = bs [61, 48] := rfl
  have hb3 : ({ data := #[124] } : ByteArray) = bs [124] := rfl
  have hb4 : ({ data := #[33] } : ByteArray) = bs [33] := rfl
  have happ := bs_app
  have hsz := bs_size
  obtain ⟨t, hv⟩ : ∃ t, avB k m a b c d n = t := ⟨_, rfl⟩
  have HV := Lib.hid fun W => AtomValid_is k m a b c d n t W hv
  have HW := Lib.hid hv
  clear hv
  have HT := Lib.hid ht
  clear ht
  go_enter Tryd.func34, Tryd.ntmps34
  go_wp2_with fail
  generalize hW : w.alloc (.cells #[.int .i64 k, .int .i64 m, .int .i64 a, .int .i64 b, .int .i64 c, .int .i64 d, .int .i64 n] 38) = W
  have hx : C7 W w.heap.size k m a b c d n := by subst hW; exact (by refine ⟨?_, ?_, ?_, ?_, ?_, ?_, ?_, ?_⟩ <;> first | (simp [go_sem]; done) | (simp; omega))
  have hw0 : Below w.heap.size w W := by subst hW; go_grown
  clear hW
  obtain ⟨x0, x1, x2, x3, x4, x5, x6, x7⟩ := id hx
  refine (HV.out _).mono ?_
  rintro e w1 ⟨rfl, hv1⟩
  have HB1 := Lib.hid (below_on hw0 hv1)
  have HX := Lib.hid (c7_on hx hv1)
  clear hx hw0 hv1 x0 x1 x2 x3 x4 x5 x6 x7
  cases t with
  | false =>
    have HF := Lib.hid (show taL k m a b c d n = [] by unfold taL; rw [if_neg (by rw [HW.out]; decide)])
    go_wp2
    go_ret
    exact ⟨by rw [HF.out]; rfl, HB1.out⟩
  | true =>
    obtain ⟨F, hF⟩ : ∃ F, tfL a b c d n = F := ⟨_, rfl⟩
    have hFl : F.length ≤ 115 := by rw [← hF]; exact tf_len a b c d n
    have HP := Lib.hid fun W (h : Tab W) => pFormatTerm_any a b c d n W h
    rw [hF] at HP
    have HFF := Lib.hid hF
    clear hF
    obtain ⟨D, hD⟩ : ∃ D, Lib.itoa m = D := ⟨_, rfl⟩
    have HD := Lib.hid hD
    clear hD
    obtain ⟨x0, x1, x2, x3, x4, x5, x6, x7⟩ := HX.out
    rcases (avB_cases HW.out).1 with ⟨rfl, rfl⟩ | ⟨rfl, rfl⟩ | ⟨rfl, hm0, hm1⟩ | ⟨rfl, hm0, hm1⟩
    · have HF := Lib.hid (show taL 0 0 a b c d n = F ++ [60, 61, 48] by unfold taL; rw [if_pos HW.out, if_pos rfl, HFF.out])
      go_wp2_with fail
      refine (HP.out _ (tab_on HT.out HB1.out)).mono ?_
      rintro e w2 ⟨rfl, hv2⟩
      have HB2 := Lib.hid (below_on HB1.out hv2)
      obtain ⟨y0, y1, y2, y3, y4, y5, y6, y7⟩ := c7_on HX.out hv2
      clear hv2
      go_wp2
      go_ret
      exact ⟨by rw [HF.out]; rfl, HB2.out⟩
    · have HF := Lib.hid (show taL 1 0 a b c d n = F ++ [61, 48] by unfold taL; rw [if_pos HW.out, if_neg (by decide), if_pos rfl, HFF.out])
      go_wp2_with fail
      refine (HP.out _ (tab_on HT.out HB1.out)).mono ?_
      rintro e w2 ⟨rfl, hv2⟩
      have HB2 := Lib.hid (below_on HB1.out hv2)
      obtain ⟨y0, y1, y2, y3, y4, y5, y6, y7⟩ := c7_on HX.out hv2
      clear hv2
      go_wp2
      go_ret
      exact ⟨by rw [HF.out]; rfl, HB2.out⟩
    · have HF := Lib.hid (show taL 2 m a b c d n = D ++ 124 :: F by unfold taL; rw [if_pos HW.out, if_neg (by decide), if_neg (by decide), if_pos rfl, HFF.out, HD.out])
      have hDl : D.length ≤ 21 := by rw [← HD.out]; exact Lib.itoa_length_le m (by omega) (by omega)
      have HI := Lib.hid fun W (h : Tab W) => itoa_is m W h (by omega) (by omega)
      rw [HD.out] at HI
      clear hm0 hm1
      go_wp2_with fail
      refine (HP.out _ (tab_on HT.out HB1.out)).mono ?_
      rintro e w2 ⟨rfl, hv2⟩
      have HB2 := Lib.hid (below_on HB1.out hv2)
      obtain ⟨y0, y1, y2, y3, y4, y5, y6, y7⟩ := c7_on HX.out hv2
      clear hv2
      go_wp2_with fail
      refine (HI.out _ (tab_on HT.out HB2.out)).mono ?_
      rintro e w3 ⟨rfl, hv3⟩
      have HB3 := Lib.hid (below_on HB2.out hv3)
      clear hv3
      go_wp2
      go_ret
      exact ⟨by rw [HF.out]; rfl, HB3.out⟩
    · have HF := Lib.hid (show taL 3 m a b c d n = D ++ 33 :: F by unfold taL; rw [if_pos HW.out, if_neg (by decide), if_neg (by decide), if_neg (by decide), HFF.out, HD.out])
      have hDl : D.length ≤ 21 := by rw [← HD.out]; exact Lib.itoa_length_le m (by omega) (by omega)
      have HI := Lib.hid fun W (h : Tab W) => itoa_is m W h (by omega) (by omega)
      rw [HD.out] at HI
      clear hm0 hm1
      go_wp2_with fail
      refine (HP.out _ (tab_on HT.out HB1.out)).mono ?_
      rintro e w2 ⟨rfl, hv2⟩
      have HB2 := Lib.hid (below_on HB1.out hv2)
      obtain ⟨y0, y1, y2, y3, y4, y5, y6, y7⟩ := c7_on HX.out hv2
      clear hv2
      go_wp2_with fail
      refine (HI.out _ (tab_on HT.out HB2.out)).mono ?_
      rintro e w3 ⟨rfl, hv3⟩
      have HB3 := Lib.hid (below_on HB2.out hv3)
      clear hv3
      go_wp2
      go_ret
      exact ⟨by rw [HF.out]; rfl, HB3.out⟩

set_option maxHeartbeats 2000000 in
theorem specFormatAtom_any (k m a b c d n : Int) (w : World) :
    Calls Tryd.prog 30 #[.agg #[.int .i64 k, .int .i64 m, .int .i64 a, .int .i64 b, .int .i64 c, .int .i64 d, .int .i64 n]] w fun e w' => e = .returned (.string (bs (taL k m a b c d n))) ∧ Below w.heap.size w w' := by
  have hb0 : ({ data := #[] } : ByteArray) = bs [] := rfl
  have hb1 : ({ data := #[60, 61, 48] } : ByteArray) = bs [60, 61, 48] := rfl
  have hb2 : ({ data := #[61, 48] } : ByteArray) = bs [61, 48] := rfl
  have hb3 : ({ data := #[124] } : ByteArray) = bs [124] := rfl
  have hb4 : ({ data := #[33] } : ByteArray) = bs [33] := rfl
  have happ := bs_app
  have hsz := bs_size
  obtain ⟨t, hv⟩ : ∃ t, avB k m a b c d n = t := ⟨_, rfl⟩
  have HV := Lib.hid fun W => specAtomValid_is k m a b c d n t W hv
  have HW := Lib.hid hv
  clear hv
  go_enter Tryd.func30, Tryd.ntmps30
  go_wp2_with fail
  generalize hW : w.alloc (.cells #[.int .i64 k, .int .i64 m, .int .i64 a, .int .i64 b, .int .i64 c, .int .i64 d, .int .i64 n] 38) = W
  have hx : C7 W w.heap.size k m a b c d n := by subst hW; exact (by refine ⟨?_, ?_, ?_, ?_, ?_, ?_, ?_, ?_⟩ <;> first | (simp [go_sem]; done) | (simp; omega))
  have hw0 : Below w.heap.size w W := by subst hW; go_grown
  clear hW
  obtain ⟨x0, x1, x2, x3, x4, x5, x6, x7⟩ := id hx
  refine (HV.out _).mono ?_
  rintro e w1 ⟨rfl, hv1⟩
  have HB1 := Lib.hid (below_on hw0 hv1)
  have HX := Lib.hid (c7_on hx hv1)
  clear hx hw0 hv1 x0 x1 x2 x3 x4 x5 x6 x7
  cases t with
  | false =>
    have HF := Lib.hid (show taL k m a b c d n = [] by unfold taL; rw [if_neg (by rw [HW.out]; decide)])
    go_wp2
    go_ret
    exact ⟨by rw [HF.out]; rfl, HB1.out⟩
  | true =>
    obtain ⟨F, hF⟩ : ∃ F, tfL a b c d n = F := ⟨_, rfl⟩
    have hFl : F.length ≤ 115 := by rw [← hF]; exact tf_len a b c d n
    have HP := Lib.hid fun W => specFormatTerm_any a b c d n W
    rw [hF] at HP
    have HFF := Lib.hid hF
    clear hF
    obtain ⟨D, hD⟩ : ∃ D, Lib.itoa m = D := ⟨_, rfl⟩
    have HD := Lib.hid hD
    clear hD
    obtain ⟨x0, x1, x2, x3, x4, x5, x6, x7⟩ := HX.out
    rcases (avB_cases HW.out).1 with ⟨rfl, rfl⟩ | ⟨rfl, rfl⟩ | ⟨rfl, hm0, hm1⟩ | ⟨rfl, hm0, hm1⟩
    · have HF := Lib.hid (show taL 0 0 a b c d n = F ++ [60, 61, 48] by unfold taL; rw [if_pos HW.out, if_pos rfl, HFF.out])
      go_wp2_with fail
      refine (HP.out _).mono ?_
      rintro e w2 ⟨rfl, hv2⟩
      have HB2 := Lib.hid (below_on HB1.out hv2)
      obtain ⟨y0, y1, y2, y3, y4, y5, y6, y7⟩ := c7_on HX.out hv2
      clear hv2
      go_wp2
      go_ret
      exact ⟨by rw [HF.out]; rfl, HB2.out⟩
    · have HF := Lib.hid (show taL 1 0 a b c d n = F ++ [61, 48] by unfold taL; rw [if_pos HW.out, if_neg (by decide), if_pos rfl, HFF.out])
      go_wp2_with fail
      refine (HP.out _).mono ?_
      rintro e w2 ⟨rfl, hv2⟩
      have HB2 := Lib.hid (below_on HB1.out hv2)
      obtain ⟨y0, y1, y2, y3, y4, y5, y6, y7⟩ := c7_on HX.out hv2
      clear hv2
      go_wp2
      go_ret
      exact ⟨by rw [HF.out]; rfl, HB2.out⟩
    · have HF := Lib.hid (show taL 2 m a b c d n = D ++ 124 :: F by unfold taL; rw [if_pos HW.out, if_neg (by decide), if_neg (by decide), if_pos rfl, HFF.out, HD.out])
      have hDl : D.length ≤ 21 := by rw [← HD.out]; exact Lib.itoa_length_le m (by omega) (by omega)
      have HI := Lib.hid fun W => l17Dec_any m W (by omega) (by omega)
      rw [HD.out] at HI
      clear hm0 hm1
      go_wp2_with fail
      refine (HP.out _).mono ?_
      rintro e w2 ⟨rfl, hv2⟩
      have HB2 := Lib.hid (below_on HB1.out hv2)
      obtain ⟨y0, y1, y2, y3, y4, y5, y6, y7⟩ := c7_on HX.out hv2
      clear hv2
      go_wp2_with fail
      refine (HI.out _).mono ?_
      rintro e w3 ⟨rfl, hv3⟩
      have HB3 := Lib.hid (below_on HB2.out hv3)
      clear hv3
      go_wp2
      go_ret
      exact ⟨by rw [HF.out]; rfl, HB3.out⟩
    · have HF := Lib.hid (show taL 3 m a b c d n = D ++ 33 :: F by unfold taL; rw [if_pos HW.out, if_neg (by decide), if_neg (by decide), if_neg (by decide), HFF.out, HD.out])
      have hDl : D.length ≤ 21 := by rw [← HD.out]; exact Lib.itoa_length_le m (by omega) (by omega)
      have HI := Lib.hid fun W => l17Dec_any m W (by omega) (by omega)
      rw [HD.out] at HI
      clear hm0 hm1
      go_wp2_with fail
      refine (HP.out _).mono ?_
      rintro e w2 ⟨rfl, hv2⟩
      have HB2 := Lib.hid (below_on HB1.out hv2)
      obtain ⟨y0, y1, y2, y3, y4, y5, y6, y7⟩ := c7_on HX.out hv2
      clear hv2
      go_wp2_with fail
      refine (HI.out _).mono ?_
      rintro e w3 ⟨rfl, hv3⟩
      have HB3 := Lib.hid (below_on HB2.out hv3)
      clear hv3
      go_wp2
      go_ret
      exact ⟨by rw [HF.out]; rfl, HB3.out⟩

end Go.Proofs.YtjgmoledhkikcaaDoor
