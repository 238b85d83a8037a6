/- What the model draws as a list of moduli. -/
import Derived.Test.YtjhfmlbnpdnddaaDrO
import Derived.Test.YtjhfmlbnpdnddaaLcm
import Derived.Laws.AppendOwn
namespace Go.Proofs.Ytjhfmlbnpdnddaa
open Go.RowKit

/-- The slice v is made since block B and holds the ints L. -/
def OwnJ (w : World) (B : Nat) (v : Value) (L : List Int) : Prop := w.ownsRow B 3 1 v L.length (L.map (Value.int .i64))
theorem ownJ_reads {w : World} {B : Nat} {v : Value} {L : List Int} (h : OwnJ w B v L) : RdJ w v L := by
  have h' : w.ownsRow B 3 1 v L.length (L.map (Value.int .i64)) := h
  rcases h'.2 with ⟨rfl, hn⟩ | ⟨g, cap, cur, rfl, hb, hg, h1, h2, _⟩
  · exact ⟨none, 0, by rw [hn], by omega, by decide, Or.inl hn⟩
  · refine ⟨some ⟨g, 0, none⟩, cap, rfl, h1, h2, Or.inr ⟨g, 0, rfl, (Array.getElem?_eq_some_iff.1 hg).1, fun i x hx => ?_⟩⟩
    have hi : i < L.length := (List.getElem?_eq_some_iff.1 hx).1
    rw [Nat.zero_add, h'.cellAt i (by omega)]
    simp [hx]
theorem grown_low {W W' : World} {v : Value} {B e size n : Nat} {xs : List Value} (hown : W.ownsRow B e size v n xs) {C : Nat} (hC : C ≤ B) (hCW : C ≤ W.heap.size) (hg : W.grownBy W' v.ownBlock) : Below C W W' :=
  ⟨hg.os, hg.tape, hg.output, hg.size, fun i hi => hg.block i (Nat.lt_of_lt_of_le hi hCW) (fun e => by have := hown.lt i e.symm; omega)⟩
theorem rd_low {w w' : World} {r B : Nat} {p : Int} (h : Rd w r p) (hr : r < B) (hb : Below B w w') : Rd w' r p := by
  obtain ⟨k, n, cap, sp, rfl, hn, hrw, hr0, hr1, hfr, hu⟩ := h
  refine ⟨k, n, cap, sp, rfl, hn, Nat.lt_of_lt_of_le hrw hb.size, (hb.cell (p := ⟨r, 0, none⟩) hr).trans hr0, (hb.cell (p := ⟨r, 1, none⟩) hr).trans hr1, (hb.frozen (p := ⟨r, 1, none⟩) hr).trans hfr, ?_⟩
  rcases hu with h0 | ⟨b, off, he, hbr, hu⟩
  · exact Or.inl h0
  · refine Or.inr ⟨b, off, he, hbr, fun i hi => ?_⟩
    obtain ⟨u, hc, hu0, hu1⟩ := hu i hi
    exact ⟨u, (hb.cell (p := ⟨b, off + i, none⟩) (by show b < B; omega)).trans hc, hu0, hu1⟩

def DlR (w : World) (r B : Nat) (v i : Value) (wr : World) : Prop :=
  ∃ (L : List Int) (k : Nat) (q : Int), i = .int .i64 k ∧ L.length + k ≤ 4 ∧ OwnJ wr B v L ∧ Rd wr r q ∧ 0 ≤ q ∧ q ≤ 1 + 3 * (4 - k) ∧ Below w.heap.size w wr ∧ B ≤ wr.heap.size

set_option maxRecDepth 10000 in
set_option maxHeartbeats 1000000 in
theorem DrawLcm_t (sp : Option Addr) (n cap : Nat) (w : World) (h : Code w sp n cap) :
    Calls Try.prog 30 #[.slice sp n cap] w fun e w' => ∃ s L, e = .returned s ∧ RdJ w' s L ∧ L.length ≤ 4 ∧ Below w.heap.size w w' := by
  obtain ⟨i0, hi, hz0, hz1, hz2⟩ := info_parts Try.infoInt1
  have H := Lib.hid h
  clear h
  go_enter Try.func30, Try.ntmps30
  go_wp2_with fail
  refine (l17Open_t sp n cap w H.out).mono ?_
  rintro e w1 ⟨r, rfl, hr, hR, hb1⟩
  have HR := Lib.hid hR
  have HB := Lib.hid hb1
  have hrl := rd_lt hR
  have hs1 := hb1.size
  clear hR hb1
  go_wp2_with fail
  generalize hW : World.alloc w1 _ = W
  have hown : OwnJ W w1.heap.size (.slice (some ⟨w1.heap.size, 0, none⟩) 0 0) [] := by
    subst hW
    have := World.ownsRow_lit (base := w1.heap.size) (e := 3) (size := 1) w1 #[] 0 (Nat.le_refl _) (Nat.zero_le _) rfl
    show World.ownsRow _ _ _ _ _ _ _
    simpa using this
  have hbW : Below w1.heap.size w1 W := by subst hW; go_grown
  have hszW : w1.heap.size ≤ W.heap.size := hbW.size
  clear hW
  refine (pick_t r 0 5 W (rd_on HR.out hbW) (by omega)).mono ?_
  rintro e w2 ⟨x, rfl, x0, x1, ht2⟩
  obtain ⟨k, rfl⟩ := Int.eq_ofNat_of_zero_le x0
  have hk4 : k ≤ 4 := by omega
  have hown2 : OwnJ w2 w1.heap.size (.slice (some ⟨w1.heap.size, 0, none⟩) 0 0) [] := (show W.ownsRow _ _ _ _ _ _ from hown).kept ht2.1 (.inr (by simp [Value.ownBlock]; omega))
  have hB2 : Below w.heap.size w w2 := (HB.out.trans (hbW.mono (by omega))).trans (below_only ht2.1 (by omega) hr)
  obtain ⟨hg2, q, q0, q1, hR2⟩ := ht2
  have HST := Lib.hid (show DlR w r w1.heap.size (.slice (some ⟨w1.heap.size, 0, none⟩) 0 0) (.int .i64 k) w2 from ⟨[], k, q, rfl, by simpa using hk4, hown2, hR2, by omega, by omega, hB2, Nat.le_trans hszW hg2.size⟩)
  clear hown hown2 hB2 hg2 hR2 hbW x1
  go_wp2_with fail
  go_loopw [4, 5] (fun v i wr => DlR w r w1.heap.size v i wr) (fun _ i _ => (intOf i).toNat)
  case atStart => exact HST.out
  case round =>
    obtain ⟨L, k, q, rfl, hL, hown, hRd, q0, q1, hB, hBs⟩ := hrel
    clear HST
    have HO := Lib.hid hown
    have HRR := Lib.hid hRd
    have HBB := Lib.hid hB
    clear hown hRd hB
    by_cases hk : k = 0
    · subst hk
      go_wp2
      go_ret
      exact ⟨_, L, rfl, ownJ_reads HO.out, by omega, HBB.out⟩
    · have hk' : (0 : Int) < (k : Int) := by omega
      go_wp2_with fail
      refine (l5Module_t r q wr HRR.out (by omega)).mono ?_
      rintro e w3 ⟨x, rfl, x0, x1, ht3⟩
      have hown3 : w3.ownsRow w1.heap.size 3 1 _ L.length (L.map (Value.int .i64)) := (show wr.ownsRow w1.heap.size 3 1 _ L.length (L.map (Value.int .i64)) from HO.out).kept ht3.1 (by
        have hO : wr.ownsRow w1.heap.size 3 1 _ L.length (L.map (Value.int .i64)) := HO.out
        rcases hO.2 with ⟨rfl, _⟩ | ⟨g, cp, cur, rfl, hbg, _⟩
        · exact .inl rfl
        · exact .inr (by simp [Value.ownBlock]; omega))
      have hB3 : Below w.heap.size w w3 := HBB.out.trans (below_only ht3.1 HBB.out.size hr)
      have hs3 : w1.heap.size ≤ w3.heap.size := Nat.le_trans hBs ht3.1.size
      obtain ⟨_, q3, q30, q31, hR3⟩ := ht3
      have HR3 := Lib.hid hR3
      have HB3 := Lib.hid hB3
      clear hR3 hB3
      go_wp2_with (at_builtin; refine wpList_append_own _ rfl _ _ 43 rfl w1.heap.size 3 i0 (.int .i64 0) 1 8 Try.underlying43 hi hz0 hz1 hz2 rfl (by decide) _ _ _ rfl (hown3.alloc _) ⟨w3.heap.size, 0, none⟩ 1 1 [.int .i64 x] rfl rfl ?c1 ?c2 ?c3 ?c4 ?c5 ?_)
      case c1 =>
        intro j u hj
        match j, hj with
        | 0, hj => simp at hj; subst hj; simp [Addr.add]
      case c2 => intro u hu; simp at hu; subst hu; rfl
      case c3 => unfold maxLen; omega
      case c4 => omega
      case c5 => simp; omega
      · intro v' w4 hown4 hgrow _
        have hbA : Below w3.heap.size w3 (w3.alloc (.cells #[.int .i64 x] 3)) := by go_grown
        have hownA := own_below hown3 hbA
        have hszA : w3.heap.size ≤ (w3.alloc (.cells #[.int .i64 x] 3)).heap.size := hbA.size
        have hlow : Below w1.heap.size w3 w4 := (hbA.mono hs3).trans (grown_low hownA (Nat.le_refl _) (by omega) hgrow)
        have HN : Hid (OwnJ w4 w1.heap.size v' (L ++ [x])) := by
          show w4.ownsRow _ _ _ _ _ _
          simpa using hown4
        have HR4 := Lib.hid (rd_low HR3.out hrl hlow)
        have HB4 := Lib.hid (HB3.out.trans (hlow.mono hs1))
        have hs4 : w1.heap.size ≤ w4.heap.size := Nat.le_trans hs3 hlow.size
        clear hown3 hown4 hgrow hbA hownA hlow
        go_wp2
        go_roundw
        case rel => exact ⟨L ++ [x], k - 1, q3, by go_num, by simp; omega, HN.out, HR4.out, by omega, by omega, HB4.out, hs4⟩
        case measure => simp [intOf]; omega

end Go.Proofs.Ytjhfmlbnpdnddaa
