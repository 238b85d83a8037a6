/- Reading a term's text, the model: ParseTerm. -/
import Derived.Test.YtjgmoledhkikcaaDoorPtW
import Derived.Test.YtjgmoledhkikcaaDoorTxD
namespace Go.Proofs.YtjgmoledhkikcaaDoor
open Go.RowKit

theorem ownT_form {w : World} {B : Nat} {v : Value} {L : List (List UInt8)} (h : OwnT w B v L) : ∃ sp cap, v = .slice sp L.length cap ∧ L.length ≤ cap ∧ (L = [] ∨ ∃ g, sp = some ⟨g, 0, none⟩ ∧ B ≤ g ∧ g < w.heap.size ∧ ∀ (j : Nat) (x : List UInt8), L[j]? = some x → w.cell? ⟨g, j, none⟩ = some (.string (bs x))) := by
  by_cases hL : L = []
  · subst hL
    rcases h.2 with ⟨rfl, _⟩ | ⟨g, cap, cur, rfl, _⟩
    · exact ⟨none, 0, rfl, Nat.le_refl _, .inl rfl⟩
    · exact ⟨_, cap, rfl, Nat.zero_le _, .inl rfl⟩
  · obtain ⟨g, cap, hv, h1, h2, h3, h4⟩ := ownT_cell h hL
    exact ⟨_, cap, hv, h1, .inr ⟨g, rfl, h2, h3, h4⟩⟩

def PsR (P : List (List UInt8)) (B1 : Nat) (w3 : World) (i : Value) (wr : World) : Prop :=
  ∃ k : Nat, i = .int .i64 k ∧ k ≤ P.length ∧ wr.ownsRow B1 3 1 (.slice (some ⟨B1, 0, none⟩) 5 5) 5 ((fdL (P.take k)).map (Value.int .i64)) ∧ w3.grownBy wr (some B1)
theorem take_snocT {L : List (List UInt8)} {k : Nat} {y : List UInt8} (h : L[k]? = some y) : L.take (k + 1) = L.take k ++ [y] := by rw [List.take_add_one, h]; rfl
theorem gb_refl (w : World) (r : Option Nat) : w.grownBy w r := ⟨rfl, rfl, rfl, Nat.le_refl _, fun _ _ _ => rfl⟩
theorem tp_own {w : World} {B1 : Nat} {L : List Int} (hL : L.length = 5) (h : w.ownsRow B1 3 1 (.slice (some ⟨B1, 0, none⟩) 5 5) 5 (L.map (Value.int .i64))) : C5 w B1 (tp5 L).1 (tp5 L).2.1 (tp5 L).2.2.1 (tp5 L).2.2.2.1 (tp5 L).2.2.2.2 := by
  obtain ⟨a, b, c, d, n, rfl⟩ : ∃ a b c d n, L = [a, b, c, d, n] := by
    match L, hL with
    | [a, b, c, d, n], _ => exact ⟨a, b, c, d, n, rfl⟩
  exact ⟨(World.ownsRow.lt h B1 rfl).2, h.cellAt 0 (by omega), h.cellAt 1 (by omega), h.cellAt 2 (by omega), h.cellAt 3 (by omega), h.cellAt 4 (by omega)⟩

set_option maxRecDepth 10000 in
set_option maxHeartbeats 4000000 in
theorem specParseTerm_any (s : List UInt8) (w : World) (hl : s.length ≤ 1048576) :
    Calls Tryd.prog 47 #[.string (bs s)] w fun e w' => e = .returned (PtV (ptT s)) ∧ Below w.heap.size w w' := by
  have hl0 := bs_list
  have hsz := bs_size
  have hmk : ∀ w, (Instr.makeSlice 46 (.int .i64 5) (.int .i64 5)).run Tryd.prog w = .ok (.slice (some ⟨w.heap.size, 0, none⟩) 5 5) (w.alloc (.cells #[.int .i64 0, .int .i64 0, .int .i64 0, .int .i64 0, .int .i64 0] 3)) := fun _ => by kernel_rfl
  have HLS := Lib.hid hl
  go_enter Tryd.func47, Tryd.ntmps47
  go_wp2_with fail
  generalize hW : World.alloc _ _ = W
  have hz : C5 W w.heap.size 0 0 0 0 0 := by subst hW; exact (by refine ⟨?_, ?_, ?_, ?_, ?_, ?_⟩ <;> first | (simp [go_sem]; done) | (simp; omega))
  have fz0 : Hid (∀ o, W.frozen? ⟨w.heap.size, o, none⟩ = false) := by intro o; subst hW; simp [go_sem]
  have hw : Below w.heap.size w W := by subst hW; go_grown
  have hWs : W.heap.size = w.heap.size + 1 + 1 := by subst hW; simp
  have HOW := Lib.hid (show W.ownsRow (w.heap.size + 1) 3 1 (.slice (some ⟨w.heap.size + 1, 0, none⟩) 5 5) 5 ((fdL []).map (Value.int .i64)) from by
    subst hW
    have := World.ownsRow_lit (base := w.heap.size + 1) (e := 3) (size := 1) (w.alloc (.cells #[.int .i64 0, .int .i64 0, .int .i64 0, .int .i64 0, .int .i64 0] 36)) #[.int .i64 0, .int .i64 0, .int .i64 0, .int .i64 0, .int .i64 0] 5 (by simp) (by decide) rfl
    have e : (fdL []).map (Value.int .i64) = [.int .i64 0, .int .i64 0, .int .i64 0, .int .i64 0, .int .i64 0] := rfl
    rw [e]
    simpa using this)
  clear hW
  refine (l1Parts_any s W hl).mono ?_
  rintro e w3 ⟨P, v, rfl, hown, hfl, hgd, hPl, hb3⟩
  obtain ⟨sp, cap, rfl, hcap, hcells⟩ := ownT_form hown
  have hz3 := c5_on hz hb3
  have fz3 : Hid (∀ o, w3.frozen? ⟨w.heap.size, o, none⟩ = false) := Lib.hid (fz_on hz fz0 hb3)
  have HW3 := Lib.hid (below_on hw hb3)
  have HPT := Lib.hid (pt_parts hgd hfl)
  obtain ⟨B1, hB1⟩ : ∃ B, w.heap.size + 1 = B := ⟨_, rfl⟩
  have HB1 := Lib.hid hB1
  have HO3 := Lib.hid (own_below HOW.out hb3)
  have hBs : B1 < w3.heap.size := by have := hb3.size; omega
  have HCL := Lib.hid (show P = [] ∨ ∃ g, sp = some ⟨g, 0, none⟩ ∧ B1 < g ∧ g < w3.heap.size ∧ ∀ (j : Nat) (x : List UInt8), P[j]? = some x → w3.cell? ⟨g, j, none⟩ = some (.string (bs x)) from by
    rcases hcells with h | ⟨g, h1, h2, h3, h4⟩
    · exact .inl h
    · exact .inr ⟨g, h1, by omega, h3, h4⟩)
  have HPS := Lib.hid (show ∀ p ∈ P, p.length ≤ 1048576 from fun p hp => by
    have h1 := (List.sublist_flatten_of_mem hp).length_le
    rw [hfl] at h1
    omega)
  rw [hB1] at HO3 ⊢
  obtain ⟨N, hN⟩ : ∃ N, P.length = N := ⟨_, rfl⟩
  have HN := Lib.hid hN
  have hN0 : N ≤ 1048576 := by omega
  rw [hN] at hcap ⊢
  have HST := Lib.hid (show PsR P B1 w3 (.int .i64 0) w3 from ⟨0, rfl, Nat.zero_le _, HO3.out, gb_refl _ _⟩)
  have HZ3 := Lib.hid hz3
  clear hz fz0 hw hWs HOW hown hfl hgd hPl hb3 hcells hB1 hN hz3
  go_wp2_with fail
  go_loopw [6] (fun i wr => PsR P B1 w3 i wr) (fun i _ => N - (intOf i).toNat)
  case atStart => exact HST.out
  case round =>
    obtain ⟨k, rfl, hk, hown, hgr⟩ := hrel
    clear HST
    rw [HN.out] at hk
    have HG := Lib.hid hgr
    have hwr : w3.heap.size ≤ wr.heap.size := hgr.size
    by_cases hlt : k < N
    · have hk' : (k : Int) < (N : Int) := by omega
      obtain ⟨p, hp⟩ : ∃ y, P[k]? = some y := ⟨_, List.getElem?_eq_getElem (by rw [HN.out]; exact hlt)⟩
      obtain ⟨g, rfl, hg1, hg2, hgc⟩ := HCL.out.resolve_left (fun h => by rw [h] at hp; cases hp)
      have c0 : wr.cell? ⟨g, k, none⟩ = some (.string (bs p)) := (cell_only hgr hg2 (by omega)).trans (hgc k p hp)
      have HP1 := Lib.hid (fun W => l1Part_any p W (HPS.out p (List.mem_of_getElem? hp)))
      have HNX := Lib.hid (show fdL (P.take (k + 1)) = (fdL (P.take k)).set (p1 p).1 (p1 p).2 from by rw [take_snocT hp, fd_snoc])
      have hq5 := p1_lt p
      obtain ⟨⟨q, y⟩, hqy⟩ : ∃ y, p1 p = y := ⟨_, rfl⟩
      rw [hqy] at HP1 HNX hq5
      simp only [P1V] at HP1
      simp only at hq5
      have hq5i : (q : Int) < 5 := by omega
      have hq0i : (0 : Int) ≤ (q : Int) := by omega
      have HST2 := Lib.hid (World.ownsRow.stored hown q (.int .i64 y))
      obtain ⟨xq, hxq⟩ : ∃ x, wr.cell? ⟨B1, q, none⟩ = some x := ⟨_, (hown.cellAt q (by omega)).trans (List.getElem?_eq_getElem (by rw [List.length_map, fd_len]; omega))⟩
      have hfz := fun o => hown.frozenAt o
      clear hown hp hgc hgr hqy
      go_wp2_with fail
      refine (HP1.out _).mono ?_
      rintro e w4 ⟨rfl, rfl⟩
      go_wp2
      go_roundw
      case rel => exact ⟨k + 1, by go_num, by rw [HN.out]; omega, by rw [HNX.out, List.map_set]; exact HST2.out.1, only_trans HG.out HST2.out.2⟩
      case measure => simp [intOf]; omega
    · have hk' : ¬ (k : Int) < (N : Int) := by omega
      obtain rfl : k = N := by omega
      rw [show P.take k = P from List.take_of_length_le (by rw [HN.out]; exact Nat.le_refl _)] at hown
      have hx := tp_own (fd_len P) hown
      have hz1 := c5_only HZ3.out hgr (by have := HB1.out; omega)
      have fz1 : Hid (∀ o, wr.frozen? ⟨w.heap.size, o, none⟩ = false) := Lib.hid fun o => (frozen_only hgr HZ3.out.1 (by have := HB1.out; omega)).trans (fz3.out o)
      have hw1 : Below w.heap.size w wr := HW3.out.trans (below_only hgr (HW3.out.size) (by have := HB1.out; omega))
      obtain ⟨T, hT⟩ : ∃ T, tp5 (fdL P) = T := ⟨_, rfl⟩
      rw [hT] at hx HPT
      obtain ⟨a, b, c, d, n⟩ := T
      simp only at hx HPT
      have HLT := Lib.hid (fun (h : C5 wr B1 a b c d n) => l1Term_any a b c d n B1 wr h)
      have HFT := Lib.hid (fun W => specFormatTerm_any a b c d n W)
      obtain ⟨F, hF⟩ : ∃ F, tfL a b c d n = F := ⟨_, rfl⟩
      rw [hF] at HFT HPT
      clear hF hT hown hgr
      go_wp2_with fail
      refine (HLT.out hx).mono ?_
      rintro e w4 ⟨rfl, hb4⟩
      have hz4 := c5_on hz1 hb4
      have fz4 : Hid (∀ o, w4.frozen? ⟨w.heap.size, o, none⟩ = false) := Lib.hid (fz_on hz1 fz1 hb4)
      have hw4 := below_on hw1 hb4
      clear hz1 fz1 hb4 hw1 hx HLT
      go_wp2_with fail
      generalize hW : World.alloc _ _ = W5
      have hx : C5 W5 w4.heap.size a b c d n := by subst hW; exact (by refine ⟨?_, ?_, ?_, ?_, ?_, ?_⟩ <;> first | (simp [go_sem]; done) | (simp; omega))
      have hb5 : Below w4.heap.size w4 W5 := by subst hW; go_grown
      clear hW
      have hz5 := c5_on hz4 hb5
      have fz5 : Hid (∀ o, W5.frozen? ⟨w.heap.size, o, none⟩ = false) := Lib.hid (fz_on hz4 fz4 hb5)
      have hw5 := below_on hw4 hb5
      clear hz4 fz4 hb5 hw4
      obtain ⟨x0, x1, x2, x3, x4, x5⟩ := id hx
      refine (HFT.out W5).mono ?_
      rintro e w6 ⟨rfl, hb6⟩
      have hz6 := c5_on hz5 hb6
      have fz6 : Hid (∀ o, w6.frozen? ⟨w.heap.size, o, none⟩ = false) := Lib.hid (fz_on hz5 fz5 hb6)
      have hx6 := c5_on hx hb6
      have hw6 := below_on hw5 hb6
      clear hz5 fz5 hb6 hw5 hx x0 x1 x2 x3 x4 x5
      obtain ⟨x0, x1, x2, x3, x4, x5⟩ := hx6
      obtain ⟨z0, z1, z2, z3, z4, z5⟩ := hz6
      have fz := fz6.out
      rcases hq : (F == s) with _ | _
      · have hq2 : (F != s) = true := by unfold bne; rw [hq]; rfl
        rw [hq] at HPT
        go_wp2
        refine bodyPost_ret (v := .tuple #[.agg #[.int .i64 0, .int .i64 0, .int .i64 0, .int .i64 0, .int .i64 0], .bool false]) (by simp [results, Tryd.results47, go_sem, z1, z2, z3, z4, z5]) rfl ⟨ptv_ret HPT.out.symm, ?_⟩
        exact hw6.trans (by go_grown)
      · have hq2 : (F != s) = false := by unfold bne; rw [hq]; rfl
        rw [hq] at HPT
        go_wp2
        refine bodyPost_ret (v := .tuple #[.agg #[.int .i64 a, .int .i64 b, .int .i64 c, .int .i64 d, .int .i64 n], .bool true]) (by simp [results, Tryd.results47, go_sem, z1, z2, z3, z4, z5]) rfl ⟨ptv_ret HPT.out.symm, ?_⟩
        exact hw6.trans (by go_grown)

end Go.Proofs.YtjgmoledhkikcaaDoor
