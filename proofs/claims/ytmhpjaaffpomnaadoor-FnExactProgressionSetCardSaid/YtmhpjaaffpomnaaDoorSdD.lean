/- The program's sumsBelow. -/
import Derived.Test.YtmhpjaaffpomnaaDoorSdC
namespace Go.Proofs.YtmhpjaaffpomnaaDoor
open Go.RowKit

set_option maxRecDepth 10000 in
set_option maxHeartbeats 4000000 in
theorem sumsBelow_any (h l h' l' : List UInt8) (lim : Nat) (w : World) (hl0 : l ≠ []) (hl0' : l' ≠ []) (hh : h.length ≤ 1000000000) (hl : l.length ≤ 1000000000) (hh' : h'.length ≤ 1000000000) (hl' : l'.length ≤ 1000000000) (hn : lim ≤ 1000000) :
    Calls Tryd.prog 69 #[.agg #[.string (bs h), .string (bs l)], .agg #[.string (bs h'), .string (bs l')], .int .i64 lim] w fun e w' => ∃ b, e = .returned (.slice (some ⟨b, 0, none⟩) lim lim) ∧ SB w' b (sumB (atS h l) (atS h' l')) lim ∧ Below w.heap.size w w' := by
  have H1 := Lib.hid fun w => below_any h l lim w hl0 hh hl hn
  have H2 := Lib.hid fun w => below_any h' l' lim w hl0' hh' hl' hn
  obtain ⟨a, ha⟩ : ∃ a, atS h l = a := ⟨_, rfl⟩
  obtain ⟨a', ha'⟩ : ∃ a, atS h' l' = a := ⟨_, rfl⟩
  rw [ha] at H1
  rw [ha'] at H2
  rw [ha, ha']
  obtain ⟨M, hmk, hMs, hMc⟩ := sb_new lim (by omega)
  clear ha ha' hl0 hl0' hh hl hh' hl'
  go_enter Tryd.func69, Tryd.ntmps69
  go_wp2_with fail
  generalize hW0 : World.alloc w _ = W0
  obtain ⟨hx, hsx, hwx⟩ := s2_new hW0
  clear hW0
  generalize hW : World.alloc W0 _ = W1
  obtain ⟨hz, hsz, hwz⟩ := s2_new hW
  rw [hsx] at hz
  clear hW
  generalize hW : World.alloc W1 _ = W2
  obtain ⟨hr, hsr, hwr⟩ := heap_last hW
  rw [hsz, hsx] at hr
  clear hW
  have X2 := s2_on hx (below_on hwz hwr)
  have Z2 := s2_on hz hwr
  have R2 : SB W2 (w.heap.size + 1 + 1) (fun _ => false) lim := ⟨M, hr, hMs, hMc⟩
  have B2 := below_on hwx (below_on hwz hwr)
  have S2s : W2.heap.size = w.heap.size + 1 + 1 + 1 := by omega
  clear hx hz hr hwx hwz hwr hsx hsz hsr hmk hMs hMc
  obtain ⟨x0, x1, x2, x3⟩ := id X2
  obtain ⟨z0, z1, z2, z3⟩ := id Z2
  refine (H2.out _).mono ?_
  rintro e w3 ⟨v3, rfl, ho3, hb3⟩
  obtain ⟨sp3, c3, rfl, hc3, hm3, hrd3⟩ := own_rd ho3
  have X3 := s2_on X2 hb3
  have R3 := sb_on R2 hb3
  have B3 := below_on B2 hb3
  have S3s := hb3.size
  clear x0 x1 x2 x3 z0 z1 z2 z3 X2 Z2 R2 B2 hb3 ho3
  obtain ⟨x0, x1, x2, x3⟩ := id X3
  go_wp2_with fail
  refine (H1.out _).mono ?_
  rintro e w4 ⟨v4, rfl, ho4, hb4⟩
  obtain ⟨sp4, c4, rfl, hc4, hm4, hrd4⟩ := own_rd ho4
  have RD3 := Lib.hid (rdn_on hrd3 hb4)
  have RD4 := Lib.hid hrd4
  have R4 := Lib.hid (sb_on R3 hb4)
  have B4 := Lib.hid (below_on B3 hb4)
  have hB3 : w.heap.size + 1 + 1 < W2.heap.size := by omega
  have hB4 : w.heap.size + 1 + 1 < w3.heap.size := by omega
  obtain ⟨n1, hn1⟩ : ∃ n, (blN a lim).length = n := ⟨_, rfl⟩
  obtain ⟨n2, hn2⟩ : ∃ n, (blN a' lim).length = n := ⟨_, rfl⟩
  have HN1 := Lib.hid hn1
  have HN2 := Lib.hid hn2
  have hnb1 : n1 ≤ 1000000 := by have := bl_len a lim; omega
  have hnb2 : n2 ≤ 1000000 := by have := bl_len a' lim; omega
  rw [hn1] at hc4 ⊢
  rw [hn2] at hc3 ⊢
  clear x0 x1 x2 x3 X3 R3 B3 hrd3 hrd4 ho4 hb4 hn1 hn2 S2s S3s
  go_wp2_with fail
  go_loopw [22] (fun i wr => ∃ k : Nat, i = .int .i64 k ∧ k ≤ n1 ∧ SB wr (w.heap.size + 1 + 1) (gO (blN a lim) (blN a' lim) k) lim ∧ RdN wr W2.heap.size sp3 (blN a' lim) ∧ RdN wr w3.heap.size sp4 (blN a lim) ∧ Below w.heap.size w wr) (fun i _ => n1 - (intOf i).toNat)
  case atStart => exact ⟨0, rfl, Nat.zero_le _, sb_as R4.out (fun n _ => by simp [gO]), RD3.out, RD4.out, B4.out⟩
  case round =>
    obtain ⟨k, rfl, hk, hsb, hr3, hr4, hb⟩ := hrel
    have HSB := Lib.hid hsb
    have HR3 := Lib.hid hr3
    have HR4 := Lib.hid hr4
    have HBB := Lib.hid hb
    clear hsb hr3 hb
    by_cases hkn : k < n1
    · have hk' : (k : Int) < (n1 : Int) := by omega
      have hwk : IntKind.i64.wrap ((k : Int) + 1) = ((k + 1 : Nat) : Int) := by rw [IntKind.wrap_i64]; omega
      obtain ⟨x, hx⟩ : ∃ x, (blN a lim)[k]? = some x := ⟨_, List.getElem?_eq_getElem (by rw [HN1.out]; exact hkn)⟩
      have HX := Lib.hid hx
      have hxl : x < lim := (bl_mem.1 (List.mem_of_getElem? hx)).1
      obtain ⟨g4, rfl, hg4, hgs4, hgc4⟩ := hr4.resolve_left (by rw [HN1.out]; omega)
      have hcx := hgc4 k x hx
      clear hr4 hx hgc4
      go_wp2_with fail
      go_loopw [28] (fun i wx => ∃ j : Nat, i = .int .i64 j ∧ j ≤ n2 ∧ SB wx (w.heap.size + 1 + 1) (gI (blN a lim) (blN a' lim) k x j) lim ∧ RdN wx W2.heap.size sp3 (blN a' lim) ∧ RdN wx w3.heap.size (some ⟨g4, 0, none⟩) (blN a lim) ∧ Below w.heap.size w wx) (fun i _ => n2 - (intOf i).toNat)
      case atStart => exact ⟨0, rfl, Nat.zero_le _, sb_as HSB.out (fun n _ => (gI_zero _ _ _ _ _).symm), HR3.out, HR4.out, HBB.out⟩
      case round =>
        obtain ⟨j, rfl, hj, hsb, hr3, hr4, hb⟩ := hrel
        rename World => wx
        have HSB2 := Lib.hid hsb
        have HR32 := Lib.hid hr3
        have HR42 := Lib.hid hr4
        have HBB2 := Lib.hid hb
        clear hr4 hb hcx
        by_cases hjn : j < n2
        · have hj' : (j : Int) < (n2 : Int) := by omega
          have hwj : IntKind.i64.wrap ((j : Int) + 1) = ((j + 1 : Nat) : Int) := by rw [IntKind.wrap_i64]; omega
          obtain ⟨y, hy⟩ : ∃ y, (blN a' lim)[j]? = some y := ⟨_, List.getElem?_eq_getElem (by rw [HN2.out]; exact hjn)⟩
          have HY := Lib.hid hy
          have hyl : y < lim := (bl_mem.1 (List.mem_of_getElem? hy)).1
          obtain ⟨g3, hg3e, hg3, hgs3, hgc3⟩ := hr3.resolve_left (by rw [HN2.out]; omega)
          have hcy := hgc3 j y hy
          obtain ⟨r, hr⟩ : ∃ r, x + y = r := ⟨_, rfl⟩
          have hwr : IntKind.i64.wrap ((x : Int) + (y : Int)) = (r : Int) := by rw [IntKind.wrap_i64]; omega
          by_cases hs : lim ≤ r
          · have hs' : decide ((lim : Int) ≤ (r : Int)) = true := decide_eq_true (by omega)
            have hs2 : decide (lim ≤ r) = true := decide_eq_true hs
            have HN : Hid (SB wx (w.heap.size + 1 + 1) (gO (blN a lim) (blN a' lim) (k + 1)) lim) := Lib.hid (sb_as HSB2.out fun n q => gI_stop HX.out HY.out (by omega) q)
            clear hsb hr3 hy hgc3 hr hs
            subst hg3e
            go_wp2
            go_roundw
            case rel => exact ⟨k + 1, rfl, by omega, HN.out, HR32.out, HR42.out, HBB2.out⟩
            case measure => simp [intOf]; omega
          · have hs' : decide ((lim : Int) ≤ (r : Int)) = false := decide_eq_false (by omega)
            have hs2 : decide (lim ≤ r) = false := decide_eq_false hs
            have hrl : r < lim := by omega
            have hrl' : (r : Int) < (lim : Int) := by omega
            obtain ⟨hc0, hf0⟩ := sb_cell hsb hrl
            have HN : Hid (SB (wx.setCell ⟨w.heap.size + 1 + 1, r, none⟩ (.bool true)) (w.heap.size + 1 + 1) (gI (blN a lim) (blN a' lim) k x (j + 1)) lim) := Lib.hid (sb_as (sb_put hsb hrl) fun n _ => by rw [← hr]; exact gI_put HY.out)
            clear hsb hr3 hy hgc3 hr hs
            subst hg3e
            go_wp2
            go_roundw
            case rel => exact ⟨j + 1, rfl, by omega, HN.out, rdn_set HR32.out hB3, rdn_set HR42.out hB4, HBB2.out.setCell (by show w.heap.size ≤ w.heap.size + 1 + 1; omega) _⟩
            case measure => simp [intOf]; omega
        · have hj' : ¬ (j : Int) < (n2 : Int) := by omega
          obtain rfl : j = n2 := by omega
          have HN : Hid (SB wx (w.heap.size + 1 + 1) (gO (blN a lim) (blN a' lim) (k + 1)) lim) := Lib.hid (sb_as HSB2.out fun n _ => by rw [← HN2.out]; exact gI_all HX.out)
          clear hsb hr3
          go_wp2
          go_roundw
          case rel => exact ⟨k + 1, rfl, by omega, HN.out, HR32.out, HR42.out, HBB2.out⟩
          case measure => simp [intOf]; omega
    · have hk' : ¬ (k : Int) < (n1 : Int) := by omega
      obtain rfl : k = n1 := by omega
      have HN : Hid (SB wr (w.heap.size + 1 + 1) (sumB a a') lim) := Lib.hid (sb_as HSB.out fun n q => by rw [← HN1.out]; exact gO_sum q)
      clear hr4
      go_wp2
      go_ret
      exact ⟨_, rfl, HN.out, HBB.out⟩
end Go.Proofs.YtmhpjaaffpomnaaDoor
