/- Free variables: freeIn at nodes with parts. -/
import Derived.Test.YtbjmnbpomgaioaaFormV
namespace Go.Proofs.Ytbjmnbpomgaioaa
open Go.RowKit

set_option maxRecDepth 10000 in
set_option maxHeartbeats 2000000 in
theorem fi_n (t : TypeId) (y : Value) (p : Int → Bool) (HC : FiAt (.iface t y) p) : FiAt (.iface 145 (.agg #[.iface t y])) p := by
  intro w
  have H := Lib.hid HC
  clear HC
  have hta := fun w => Try.ta_other 145 (.agg #[.iface t y]) (.inr (.inl rfl)) w
  have htb := fun w => Try.tb_other 145 (.agg #[.iface t y]) (.inr (.inl rfl)) w
  go_enter Try.func84, Try.ntmps84
  go_wp2
  generalize hW : World.alloc _ _ = W
  have hS : FiS w false false false false W := by
    subst hW
    exact fiS_on (fiS_new w _ _) (by go_grown)
  have hc0 : W.cell? ⟨w.heap.size + 3, 0, none⟩ = some (.iface t y) := by subst hW; simp [go_sem]
  clear hW
  refine wp_loop_rounds 2 ?_
  rw [rounds_succ]
  go_wp2_with fail
  refine (H.out _).mono ?_
  rintro e w1 ⟨rfl, hb1⟩
  have hS1 := fiS_on hS hb1
  obtain ⟨c0, hp0⟩ : ∃ q, p 0 = q := ⟨_, rfl⟩
  obtain ⟨c1, hp1⟩ : ∃ q, p 1 = q := ⟨_, rfl⟩
  obtain ⟨c2, hp2⟩ : ∃ q, p 2 = q := ⟨_, rfl⟩
  obtain ⟨c3, hp3⟩ : ∃ q, p 3 = q := ⟨_, rfl⟩
  rw [hp0, hp1, hp2, hp3]
  clear hc0 hb1 hS H
  go_wp2_with fail
  obtain ⟨i0, i1, i2, i3⟩ := Try.ix (.bool c0) (.bool c1) (.bool c2) (.bool c3)
  go_loopw [21] (fun i wr => InR w false false false false c0 c1 c2 c3 i wr) (fun i _ => 4 - (intOf i).toNat)
  case atStart => exact ⟨0, by omega, rfl, hS1⟩
  case round =>
    obtain ⟨k, hk, rfl, hst⟩ := hrel
    have HS := Lib.hid hst
    obtain ⟨hbw, ⟨h0, h1, h2, h3, h4, h5⟩, ⟨g0, g1, g2, g3, g4, g5⟩⟩ := hst
    rcases (by omega : k = 0 ∨ k = 1 ∨ k = 2 ∨ k = 3 ∨ k = 4) with rfl | rfl | rfl | rfl | rfl
    · go_wp2
      go_roundw
      case rel => exact ⟨1, by omega, by go_num, fiS_set0 _ HS.out⟩
      case measure => simp [intOf]
    · go_wp2
      go_roundw
      case rel => exact ⟨2, by omega, by go_num, fiS_set1 _ HS.out⟩
      case measure => simp [intOf]
    · go_wp2
      go_roundw
      case rel => exact ⟨3, by omega, by go_num, fiS_set2 _ HS.out⟩
      case measure => simp [intOf]
    · go_wp2
      go_roundw
      case rel => exact ⟨4, by omega, by go_num, fiS_set3 _ HS.out⟩
      case measure => simp [intOf]
    · have HF := Lib.hid (show FiS w c0 c1 c2 c3 wr from HS.out)
      clear HS hbw h0 h1 h2 h3 h4 h5 g0 g1 g2 g3 g4 g5
      obtain ⟨hbw, ⟨h0, h1, h2, h3, h4, h5⟩, ⟨g0, g1, g2, g3, g4, g5⟩⟩ := HF.out
      go_wp2_with fail
      rw [rounds_succ]
      go_wp2
      (try simp only [Exit.inBlock, Exit.then])
      refine bodyPost_ret (v := .agg #[.bool c0, .bool c1, .bool c2, .bool c3]) ?_ rfl ⟨by rw [hp0, hp1, hp2, hp3], by go_grown⟩
      rw [results_cell1 rfl]
      go_simp

set_option maxRecDepth 10000 in
set_option maxHeartbeats 2000000 in
theorem fi_b (bb : Bool) (u : Int) (hu : 0 ≤ u ∧ u < 4) (t : TypeId) (y : Value) (p : Int → Bool) (HC : FiAt (.iface t y) p) : FiAt (.iface 126 (.agg #[.bool bb, .int .i64 u, .iface t y])) (fun v => if v = u then false else p v) := by
  intro w
  have H := Lib.hid HC
  clear HC
  have hta := fun w => Try.ta_other 126 (.agg #[.bool bb, .int .i64 u, .iface t y]) (.inr (.inr (.inr rfl))) w
  have htb := fun w => Try.tb_bound bb u (.iface t y) w
  have HU := Lib.hid hu
  clear hu
  show Calls Try.prog 84 #[_] w (FiT (if (0 : Int) = u then false else p 0) (if (1 : Int) = u then false else p 1) (if (2 : Int) = u then false else p 2) (if (3 : Int) = u then false else p 3) w)
  obtain ⟨r0, hr0⟩ : ∃ r, (if (0 : Int) = u then false else p 0) = r := ⟨_, rfl⟩
  obtain ⟨r1, hr1⟩ : ∃ r, (if (1 : Int) = u then false else p 1) = r := ⟨_, rfl⟩
  obtain ⟨r2, hr2⟩ : ∃ r, (if (2 : Int) = u then false else p 2) = r := ⟨_, rfl⟩
  obtain ⟨r3, hr3⟩ : ∃ r, (if (3 : Int) = u then false else p 3) = r := ⟨_, rfl⟩
  rw [hr0, hr1, hr2, hr3]
  have HR := Lib.hid (And.intro hr0 (And.intro hr1 (And.intro hr2 hr3)))
  clear hr0 hr1 hr2 hr3
  go_enter Try.func84, Try.ntmps84
  go_wp2
  generalize hW : World.alloc _ _ = W
  have hS : FiS w false false false false W := by
    subst hW
    exact fiS_on (fiS_new w _ _) (by go_grown)
  have hc0 : W.cell? ⟨w.heap.size + 3, 0, none⟩ = some (.iface t y) := by subst hW; simp [go_sem]
  clear hW
  refine wp_loop_rounds 2 ?_
  rw [rounds_succ]
  go_wp2_with fail
  refine (H.out _).mono ?_
  rintro e w1 ⟨rfl, hb1⟩
  have hS1 := fiS_on hS hb1
  obtain ⟨c0, hp0⟩ : ∃ q, p 0 = q := ⟨_, rfl⟩
  obtain ⟨c1, hp1⟩ : ∃ q, p 1 = q := ⟨_, rfl⟩
  obtain ⟨c2, hp2⟩ : ∃ q, p 2 = q := ⟨_, rfl⟩
  obtain ⟨c3, hp3⟩ : ∃ q, p 3 = q := ⟨_, rfl⟩
  rw [hp0, hp1, hp2, hp3]
  clear hc0 hb1 hS H
  go_wp2_with fail
  obtain ⟨i0, i1, i2, i3⟩ := Try.ix (.bool c0) (.bool c1) (.bool c2) (.bool c3)
  go_loopw [21] (fun i wr => InR w false false false false c0 c1 c2 c3 i wr) (fun i _ => 4 - (intOf i).toNat)
  case atStart => exact ⟨0, by omega, rfl, hS1⟩
  case round =>
    obtain ⟨k, hk, rfl, hst⟩ := hrel
    have HS := Lib.hid hst
    obtain ⟨hbw, ⟨h0, h1, h2, h3, h4, h5⟩, ⟨g0, g1, g2, g3, g4, g5⟩⟩ := hst
    rcases (by omega : k = 0 ∨ k = 1 ∨ k = 2 ∨ k = 3 ∨ k = 4) with rfl | rfl | rfl | rfl | rfl
    · go_wp2
      go_roundw
      case rel => exact ⟨1, by omega, by go_num, fiS_set0 _ HS.out⟩
      case measure => simp [intOf]
    · go_wp2
      go_roundw
      case rel => exact ⟨2, by omega, by go_num, fiS_set1 _ HS.out⟩
      case measure => simp [intOf]
    · go_wp2
      go_roundw
      case rel => exact ⟨3, by omega, by go_num, fiS_set2 _ HS.out⟩
      case measure => simp [intOf]
    · go_wp2
      go_roundw
      case rel => exact ⟨4, by omega, by go_num, fiS_set3 _ HS.out⟩
      case measure => simp [intOf]
    · have HF := Lib.hid (show FiS w c0 c1 c2 c3 wr from HS.out)
      clear HS hbw h0 h1 h2 h3 h4 h5 g0 g1 g2 g3 g4 g5 i0 i1 i2 i3
      go_wp2_with fail
      rw [rounds_succ]
      go_upto_region 21 with fail
      generalize hW2 : wr.alloc _ = W2
      have HF2 := Lib.hid (show FiS w c0 c1 c2 c3 W2 by subst hW2; exact fiS_on HF.out (by go_grown))
      have hx : W2.cell? ⟨wr.heap.size, 1, none⟩ = some (.int .i64 u) := by subst hW2; simp [go_sem]
      clear hW2 HF hta htb
      obtain ⟨hbw, ⟨h0, h1, h2, h3, h4, h5⟩, ⟨g0, g1, g2, g3, g4, g5⟩⟩ := HF2.out
      rcases (by have := HU.out; omega : u = 0 ∨ u = 1 ∨ u = 2 ∨ u = 3) with rfl | rfl | rfl | rfl
      · go_upto_region 22 with fail
        generalize hW3 : World.setCell _ _ _ = W3
        have HF3 := Lib.hid (show FiS w false c1 c2 c3 W3 by subst hW3; exact fiS_set0 _ HF2.out)
        clear hW3 hx HF2 hbw h0 h1 h2 h3 h4 h5 g0 g1 g2 g3 g4 g5
        obtain ⟨hbw, ⟨h0, h1, h2, h3, h4, h5⟩, ⟨g0, g1, g2, g3, g4, g5⟩⟩ := HF3.out
        go_wp2
        (try simp only [Exit.inBlock, Exit.then])
        refine bodyPost_ret (v := .agg #[.bool false, .bool c1, .bool c2, .bool c3]) ?_ rfl ⟨by rw [← HR.out.1, ← HR.out.2.1, ← HR.out.2.2.1, ← HR.out.2.2.2]; simp [hp1, hp2, hp3], by go_grown⟩
        rw [results_cell1 rfl]
        go_simp
      · go_upto_region 22 with fail
        generalize hW3 : World.setCell _ _ _ = W3
        have HF3 := Lib.hid (show FiS w c0 false c2 c3 W3 by subst hW3; exact fiS_set1 _ HF2.out)
        clear hW3 hx HF2 hbw h0 h1 h2 h3 h4 h5 g0 g1 g2 g3 g4 g5
        obtain ⟨hbw, ⟨h0, h1, h2, h3, h4, h5⟩, ⟨g0, g1, g2, g3, g4, g5⟩⟩ := HF3.out
        go_wp2
        (try simp only [Exit.inBlock, Exit.then])
        refine bodyPost_ret (v := .agg #[.bool c0, .bool false, .bool c2, .bool c3]) ?_ rfl ⟨by rw [← HR.out.1, ← HR.out.2.1, ← HR.out.2.2.1, ← HR.out.2.2.2]; simp [hp0, hp2, hp3], by go_grown⟩
        rw [results_cell1 rfl]
        go_simp
      · go_upto_region 22 with fail
        generalize hW3 : World.setCell _ _ _ = W3
        have HF3 := Lib.hid (show FiS w c0 c1 false c3 W3 by subst hW3; exact fiS_set2 _ HF2.out)
        clear hW3 hx HF2 hbw h0 h1 h2 h3 h4 h5 g0 g1 g2 g3 g4 g5
        obtain ⟨hbw, ⟨h0, h1, h2, h3, h4, h5⟩, ⟨g0, g1, g2, g3, g4, g5⟩⟩ := HF3.out
        go_wp2
        (try simp only [Exit.inBlock, Exit.then])
        refine bodyPost_ret (v := .agg #[.bool c0, .bool c1, .bool false, .bool c3]) ?_ rfl ⟨by rw [← HR.out.1, ← HR.out.2.1, ← HR.out.2.2.1, ← HR.out.2.2.2]; simp [hp0, hp1, hp3], by go_grown⟩
        rw [results_cell1 rfl]
        go_simp
      · go_upto_region 22 with fail
        generalize hW3 : World.setCell _ _ _ = W3
        have HF3 := Lib.hid (show FiS w c0 c1 c2 false W3 by subst hW3; exact fiS_set3 _ HF2.out)
        clear hW3 hx HF2 hbw h0 h1 h2 h3 h4 h5 g0 g1 g2 g3 g4 g5
        obtain ⟨hbw, ⟨h0, h1, h2, h3, h4, h5⟩, ⟨g0, g1, g2, g3, g4, g5⟩⟩ := HF3.out
        go_wp2
        (try simp only [Exit.inBlock, Exit.then])
        refine bodyPost_ret (v := .agg #[.bool c0, .bool c1, .bool c2, .bool false]) ?_ rfl ⟨by rw [← HR.out.1, ← HR.out.2.1, ← HR.out.2.2.1, ← HR.out.2.2.2]; simp [hp0, hp1, hp2], by go_grown⟩
        rw [results_cell1 rfl]
        go_simp

set_option maxRecDepth 10000 in
set_option maxHeartbeats 2000000 in
theorem fi_p (bb : Bool) (t t' : TypeId) (y y' : Value) (p p' : Int → Bool) (HC : FiAt (.iface t y) p) (HC' : FiAt (.iface t' y') p') : FiAt (.iface 143 (.agg #[.bool bb, .iface t y, .iface t' y'])) (fun v => p v || p' v) := by
  intro w
  have H' := Lib.hid HC'
  clear HC'
  have H := Lib.hid HC
  clear HC
  have hta := fun w => Try.ta_other 143 (.agg #[.bool bb, .iface t y, .iface t' y']) (.inr (.inr (.inl rfl))) w
  have htb := fun w => Try.tb_other 143 (.agg #[.bool bb, .iface t y, .iface t' y']) (.inr (.inr (.inl rfl))) w
  go_enter Try.func84, Try.ntmps84
  go_wp2
  generalize hW : World.alloc _ _ = W
  have hS : FiS w false false false false W := by
    subst hW
    exact fiS_on (fiS_new w _ _) (by go_grown)
  have hc0 : W.cell? ⟨w.heap.size + 3, 0, none⟩ = some (.iface t y) := by subst hW; simp [go_sem]
  have hd : W.cell? ⟨w.heap.size + 3, 1, none⟩ = some (.iface t' y') := by subst hW; simp [go_sem]
  have hsW : w.heap.size + 3 < W.heap.size := by subst hW; simp
  clear hW
  refine wp_loop_rounds 3 ?_
  rw [rounds_succ]
  go_wp2_with fail
  refine (H.out _).mono ?_
  rintro e w1 ⟨rfl, hb1⟩
  have hS1 := fiS_on hS hb1
  have hd1 := ((bcell hb1).1 _ 1 hsW).trans hd
  obtain ⟨c0, hp0⟩ : ∃ q, p 0 = q := ⟨_, rfl⟩
  obtain ⟨c1, hp1⟩ : ∃ q, p 1 = q := ⟨_, rfl⟩
  obtain ⟨c2, hp2⟩ : ∃ q, p 2 = q := ⟨_, rfl⟩
  obtain ⟨c3, hp3⟩ : ∃ q, p 3 = q := ⟨_, rfl⟩
  rw [hp0, hp1, hp2, hp3]
  clear hc0 hb1 hS H hd hsW
  go_wp2_with fail
  obtain ⟨i0, i1, i2, i3⟩ := Try.ix (.bool c0) (.bool c1) (.bool c2) (.bool c3)
  go_loopw [21] (fun i wr => InR w false false false false c0 c1 c2 c3 i wr ∧ wr.cell? ⟨w.heap.size + 3, 1, none⟩ = some (.iface t' y')) (fun i _ => 4 - (intOf i).toNat)
  case atStart => exact ⟨⟨0, by omega, rfl, hS1⟩, hd1⟩
  case round =>
    obtain ⟨⟨k, hk, rfl, hst⟩, hdw⟩ := hrel
    have HS := Lib.hid hst
    obtain ⟨hbw, ⟨h0, h1, h2, h3, h4, h5⟩, ⟨g0, g1, g2, g3, g4, g5⟩⟩ := hst
    rcases (by omega : k = 0 ∨ k = 1 ∨ k = 2 ∨ k = 3 ∨ k = 4) with rfl | rfl | rfl | rfl | rfl
    · go_wp2
      go_roundw
      case rel => exact ⟨⟨1, by omega, by go_num, fiS_set0 _ HS.out⟩, by simp [go_sem, hdw]⟩
      case measure => simp [intOf]
    · go_wp2
      go_roundw
      case rel => exact ⟨⟨2, by omega, by go_num, fiS_set1 _ HS.out⟩, by simp [go_sem, hdw]⟩
      case measure => simp [intOf]
    · go_wp2
      go_roundw
      case rel => exact ⟨⟨3, by omega, by go_num, fiS_set2 _ HS.out⟩, by simp [go_sem, hdw]⟩
      case measure => simp [intOf]
    · go_wp2
      go_roundw
      case rel => exact ⟨⟨4, by omega, by go_num, fiS_set3 _ HS.out⟩, by simp [go_sem, hdw]⟩
      case measure => simp [intOf]
    · have HF := Lib.hid (show FiS w c0 c1 c2 c3 wr from HS.out)
      have HP := Lib.hid (And.intro hp0 (And.intro hp1 (And.intro hp2 hp3)))
      clear HS hbw h0 h1 h2 h3 h4 h5 g0 g1 g2 g3 g4 g5 hp0 hp1 hp2 hp3 i0 i1 i2 i3
      go_wp2_with fail
      rw [rounds_succ]
      go_wp2_with fail
      refine (H'.out _).mono ?_
      rintro e w2 ⟨rfl, hb2⟩
      have hS2 := fiS_on HF.out hb2
      obtain ⟨d0, hq0⟩ : ∃ q, p' 0 = q := ⟨_, rfl⟩
      obtain ⟨d1, hq1⟩ : ∃ q, p' 1 = q := ⟨_, rfl⟩
      obtain ⟨d2, hq2⟩ : ∃ q, p' 2 = q := ⟨_, rfl⟩
      obtain ⟨d3, hq3⟩ : ∃ q, p' 3 = q := ⟨_, rfl⟩
      rw [hq0, hq1, hq2, hq3]
      have HQ := Lib.hid (And.intro hq0 (And.intro hq1 (And.intro hq2 hq3)))
      clear hdw hb2 HF hq0 hq1 hq2 hq3
      go_wp2_with fail
      obtain ⟨i0, i1, i2, i3⟩ := Try.ix (.bool d0) (.bool d1) (.bool d2) (.bool d3)
      go_loopw [21] (fun i wr => InR w c0 c1 c2 c3 d0 d1 d2 d3 i wr) (fun i _ => 4 - (intOf i).toNat)
      case atStart => exact ⟨0, by omega, rfl, hS2⟩
      case round =>
        obtain ⟨k, hk, rfl, hst⟩ := hrel
        have HS := Lib.hid hst
        rcases (by omega : k = 0 ∨ k = 1 ∨ k = 2 ∨ k = 3 ∨ k = 4) with rfl | rfl | rfl | rfl | rfl
        · have HG := Lib.hid (show FiS w c0 c1 c2 c3 wr from HS.out)
          clear hst
          obtain ⟨hbw, ⟨h0, h1, h2, h3, h4, h5⟩, ⟨g0, g1, g2, g3, g4, g5⟩⟩ := HG.out
          cases c0 with
          | false =>
            go_wp2
            go_roundw
            case rel => exact ⟨1, by omega, by go_num, fiS_set0 _ HG.out⟩
            case measure => simp [intOf]
          | true =>
            go_wp2
            go_roundw
            case rel => exact ⟨1, by omega, by go_num, fiS_set0 _ HG.out⟩
            case measure => simp [intOf]
        · have HG := Lib.hid (show FiS w (c0 || d0) c1 c2 c3 wr from HS.out)
          clear hst
          obtain ⟨hbw, ⟨h0, h1, h2, h3, h4, h5⟩, ⟨g0, g1, g2, g3, g4, g5⟩⟩ := HG.out
          cases c1 with
          | false =>
            go_wp2
            go_roundw
            case rel => exact ⟨2, by omega, by go_num, fiS_set1 _ HG.out⟩
            case measure => simp [intOf]
          | true =>
            go_wp2
            go_roundw
            case rel => exact ⟨2, by omega, by go_num, fiS_set1 _ HG.out⟩
            case measure => simp [intOf]
        · have HG := Lib.hid (show FiS w (c0 || d0) (c1 || d1) c2 c3 wr from HS.out)
          clear hst
          obtain ⟨hbw, ⟨h0, h1, h2, h3, h4, h5⟩, ⟨g0, g1, g2, g3, g4, g5⟩⟩ := HG.out
          cases c2 with
          | false =>
            go_wp2
            go_roundw
            case rel => exact ⟨3, by omega, by go_num, fiS_set2 _ HG.out⟩
            case measure => simp [intOf]
          | true =>
            go_wp2
            go_roundw
            case rel => exact ⟨3, by omega, by go_num, fiS_set2 _ HG.out⟩
            case measure => simp [intOf]
        · have HG := Lib.hid (show FiS w (c0 || d0) (c1 || d1) (c2 || d2) c3 wr from HS.out)
          clear hst
          obtain ⟨hbw, ⟨h0, h1, h2, h3, h4, h5⟩, ⟨g0, g1, g2, g3, g4, g5⟩⟩ := HG.out
          cases c3 with
          | false =>
            go_wp2
            go_roundw
            case rel => exact ⟨4, by omega, by go_num, fiS_set3 _ HG.out⟩
            case measure => simp [intOf]
          | true =>
            go_wp2
            go_roundw
            case rel => exact ⟨4, by omega, by go_num, fiS_set3 _ HG.out⟩
            case measure => simp [intOf]
        · have HG := Lib.hid (show FiS w (c0 || d0) (c1 || d1) (c2 || d2) (c3 || d3) wr from HS.out)
          clear hst
          obtain ⟨e0, he0⟩ : ∃ q, (c0 || d0) = q := ⟨_, rfl⟩
          obtain ⟨e1, he1⟩ : ∃ q, (c1 || d1) = q := ⟨_, rfl⟩
          obtain ⟨e2, he2⟩ : ∃ q, (c2 || d2) = q := ⟨_, rfl⟩
          obtain ⟨e3, he3⟩ : ∃ q, (c3 || d3) = q := ⟨_, rfl⟩
          rw [he0, he1, he2, he3] at HG
          have HE := Lib.hid (And.intro he0 (And.intro he1 (And.intro he2 he3)))
          clear he0 he1 he2 he3 HS
          obtain ⟨hbw, ⟨h0, h1, h2, h3, h4, h5⟩, ⟨g0, g1, g2, g3, g4, g5⟩⟩ := HG.out
          go_wp2_with fail
          rw [rounds_succ]
          go_wp2
          (try simp only [Exit.inBlock, Exit.then])
          refine bodyPost_ret (v := .agg #[.bool e0, .bool e1, .bool e2, .bool e3]) ?_ rfl ⟨by rw [HP.out.1, HP.out.2.1, HP.out.2.2.1, HP.out.2.2.2, HQ.out.1, HQ.out.2.1, HQ.out.2.2.1, HQ.out.2.2.2, HE.out.1, HE.out.2.1, HE.out.2.2.1, HE.out.2.2.2], by go_grown⟩
          rw [results_cell1 rfl]
          go_simp

end Go.Proofs.Ytbjmnbpomgaioaa
