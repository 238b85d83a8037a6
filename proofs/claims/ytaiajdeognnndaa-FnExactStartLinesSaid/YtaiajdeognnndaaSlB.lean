/- StartLines of the model. -/
import Derived.Test.YtaiajdeognnndaaSlA
import Derived.Test.YtaiajdeognnndaaSpecB
namespace Go.Proofs.Ytaiajdeognnndaa
open Go.RowKit


set_option maxHeartbeats 1000000 in
theorem l6Single_any (v c : Int) (w : World) (hv : 0 ≤ v ∧ v < 4) :
    Calls Try.prog 54 #[.int .i64 v, .int .i64 c] w fun e w' => e = .returned (.agg #[.int .i64 (if v = 0 then c else 0), .int .i64 (if v = 1 then c else 0), .int .i64 (if v = 2 then c else 0), .int .i64 (if v = 3 then c else 0), .int .i64 0]) ∧ Below w.heap.size w w' := by
  have hmk : ∀ w, (Instr.makeSlice 32 (.int .i64 5) (.int .i64 5)).run Try.prog w = .ok (.slice (some ⟨w.heap.size, 0, none⟩) 5 5) (w.alloc (.cells #[.int .i64 0, .int .i64 0, .int .i64 0, .int .i64 0, .int .i64 0] 3)) := fun _ => by kernel_rfl
  have hv' : v = 0 ∨ v = 1 ∨ v = 2 ∨ v = 3 := by omega
  clear hv
  rcases hv' with rfl | rfl | rfl | rfl
  · go_enter Try.func54, Try.ntmps54
    go_wp2_with fail
    generalize hW : World.alloc _ _ = W
    have hz : C5 W w.heap.size 0 0 0 0 0 := by subst hW; exact (by refine ⟨?_, ?_, ?_, ?_, ?_, ?_⟩ <;> first | (simp [go_sem]; done) | (simp; omega))
    have fz : ∀ o, W.frozen? ⟨w.heap.size, o, none⟩ = false := by intro o; subst hW; simp [go_sem]
    have hx : C5 W (w.heap.size + 1) c 0 0 0 0 := by subst hW; exact (by refine ⟨?_, ?_, ?_, ?_, ?_, ?_⟩ <;> first | (simp [go_sem]; done) | (simp; omega))
    have hw : Below w.heap.size w W := by subst hW; go_grown
    clear hW
    refine (l1Term_any c 0 0 0 0 (w.heap.size + 1) _ hx).mono ?_
    rintro e w1 ⟨rfl, hb1⟩
    obtain ⟨z0, z1, z2, z3, z4, z5⟩ := c5_on hz hb1
    have fz1 : ∀ o, w1.frozen? ⟨w.heap.size, o, none⟩ = false := fun o => ((bcell hb1).2 _ o hz.1).trans (fz o)
    have hw1 := below_on hw hb1
    clear hz fz hx hw hb1
    go_wp2
    refine bodyPost_ret (v := .agg #[.int .i64 c, .int .i64 0, .int .i64 0, .int .i64 0, .int .i64 0]) (by simp [results, Try.results54, go_sem, z1, z2, z3, z4, z5]) rfl ⟨rfl, ?_⟩
    go_grown
  · go_enter Try.func54, Try.ntmps54
    go_wp2_with fail
    generalize hW : World.alloc _ _ = W
    have hz : C5 W w.heap.size 0 0 0 0 0 := by subst hW; exact (by refine ⟨?_, ?_, ?_, ?_, ?_, ?_⟩ <;> first | (simp [go_sem]; done) | (simp; omega))
    have fz : ∀ o, W.frozen? ⟨w.heap.size, o, none⟩ = false := by intro o; subst hW; simp [go_sem]
    have hx : C5 W (w.heap.size + 1) 0 c 0 0 0 := by subst hW; exact (by refine ⟨?_, ?_, ?_, ?_, ?_, ?_⟩ <;> first | (simp [go_sem]; done) | (simp; omega))
    have hw : Below w.heap.size w W := by subst hW; go_grown
    clear hW
    refine (l1Term_any 0 c 0 0 0 (w.heap.size + 1) _ hx).mono ?_
    rintro e w1 ⟨rfl, hb1⟩
    obtain ⟨z0, z1, z2, z3, z4, z5⟩ := c5_on hz hb1
    have fz1 : ∀ o, w1.frozen? ⟨w.heap.size, o, none⟩ = false := fun o => ((bcell hb1).2 _ o hz.1).trans (fz o)
    have hw1 := below_on hw hb1
    clear hz fz hx hw hb1
    go_wp2
    refine bodyPost_ret (v := .agg #[.int .i64 0, .int .i64 c, .int .i64 0, .int .i64 0, .int .i64 0]) (by simp [results, Try.results54, go_sem, z1, z2, z3, z4, z5]) rfl ⟨rfl, ?_⟩
    go_grown
  · go_enter Try.func54, Try.ntmps54
    go_wp2_with fail
    generalize hW : World.alloc _ _ = W
    have hz : C5 W w.heap.size 0 0 0 0 0 := by subst hW; exact (by refine ⟨?_, ?_, ?_, ?_, ?_, ?_⟩ <;> first | (simp [go_sem]; done) | (simp; omega))
    have fz : ∀ o, W.frozen? ⟨w.heap.size, o, none⟩ = false := by intro o; subst hW; simp [go_sem]
    have hx : C5 W (w.heap.size + 1) 0 0 c 0 0 := by subst hW; exact (by refine ⟨?_, ?_, ?_, ?_, ?_, ?_⟩ <;> first | (simp [go_sem]; done) | (simp; omega))
    have hw : Below w.heap.size w W := by subst hW; go_grown
    clear hW
    refine (l1Term_any 0 0 c 0 0 (w.heap.size + 1) _ hx).mono ?_
    rintro e w1 ⟨rfl, hb1⟩
    obtain ⟨z0, z1, z2, z3, z4, z5⟩ := c5_on hz hb1
    have fz1 : ∀ o, w1.frozen? ⟨w.heap.size, o, none⟩ = false := fun o => ((bcell hb1).2 _ o hz.1).trans (fz o)
    have hw1 := below_on hw hb1
    clear hz fz hx hw hb1
    go_wp2
    refine bodyPost_ret (v := .agg #[.int .i64 0, .int .i64 0, .int .i64 c, .int .i64 0, .int .i64 0]) (by simp [results, Try.results54, go_sem, z1, z2, z3, z4, z5]) rfl ⟨rfl, ?_⟩
    go_grown
  · go_enter Try.func54, Try.ntmps54
    go_wp2_with fail
    generalize hW : World.alloc _ _ = W
    have hz : C5 W w.heap.size 0 0 0 0 0 := by subst hW; exact (by refine ⟨?_, ?_, ?_, ?_, ?_, ?_⟩ <;> first | (simp [go_sem]; done) | (simp; omega))
    have fz : ∀ o, W.frozen? ⟨w.heap.size, o, none⟩ = false := by intro o; subst hW; simp [go_sem]
    have hx : C5 W (w.heap.size + 1) 0 0 0 c 0 := by subst hW; exact (by refine ⟨?_, ?_, ?_, ?_, ?_, ?_⟩ <;> first | (simp [go_sem]; done) | (simp; omega))
    have hw : Below w.heap.size w W := by subst hW; go_grown
    clear hW
    refine (l1Term_any 0 0 0 c 0 (w.heap.size + 1) _ hx).mono ?_
    rintro e w1 ⟨rfl, hb1⟩
    obtain ⟨z0, z1, z2, z3, z4, z5⟩ := c5_on hz hb1
    have fz1 : ∀ o, w1.frozen? ⟨w.heap.size, o, none⟩ = false := fun o => ((bcell hb1).2 _ o hz.1).trans (fz o)
    have hw1 := below_on hw hb1
    clear hz fz hx hw hb1
    go_wp2
    refine bodyPost_ret (v := .agg #[.int .i64 0, .int .i64 0, .int .i64 0, .int .i64 c, .int .i64 0]) (by simp [results, Try.results54, go_sem, z1, z2, z3, z4, z5]) rfl ⟨rfl, ?_⟩
    go_grown


theorem l6s_any (v : Int) (w : World) (hv : 0 ≤ v ∧ v < 4) :
    Calls Try.prog 54 #[.int .i64 v, .int .i64 (-1)] w fun e w' => e = .returned (.agg #[.int .i64 (mi v 0), .int .i64 (mi v 1), .int .i64 (mi v 2), .int .i64 (mi v 3), .int .i64 0]) ∧ Below w.heap.size w w' := l6Single_any v (-1) w hv
theorem news_at (b j : Nat) : (⟨b, j, none⟩ : Addr) = (⟨b, 0, none⟩ : Addr).add j := by
  unfold Addr.add
  split
  · congr 1
  · simp
def stA (k : Nat) : AtD := mostD (mi k 0) (mi k 1) (mi k 2) (mi k 3) 0
theorem st_at {k : Nat} (h : k < 4) : stL[k]? = some (stA k) := by
  match k, h with
  | 0, _ => rfl
  | 1, _ => rfl
  | 2, _ => rfl
  | 3, _ => rfl
def SmR (w : World) (v i : Value) (wr : World) : Prop :=
  ∃ k : Nat, i = .int .i64 k ∧ k ≤ 4 ∧ OwnA wr w.heap.size v (stL.take k) ∧ Below w.heap.size w wr

set_option maxRecDepth 10000 in
set_option maxHeartbeats 2000000 in
theorem l10Start_any (b cap : Nat) (L : List AtD) (w : World) (h : RdA w (.slice (some ⟨b, 0, none⟩) L.length cap) L) (hL : L.length ≤ 1048576) :
    Calls Try.prog 30 #[.slice (some ⟨b, 0, none⟩) L.length cap] w fun e w' => ∃ v, e = .returned v ∧ OwnA w' w.heap.size v (stL ++ L) ∧ Below w.heap.size w w' := by
  obtain ⟨i0, hi, hz0, hz1, hz2⟩ := info_parts Try.infoAtom
  obtain ⟨n, hn⟩ : ∃ n, L.length = n := ⟨_, rfl⟩
  have HN := Lib.hid hn
  have HR := Lib.hid h
  rw [hn] at HR hL ⊢
  clear hn h
  go_enter Try.func30, Try.ntmps30
  go_wp2_with fail
  generalize hW0 : World.alloc _ _ = W0
  have hb0 : Below w.heap.size w W0 := by subst hW0; go_grown
  have hown0 : OwnA W0 w.heap.size (.slice (some ⟨w.heap.size, 0, none⟩) 0 0) [] := by
    subst hW0
    exact World.ownsRow_lit w #[] 0 (Nat.le_refl _) (by unfold maxLen; omega) rfl
  have HST := Lib.hid (show SmR w (.slice (some ⟨w.heap.size, 0, none⟩) 0 0) (.int .i64 0) W0 from ⟨0, rfl, by omega, hown0, hb0⟩)
  clear hW0 hb0 hown0
  go_wp2_with fail
  go_loopw [3, 4] (fun v i wr => SmR w v i wr) (fun _ i _ => 4 - (intOf i).toNat)
  case atStart => exact HST.out
  case round =>
    obtain ⟨k, rfl, hk, hown, hbw⟩ := hrel
    clear HST
    have HO := Lib.hid hown
    have HB := Lib.hid hbw
    clear hown hbw
    by_cases hlt : k < 4
    · have hk' : (k : Int) < 4 := by omega
      have HT1 := Lib.hid (show stL.take (k + 1) = stL.take k ++ [stA k] from take_snoc (st_at hlt))
      have hlen : (stL.take k).length ≤ 4 := by rw [List.length_take]; simp [stL]; omega
      have hlen2 : (stL.take k).length = k := by rw [List.length_take]; simp [stL]; omega
      have HL2 := Lib.hid hlen2
      have HAC := Lib.hid (show acells (stA k) = [.int .i64 0, .int .i64 0, .int .i64 (mi k 0), .int .i64 (mi k 1), .int .i64 (mi k 2), .int .i64 (mi k 3), .int .i64 0] from rfl)
      clear hlen2
      go_wp2_with fail
      refine (l6s_any k _ (by omega)).mono ?_
      rintro e w3 ⟨rfl, hb3⟩
      have hown3 := own_below (show wr.ownsRow w.heap.size 49 7 _ (stL.take k).length (AL (stL.take k)) from HO.out) hb3
      have HB3 := Lib.hid (below_on HB.out hb3)
      have hs3 : w.heap.size ≤ w3.heap.size := HB3.out.size
      clear hb3
      go_wp2_with (at_builtin; refine wpList_append_own _ rfl _ _ 24 rfl w.heap.size 49 i0 (.agg #[.int .i64 0, .int .i64 0, .int .i64 0, .int .i64 0, .int .i64 0, .int .i64 0, .int .i64 0]) 7 56 Try.underlying24 hi hz0 hz1 hz2 rfl (by decide) _ _ _ rfl (hown3.alloc _) ⟨w3.heap.size, 0, none⟩ 1 1 (acells (stA k)) rfl rfl ?c1 ?c2 ?c3 ?c4 ?c5 ?_)
      case c1 => exact atom_news (w := w3) (stA k)
      case c2 => exact acells_one _
      case c3 => unfold maxLen; omega
      case c4 => omega
      case c5 => simp; omega
      · intro v' w4 hown4 hgrow _
        have hbA : Below w3.heap.size w3 (w3.alloc (.cells (acells (stA k)).toArray 49)) := by go_grown
        have HN4 : Hid (OwnA w4 w.heap.size v' (stL.take (k + 1))) := by
          show w4.ownsRow _ _ _ _ _ _
          rw [HT1.out, al_app, List.length_append]
          have e : AL [stA k] = acells (stA k) := by simp [AL]
          rw [e, List.length_take]
          exact hown4
        have HB4 : Hid (Below w.heap.size w w4) := grown_below2 (HB3.out.trans (hbA.mono (by omega))) (own_below hown3 hbA) (Nat.le_refl _) hgrow
        clear hown4 hgrow hbA hown3
        go_wp2
        go_roundw
        case rel => exact ⟨k + 1, by go_num, by omega, HN4.out, HB4.out⟩
        case measure => simp [intOf]; omega
    · have hk' : ¬ (k : Int) < 4 := by omega
      obtain rfl : k = 4 := by omega
      have hnews := rdA_news (readsA_on HR.out HB.out)
      have hs : w.heap.size ≤ wr.heap.size := HB.out.size
      go_wp2_with (at_builtin; refine wpList_append_own _ rfl _ _ 24 rfl w.heap.size 49 i0 (.agg #[.int .i64 0, .int .i64 0, .int .i64 0, .int .i64 0, .int .i64 0, .int .i64 0, .int .i64 0]) 7 56 Try.underlying24 hi hz0 hz1 hz2 rfl (by decide) _ _ _ rfl HO.out ⟨b, 0, none⟩ n _ (AL L) rfl (by rw [al_len, HN.out]) ?d1 ?d2 ?d3 ?d4 ?d5 ?_)
      case d1 => first | exact hnews | exact fun j u hj => (news_at b j).symm ▸ hnews j u hj
      case d2 => exact al_intsS L
      case d3 => unfold maxLen; simp [stL]; omega
      case d4 => simp [stL]; omega
      try (case d5 => exact hs)
      · intro v' w4 hown4 hgrow hnil
        have hown4' : OwnA w4 w.heap.size v' (stL ++ L) := by
          show w4.ownsRow _ _ _ _ _ _
          rw [al_app, List.length_append, HN.out]
          exact hown4
        have HO4 := Lib.hid hown4'
        have HB4 := Lib.hid (show Below w.heap.size w w4 from HB.out.trans (grown_lowM HO.out (Nat.le_refl _) hs hgrow))
        clear hown4 hown4' hgrow hnil hnews
        go_wp2
        go_ret
        exact ⟨_, rfl, HO4.out, HB4.out⟩

set_option maxHeartbeats 1000000 in
theorem specStartLines_any (u : Value) (L : List AtD) (w : World) (h : RdA w u L) (hL : L.length ≤ 1048576) (hsp : ∃ b cap, u = .slice (some ⟨b, 0, none⟩) L.length cap) :
    Calls Try.prog 8 #[u] w (AtsT (slL L) (spB L) w) := by
  have HS := Lib.hid (l9Most_any u 0 L w h hL)
  have HR := Lib.hid h
  obtain ⟨b, cap, rfl⟩ := hsp
  have HST := Lib.hid (fun W hW => l10Start_any b cap L W (readsA_on (w := w) h hW) hL)
  obtain ⟨t, ht⟩ : ∃ t, spB L = t := ⟨_, rfl⟩
  have HF := Lib.hid (show slL L = if t = true then stL ++ L else [] by unfold slL; rw [ht])
  rw [show (spB L && varB 0) = t by rw [ht]; cases t <;> rfl] at HS
  rw [HF.out, ht]
  obtain ⟨M, hM⟩ : ∃ M, (if t = true then stL ++ L else []) = M := ⟨_, rfl⟩
  have HM := Lib.hid hM
  rw [hM]
  clear HF hM
  obtain ⟨n, hn⟩ : ∃ n, L.length = n := ⟨_, rfl⟩
  rw [hn] at HS HST ⊢
  clear ht h hn
  go_enter Try.func8, Try.ntmps8
  go_wp2_with fail
  refine HS.out.mono ?_
  rintro e w1 ⟨rfl, hb1⟩
  cases t with
  | false =>
    go_wp2_with fail
    generalize hW0 : World.alloc _ _ = W0
    have hb0 : Below w1.heap.size w1 W0 := by subst hW0; go_grown
    have hown0 : OwnA W0 w.heap.size (.slice (some ⟨w1.heap.size, 0, none⟩) 0 0) [] := by
      subst hW0
      exact own_mono (show OwnA (w1.alloc (.cells #[] 49)) w1.heap.size (.slice (some ⟨w1.heap.size, 0, none⟩) 0 0) [] from World.ownsRow_lit w1 #[] 0 (Nat.le_refl _) (by unfold maxLen; omega) rfl) hb1.size
    have HB := Lib.hid (below_on hb1 hb0)
    have HO := Lib.hid hown0
    clear hW0 hb0 hown0
    go_wp2
    go_ret2
    exact ⟨_, rfl, by rw [← HM.out]; exact HO.out, HB.out⟩
  | true =>
    go_wp2_with fail
    refine (HST.out w1 hb1).mono ?_
    rintro e w2 ⟨v2, rfl, ho2, hb2⟩
    have HO := Lib.hid (own_mono ho2 hb1.size)
    have HB := Lib.hid (below_on hb1 hb2)
    clear ho2 hb2
    go_wp2
    go_ret2
    exact ⟨_, rfl, by rw [← HM.out]; exact HO.out, HB.out⟩

end Go.Proofs.Ytaiajdeognnndaa
