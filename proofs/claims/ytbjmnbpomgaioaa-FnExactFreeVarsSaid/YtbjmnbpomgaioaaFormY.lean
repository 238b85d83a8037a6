/- Free variables: freeIn at any node; FreeVars of the program. -/
import Derived.Test.YtbjmnbpomgaioaaFormW
import Derived.Test.YtbjmnbpomgaioaaFormX
namespace Go.Proofs.Ytbjmnbpomgaioaa
open Go.RowKit

theorem fiAt_to {x : Value} {p q : Int → Bool} (h : FiAt x p) (e : ∀ v, p v = q v) : FiAt x q := by
  have : p = q := funext e
  rw [← this]
  exact h
theorem fr1_no {h : FH} {sub : Bool} {v : Int} (hk : h.k = 0 ∨ h.k = 1 ∨ h.k = 3 ∨ h.k = 4 ∨ h.k = 5) : fr1 h v sub = sub := by
  unfold fr1 qB
  rcases hk with hk | hk | hk | hk | hk <;> rw [hk] <;> simp
theorem fr1_at {h : FH} {sub : Bool} {v : Int} (hk : h.k = 2) : fr1 h v sub = decide (sel h.a h.b h.c h.d v 0 ≠ 0) := by
  unfold fr1 qB
  rw [hk]
  simp
theorem fr1_qu {h : FH} {sub : Bool} {v : Int} (hk : h.k = 6 ∨ h.k = 7) : fr1 h v sub = if v = h.v then false else sub := by
  have e : (h.v = v) = (v = h.v) := propext ⟨Eq.symm, Eq.symm⟩
  unfold fr1 qB
  rcases hk with hk | hk <;> rw [hk] <;> simp [e]
theorem own_var {h : FH} {len : Nat} (ho : ownB h len = true) (hk : h.k = 6 ∨ h.k = 7) : 0 ≤ h.v ∧ h.v < 4 := by
  unfold ownB at ho
  have hq : qB h.k = true := by rcases hk with hk | hk <;> rw [hk] <;> rfl
  rw [hq] at ho
  simp only [Bool.and_eq_true, if_true] at ho
  have := ho.1.2
  unfold varB at this
  simp only [decide_eq_true_eq] at this
  omega

theorem fi_0 (h : FH) (hk : h.k = 0 ∨ h.k = 1 ∨ h.k = 2) : FiAt (nd1 h []) (fun v => fr1 h v false) := by
  rcases hk with hk | hk | hk
  · have e : nd1 h [] = .iface 141 (.agg #[.bool true]) := by unfold nd1; simp [hk]
    rw [e]
    exact fiAt_to (fi_t true) fun v => (fr1_no (.inl hk)).symm
  · have e : nd1 h [] = .iface 141 (.agg #[.bool false]) := by unfold nd1; simp [hk]
    rw [e]
    exact fiAt_to (fi_t false) fun v => (fr1_no (.inr (.inl hk))).symm
  · have e : nd1 h [] = .iface 105 (.agg #[.int .i64 h.ak, .int .i64 h.am, .int .i64 h.a, .int .i64 h.b, .int .i64 h.c, .int .i64 h.d, .int .i64 h.n]) := by unfold nd1; simp [hk]
    rw [e]
    exact fiAt_to (fi_a _ _ _ _ _ _ _) fun v => (fr1_at hk).symm
theorem fi_1 (h : FH) (len : Nat) (ho : ownB h len = true) (t : TypeId) (y : Value) (p : Int → Bool) (hk : h.k = 3 ∨ h.k = 6 ∨ h.k = 7) (HC : FiAt (.iface t y) p) : FiAt (nd1 h [.iface t y]) (fun v => fr1 h v (p v)) := by
  rcases hk with hk | hk | hk
  · have e : nd1 h [.iface t y] = .iface 145 (.agg #[.iface t y]) := by unfold nd1; simp [hk]
    rw [e]
    exact fiAt_to (fi_n t y p HC) fun v => (fr1_no (.inr (.inr (.inl hk)))).symm
  · have e : nd1 h [.iface t y] = .iface 126 (.agg #[.bool true, .int .i64 h.v, .iface t y]) := by unfold nd1; simp [hk]
    rw [e]
    exact fiAt_to (fi_b true h.v (own_var ho (.inl hk)) t y p HC) fun v => (fr1_qu (.inl hk)).symm
  · have e : nd1 h [.iface t y] = .iface 126 (.agg #[.bool false, .int .i64 h.v, .iface t y]) := by unfold nd1; simp [hk]
    rw [e]
    exact fiAt_to (fi_b false h.v (own_var ho (.inr hk)) t y p HC) fun v => (fr1_qu (.inr hk)).symm
theorem fi_2 (h : FH) (t t' : TypeId) (y y' : Value) (p p' : Int → Bool) (hk : h.k = 4 ∨ h.k = 5) (HC : FiAt (.iface t y) p) (HC' : FiAt (.iface t' y') p') : FiAt (nd1 h [.iface t y, .iface t' y']) (fun v => fr1 h v (p v || p' v)) := by
  rcases hk with hk | hk
  · have e : nd1 h [.iface t y, .iface t' y'] = .iface 143 (.agg #[.bool true, .iface t y, .iface t' y']) := by unfold nd1; simp [hk]
    rw [e]
    exact fiAt_to (fi_p true t t' y y' p p' HC HC') fun v => (fr1_no (.inr (.inr (.inr (.inl hk))))).symm
  · have e : nd1 h [.iface t y, .iface t' y'] = .iface 143 (.agg #[.bool false, .iface t y, .iface t' y']) := by unfold nd1; simp [hk]
    rw [e]
    exact fiAt_to (fi_p false t t' y y' p p' HC HC') fun v => (fr1_no (.inr (.inr (.inr (.inr hk))))).symm

theorem fi_any : ∀ (N : Nat) (h : FH) (f : Fo), f.size ≤ N → ownB h f.len = true → f.okB = true → FiAt (nd1 h f.nds) (fun v => fr1 h v (f.fr v)) := by
  intro N
  induction N with
  | zero =>
    intro h f hf ho _
    match f, hf with
    | .nil, _ =>
      refine fi_0 h ?_
      rcases own_kind ho with ⟨_, hk⟩ | ⟨hl, _⟩ | ⟨hl, _⟩
      · exact hk
      · simp [Fo.len] at hl
      · simp [Fo.len] at hl
    | .cons _ _ _, hf => simp [Fo.size] at hf
  | succ N ih =>
    intro h f hf ho hok
    match f, hf, ho, hok with
    | .nil, _, ho, _ =>
      refine fi_0 h ?_
      rcases own_kind ho with ⟨_, hk⟩ | ⟨hl, _⟩ | ⟨hl, _⟩
      · exact hk
      · simp [Fo.len] at hl
      · simp [Fo.len] at hl
    | .cons h1 s1 .nil, hf, ho, hok =>
      have hk := own_kind ho
      simp only [Fo.size, Fo.okB, Bool.and_true, Bool.and_eq_true] at hf hok
      obtain ⟨t, y, e⟩ := nd1_iface h1 s1.nds
      have h1n := ih h1 s1 (by omega) hok.1 hok.2
      simp only [Fo.nds, Fo.fr, e, Bool.or_false] at h1n ⊢
      refine fi_1 h _ ho t y _ ?_ h1n
      rcases hk with ⟨hl, _⟩ | ⟨_, hk⟩ | ⟨hl, _⟩
      · simp [Fo.len] at hl
      · exact hk
      · simp [Fo.len] at hl
    | .cons h1 s1 (.cons h2 s2 .nil), hf, ho, hok =>
      have hk := own_kind ho
      simp only [Fo.size, Fo.okB, Bool.and_true, Bool.and_eq_true] at hf hok
      obtain ⟨t, y, e⟩ := nd1_iface h1 s1.nds
      obtain ⟨t', y', e'⟩ := nd1_iface h2 s2.nds
      have h1n := ih h1 s1 (by omega) hok.1.1 hok.1.2
      have h2n := ih h2 s2 (by omega) hok.2.1 hok.2.2
      simp only [Fo.nds, Fo.fr, e, e', Bool.or_false] at h1n h2n ⊢
      refine fi_2 h t t' y y' _ _ ?_ h1n h2n
      rcases hk with ⟨hl, _⟩ | ⟨hl, _⟩ | ⟨_, hk⟩
      · simp [Fo.len] at hl
      · simp [Fo.len] at hl
      · exact hk
    | .cons _ _ (.cons _ _ (.cons _ _ r)), _, ho, _ =>
      rcases own_kind ho with ⟨hl, _⟩ | ⟨hl, _⟩ | ⟨hl, _⟩ <;> simp [Fo.len] at hl

def FvI (p : Int → Bool) (w2 : World) (v i : Value) (wr : World) : Prop :=
  ∃ k : Nat, k ≤ 4 ∧ i = .int .i64 k ∧ OwnI wr w2.heap.size v (fl p k) ∧ Below w2.heap.size w2 wr

set_option maxRecDepth 10000 in
set_option maxHeartbeats 2000000 in
theorem FreeVars_any (h : FH) (f : Fo) (w : World) (lo : Nat) (s : Value) (hs : FS w lo f s) :
    Calls Try.prog 37 #[.agg #[.int .i64 h.k, .int .i64 h.ak, .int .i64 h.am, .int .i64 h.a, .int .i64 h.b, .int .i64 h.c, .int .i64 h.d, .int .i64 h.n, .int .i64 h.v, s]] w (FvT (fvL h f) w) := by
  have HC := Lib.hid (fun W hW => nodeOf_any h f W lo s (FS.below (w := w) hW (Nat.le_refl _) hs))
  obtain ⟨sa, sn, sc, rfl⟩ := hs.slice
  clear hs
  cases hv : vfB h f with
  | false =>
    have HI := Lib.hid (show fvL h f = [] by unfold fvL; rw [if_neg (by rw [hv]; simp)])
    have HV := Lib.hid (show ndV h f = .tuple #[.nilIface, .bool false] by unfold ndV; rw [if_neg (by rw [hv]; simp)])
    clear hv
    go_enter Try.func37, Try.ntmps37
    go_wp2_with fail
    refine (HC.out _ (by go_grown)).mono ?_
    rintro e w1 ⟨rfl, hb1⟩
    rw [HV.out]
    go_wp2
    go_ret
    exact ⟨_, rfl, by rw [HI.out]; exact World.ownsRow_nil _ _ _ _, below_on (by go_grown) hb1⟩
  | true =>
    obtain ⟨i0, hi, hz0, hz1, hz2⟩ := info_parts Try.infoInt
    obtain ⟨h1, h2, h3⟩ := vf_parts hv
    have HN := Lib.hid (fi_any f.size h f (Nat.le_refl _) h1 h2)
    obtain ⟨p, hp⟩ : ∃ p : Int → Bool, (fun v => fr1 h v (f.fr v)) = p := ⟨_, rfl⟩
    have HI := Lib.hid (show fvL h f = fl p 4 by unfold fvL; rw [if_pos hv, hp])
    rw [hp] at HN
    have HV := Lib.hid (show ndV h f = .tuple #[nd1 h f.nds, .bool true] by unfold ndV; rw [if_pos hv])
    clear hv h1 h2 h3 hp
    go_enter Try.func37, Try.ntmps37
    go_wp2_with fail
    refine (HC.out _ (by go_grown)).mono ?_
    rintro e w1 ⟨rfl, hb1⟩
    rw [HV.out]
    have hw1 : Below w.heap.size w w1 := below_on (by go_grown) hb1
    clear hb1
    go_wp2_with fail
    refine (HN.out _).mono ?_
    rintro e w2 ⟨rfl, hb2⟩
    have hw2 := below_on hw1 hb2
    obtain ⟨b0, hp0⟩ : ∃ q, p 0 = q := ⟨_, rfl⟩
    obtain ⟨b1, hp1⟩ : ∃ q, p 1 = q := ⟨_, rfl⟩
    obtain ⟨b2, hp2⟩ : ∃ q, p 2 = q := ⟨_, rfl⟩
    obtain ⟨b3, hp3⟩ : ∃ q, p 3 = q := ⟨_, rfl⟩
    rw [hp0, hp1, hp2, hp3]
    have HP := Lib.hid (And.intro hp0 (And.intro hp1 (And.intro hp2 hp3)))
    clear hp0 hp1 hp2 hp3 hb2 HC HN hw1
    obtain ⟨j0, j1, j2, j3⟩ := Try.ix (.bool b0) (.bool b1) (.bool b2) (.bool b3)
    have hs2 := hw2.size
    go_wp2_with fail
    go_loopw [5, 17] (fun v i wr => FvI p w2 v i wr) (fun _ i _ => 4 - (intOf i).toNat)
    case atStart => exact ⟨0, by omega, rfl, World.ownsRow_nil _ _ _ _, Below.refl _ _⟩
    case round =>
      obtain ⟨k, hk, rfl, hown, hbw⟩ := hrel
      have hlen := fl_len p k
      have HO := Lib.hid hown
      have HB := Lib.hid hbw
      have hsw := hbw.size
      clear hown hbw
      rcases (by omega : k = 0 ∨ k = 1 ∨ k = 2 ∨ k = 3 ∨ k = 4) with rfl | rfl | rfl | rfl | rfl
      · have HK := Lib.hid (show p ((0 : Nat) : Int) = b0 from HP.out.1)
        have hown1 : wr.ownsRow w2.heap.size 3 1 _ (fl p 0).length ((fl p 0).map (Value.int .i64)) := HO.out
        cases b0 with
        | false =>
          have HN1 := Lib.hid (show OwnI wr w2.heap.size _ (fl p 1) by rw [fl_drop HK.out]; exact hown1)
          clear hown1
          go_wp2
          go_roundw
          case rel => exact ⟨1, by omega, by go_num, HN1.out, HB.out⟩
          case measure => simp [intOf]
        | true =>
          have HK2 := Lib.hid (fl_keep HK.out)
          go_wp2_with (at_builtin; refine wpList_append_own _ rfl _ _ 58 rfl w2.heap.size 3 i0 (.int .i64 0) 1 8 Try.underlying58 hi hz0 hz1 hz2 rfl (by decide) _ _ _ rfl (hown1.alloc _) ⟨wr.heap.size, 0, none⟩ 1 1 [.int .i64 0] rfl rfl ?c1 ?c2 ?c3 ?c4 ?c5 ?_)
          case c1 =>
            intro j u hj
            match j, hj with
            | 0, hj => simp at hj; subst hj; simp [Addr.add]
          case c2 => intro u hu; simp at hu; subst hu; rfl
          case c3 => unfold maxLen; omega
          case c4 => omega
          case c5 => simp; omega
          · intro v' w4 hown2 hgrow _
            have hbA : Below wr.heap.size wr (wr.alloc (.cells #[.int .i64 0] 3)) := by go_grown
            have HN2 : Hid (OwnI w4 w2.heap.size v' (fl p 1)) := by
              show w4.ownsRow _ _ _ _ _ _
              rw [HK2.out]
              simpa using hown2
            have HB2 : Hid (Below w2.heap.size w2 w4) := grown_below (HB.out.trans (hbA.mono (by omega))) (own_below hown1 hbA) (Nat.le_refl _) hgrow
            clear hown1 hown2 hgrow hbA
            go_wp2
            go_roundw
            case rel => exact ⟨1, by omega, by go_num, HN2.out, HB2.out⟩
            case measure => simp [intOf]
      · have HK := Lib.hid (show p ((1 : Nat) : Int) = b1 from HP.out.2.1)
        have hown1 : wr.ownsRow w2.heap.size 3 1 _ (fl p 1).length ((fl p 1).map (Value.int .i64)) := HO.out
        cases b1 with
        | false =>
          have HN1 := Lib.hid (show OwnI wr w2.heap.size _ (fl p 2) by rw [fl_drop HK.out]; exact hown1)
          clear hown1
          go_wp2
          go_roundw
          case rel => exact ⟨2, by omega, by go_num, HN1.out, HB.out⟩
          case measure => simp [intOf]
        | true =>
          have HK2 := Lib.hid (fl_keep HK.out)
          go_wp2_with (at_builtin; refine wpList_append_own _ rfl _ _ 58 rfl w2.heap.size 3 i0 (.int .i64 0) 1 8 Try.underlying58 hi hz0 hz1 hz2 rfl (by decide) _ _ _ rfl (hown1.alloc _) ⟨wr.heap.size, 0, none⟩ 1 1 [.int .i64 1] rfl rfl ?c1 ?c2 ?c3 ?c4 ?c5 ?_)
          case c1 =>
            intro j u hj
            match j, hj with
            | 0, hj => simp at hj; subst hj; simp [Addr.add]
          case c2 => intro u hu; simp at hu; subst hu; rfl
          case c3 => unfold maxLen; omega
          case c4 => omega
          case c5 => simp; omega
          · intro v' w4 hown2 hgrow _
            have hbA : Below wr.heap.size wr (wr.alloc (.cells #[.int .i64 1] 3)) := by go_grown
            have HN2 : Hid (OwnI w4 w2.heap.size v' (fl p 2)) := by
              show w4.ownsRow _ _ _ _ _ _
              rw [HK2.out]
              simpa using hown2
            have HB2 : Hid (Below w2.heap.size w2 w4) := grown_below (HB.out.trans (hbA.mono (by omega))) (own_below hown1 hbA) (Nat.le_refl _) hgrow
            clear hown1 hown2 hgrow hbA
            go_wp2
            go_roundw
            case rel => exact ⟨2, by omega, by go_num, HN2.out, HB2.out⟩
            case measure => simp [intOf]
      · have HK := Lib.hid (show p ((2 : Nat) : Int) = b2 from HP.out.2.2.1)
        have hown1 : wr.ownsRow w2.heap.size 3 1 _ (fl p 2).length ((fl p 2).map (Value.int .i64)) := HO.out
        cases b2 with
        | false =>
          have HN1 := Lib.hid (show OwnI wr w2.heap.size _ (fl p 3) by rw [fl_drop HK.out]; exact hown1)
          clear hown1
          go_wp2
          go_roundw
          case rel => exact ⟨3, by omega, by go_num, HN1.out, HB.out⟩
          case measure => simp [intOf]
        | true =>
          have HK2 := Lib.hid (fl_keep HK.out)
          go_wp2_with (at_builtin; refine wpList_append_own _ rfl _ _ 58 rfl w2.heap.size 3 i0 (.int .i64 0) 1 8 Try.underlying58 hi hz0 hz1 hz2 rfl (by decide) _ _ _ rfl (hown1.alloc _) ⟨wr.heap.size, 0, none⟩ 1 1 [.int .i64 2] rfl rfl ?c1 ?c2 ?c3 ?c4 ?c5 ?_)
          case c1 =>
            intro j u hj
            match j, hj with
            | 0, hj => simp at hj; subst hj; simp [Addr.add]
          case c2 => intro u hu; simp at hu; subst hu; rfl
          case c3 => unfold maxLen; omega
          case c4 => omega
          case c5 => simp; omega
          · intro v' w4 hown2 hgrow _
            have hbA : Below wr.heap.size wr (wr.alloc (.cells #[.int .i64 2] 3)) := by go_grown
            have HN2 : Hid (OwnI w4 w2.heap.size v' (fl p 3)) := by
              show w4.ownsRow _ _ _ _ _ _
              rw [HK2.out]
              simpa using hown2
            have HB2 : Hid (Below w2.heap.size w2 w4) := grown_below (HB.out.trans (hbA.mono (by omega))) (own_below hown1 hbA) (Nat.le_refl _) hgrow
            clear hown1 hown2 hgrow hbA
            go_wp2
            go_roundw
            case rel => exact ⟨3, by omega, by go_num, HN2.out, HB2.out⟩
            case measure => simp [intOf]
      · have HK := Lib.hid (show p ((3 : Nat) : Int) = b3 from HP.out.2.2.2)
        have hown1 : wr.ownsRow w2.heap.size 3 1 _ (fl p 3).length ((fl p 3).map (Value.int .i64)) := HO.out
        cases b3 with
        | false =>
          have HN1 := Lib.hid (show OwnI wr w2.heap.size _ (fl p 4) by rw [fl_drop HK.out]; exact hown1)
          clear hown1
          go_wp2
          go_roundw
          case rel => exact ⟨4, by omega, by go_num, HN1.out, HB.out⟩
          case measure => simp [intOf]
        | true =>
          have HK2 := Lib.hid (fl_keep HK.out)
          go_wp2_with (at_builtin; refine wpList_append_own _ rfl _ _ 58 rfl w2.heap.size 3 i0 (.int .i64 0) 1 8 Try.underlying58 hi hz0 hz1 hz2 rfl (by decide) _ _ _ rfl (hown1.alloc _) ⟨wr.heap.size, 0, none⟩ 1 1 [.int .i64 3] rfl rfl ?c1 ?c2 ?c3 ?c4 ?c5 ?_)
          case c1 =>
            intro j u hj
            match j, hj with
            | 0, hj => simp at hj; subst hj; simp [Addr.add]
          case c2 => intro u hu; simp at hu; subst hu; rfl
          case c3 => unfold maxLen; omega
          case c4 => omega
          case c5 => simp; omega
          · intro v' w4 hown2 hgrow _
            have hbA : Below wr.heap.size wr (wr.alloc (.cells #[.int .i64 3] 3)) := by go_grown
            have HN2 : Hid (OwnI w4 w2.heap.size v' (fl p 4)) := by
              show w4.ownsRow _ _ _ _ _ _
              rw [HK2.out]
              simpa using hown2
            have HB2 : Hid (Below w2.heap.size w2 w4) := grown_below (HB.out.trans (hbA.mono (by omega))) (own_below hown1 hbA) (Nat.le_refl _) hgrow
            clear hown1 hown2 hgrow hbA
            go_wp2
            go_roundw
            case rel => exact ⟨4, by omega, by go_num, HN2.out, HB2.out⟩
            case measure => simp [intOf]
      · have HO2 := Lib.hid (show OwnI wr w.heap.size _ (fl p 4) from own_mono HO.out hs2)
        go_wp2
        go_ret
        exact ⟨_, rfl, by rw [HI.out]; exact HO2.out, below_on hw2 HB.out⟩

end Go.Proofs.Ytbjmnbpomgaioaa
