/- The program's reduced. -/
import Derived.Test.YtkhnninnmpffmaaDoorSetY
import Derived.Test.YtkhnninnmpffmaaDoorGoto
namespace Go.Proofs.YtkhnninnmpffmaaDoor
open Go.RowKit

theorem clone_is (l : List UInt8) (w : World) (hl : l.length ≤ 100000000000) :
    Calls Tryd.prog 49 #[.string (bs l)] w fun e w' => e = .returned (.string (bs l)) ∧ Below w.heap.size w w' :=
  Tryd.stringslite_Clone (bs l) w (by rw [bs_size]; omega)
set_option maxHeartbeats 1000000 in
theorem sclone_is (l : List UInt8) (w : World) (hl : l.length ≤ 100000000000) :
    Calls Tryd.prog 34 #[.string (bs l)] w fun e w' => e = .returned (.string (bs l)) ∧ Below w.heap.size w w' := by
  have HC := Lib.hid fun w => clone_is l w hl
  clear hl
  go_enter Tryd.func34, Tryd.ntmps34
  go_wp2_with fail
  refine (HC.out _).mono ?_
  rintro e w1 ⟨rfl, hb⟩
  go_wp2
  go_ret
  exact ⟨rfl, hb⟩

/-- At each jump: the loop so far. -/
def RdJm (h l m : List UInt8) : Prop := m ≠ [] ∧ m.length ≤ l.length ∧ (∀ n, atS h m n = atS h l n) ∧ (∀ x ∈ m, x = 48 ∨ x = 49)
def RdS (h l : List UInt8) (w W : World) : Prop := ∃ m, RdJm h l m ∧ S2 W w.heap.size (bs h) (bs m) ∧ (∃ u v, S2 W (w.heap.size + 1) u v) ∧ Below w.heap.size w W
def boxSz (b : Nat) (W : World) : Nat := match W.cell? ⟨b, 1, none⟩ with | some (.string x) => x.size | _ => 0

theorem rd_next {h l m : List UInt8} {t : Nat} (hm : RdJm h l m) (ht : 2 ≤ t) (htm : t ≤ m.length) (he : m.length / t * t = m.length) (hp : PerS (atS h m) h.length (m.length / t)) : RdJm h l (m.take (m.length / t)) ∧ (m.take (m.length / t)).length < m.length := by
  obtain ⟨h1, h2, h3, h4⟩ := hm
  have hd0 : 0 < m.length / t := Nat.div_pos htm (by omega)
  have hlt : m.length / t < m.length := Nat.div_lt_self (by omega) (by omega)
  have hlen : (m.take (m.length / t)).length = m.length / t := by rw [List.length_take]; omega
  refine ⟨⟨fun e => by rw [e] at hlen; simp at hlen; omega, by omega, fun n => by rw [← h3]; exact red_step hd0 ⟨t, he.symm⟩ hp n, fun x hx => h4 x (List.mem_of_mem_take hx)⟩, by omega⟩
theorem box_sz {W : World} {b : Nat} {x y : ByteArray} (h : S2 W b x y) : boxSz b W = y.size := by
  unfold boxSz
  rw [h.2.2.1]
theorem rd_min {h l m : List UInt8} (_ : l ≠ []) (hm : RdJm h l m) (hx : ∀ t, 2 ≤ t → t ≤ m.length → ¬ (m.length / t * t = m.length ∧ PerS (atS h m) h.length (m.length / t))) : MinS (atS h l) m.length := by
  have := min_exit hm.1 hx
  have e : atS h m = atS h l := funext hm.2.2.1
  rwa [e] at this

/-- The frame and the world at each jump. -/
def RdJ (h l : List UInt8) (w : World) (a' : Act) (W : World) : Prop := RdS h l w W ∧ ∃ u : Nat → Value, a' = { tmps := #[.agg #[.string (bs h), .string (bs l)], .pointer (some ⟨w.heap.size, 0, none⟩), .pointer (some ⟨w.heap.size + 1, 0, none⟩), u 3, u 4, u 5, u 6, u 7, u 8, u 9, u 10, u 11, u 12, u 13, u 14, u 15, u 16, u 17, u 18, u 19, u 20, u 21, u 22, u 23, u 24, u 25, u 26, u 27, u 28, u 29, u 30, u 31, u 32, u 33, u 34, u 35, u 36, u 37, u 38, u 39, u 40, u 41, u 42, u 43, u 44, u 45, u 46, u 47, u 48, u 49, u 50, u 51, u 52, u 53, u 54, u 55, u 56, u 57, u 58, u 59, u 60, u 61, u 62, u 63, u 64, u 65, u 66, u 67, u 68, u 69, u 70, u 71, u 72, u 73, u 74, u 75, u 76], defers := [] }
theorem rdj_mk {h l : List UInt8} {w W : World} {tm : Array Value} (hS : RdS h l w W) (h0 : tm.getD 0 undef = .agg #[.string (bs h), .string (bs l)]) (h1 : tm.getD 1 undef = .pointer (some ⟨w.heap.size, 0, none⟩)) (h2 : tm.getD 2 undef = .pointer (some ⟨w.heap.size + 1, 0, none⟩)) (hs : tm.size = 77) : RdJ h l w { tmps := tm, defers := [] } W := by
  refine ⟨hS, fun i => tm.getD i undef, ?_⟩
  rw [← h0, ← h1, ← h2]
  have e : tm = ((List.range 77).map fun i => tm.getD i undef).toArray := by
    apply Array.ext
    · simp [hs]
    · intro i q1 q2
      simp [q1]
  show ({ tmps := tm, defers := [] } : Act) = { tmps := ((List.range 77).map fun i => tm.getD i undef).toArray, defers := [] }
  rw [← e]

set_option maxHeartbeats 4000000 in
theorem reduced_any (h l : List UInt8) (w : World) (hl0 : l ≠ []) (h1 : ∀ x ∈ h, x = 48 ∨ x = 49) (h2 : ∀ x ∈ l, x = 48 ∨ x = 49) (hh : h.length ≤ 1000000000) (hl : l.length ≤ 1000000000) :
    Calls Tryd.prog 25 #[.agg #[.string (bs h), .string (bs l)]] w fun e w' => e = .returned (.agg #[.string (bs ((nfS h l).1)), .string (bs ((nfS h l).2))]) ∧ Below w.heap.size w w' := by
  have HL0 := Lib.hid hl0
  have HM1 : Hid (RdJm h l l) := Lib.hid ⟨hl0, Nat.le_refl _, fun _ => rfl, h2⟩
  have HRR := Lib.hid fun m (hm : RdJm h l m) d (hd : d ≤ 1000000000) w => repeatsAfter_any h m d w hm.1 h1 hm.2.2.2 hh (Nat.le_trans hm.2.1 hl) hd
  have HLL := Lib.hid hl
  have hs1 := bs_size h
  obtain ⟨H, hH⟩ : ∃ H, h.length = H := ⟨_, rfl⟩
  have HHL := Lib.hid hH
  rw [hH] at hs1 hh HRR
  clear hl0 h1 h2 hH hl
  go_enter Tryd.func25, Tryd.ntmps25
  go_wp2_with fail
  generalize hW1 : World.alloc w _ = W1
  obtain ⟨hx, hs1', hb1⟩ := s2_new hW1
  clear hW1
  generalize hW2 : World.alloc W1 _ = W2
  obtain ⟨hz, hs2', hb2⟩ := s2_new hW2
  clear hW2
  rw [hs1'] at hz
  have HJ : Hid (RdS h l w W2) := Lib.hid ⟨l, HM1.out, s2_on hx hb2, ⟨_, _, hz⟩, below_on hb1 hb2⟩
  clear hx hz hb1 hb2 hs1' hs2'
  refine wp_scope_again 0 (RdJ h l w) (fun _ w' => boxSz w.heap.size w') (rdj_mk HJ.out rfl rfl rfl rfl) ?_
  rintro a' W ⟨⟨m, hm, hx, ⟨zu, zv, hz⟩, hb⟩, u, rfl⟩
  have HM := Lib.hid hm
  have HX := Lib.hid hx
  have HZ := Lib.hid hz
  have HB := Lib.hid hb
  obtain ⟨M, hM⟩ : ∃ M, m.length = M := ⟨_, rfl⟩
  have HML := Lib.hid hM
  have hs2 := bs_size m
  have hMl : M ≤ 1000000000 := by rw [← hM]; exact Nat.le_trans hm.2.1 HLL.out
  have HRA := Lib.hid (HRR.out m hm)
  rw [hM] at hs2
  clear hm hx hz hb hM HM1 HJ HRR
  go_wp2
  go_loopw [3] (fun i wr => ∃ t : Nat, i = .int .i64 t ∧ 2 ≤ t ∧ (t ≤ M + 1 ∨ t = 2) ∧ Below W.heap.size W wr ∧ ∀ t', 2 ≤ t' → t' < t → t' ≤ M → ¬ (M / t' * t' = M ∧ PerS (atS h m) H (M / t'))) (fun i _ => M + 2 - (intOf i).toNat)
  case atStart => exact ⟨2, rfl, Nat.le_refl _, .inr rfl, Below.refl _ _, fun t' q0 q1 _ => absurd q1 (by omega)⟩
  case round =>
    obtain ⟨t, rfl, ht2, htM, hb, hall⟩ := hrel
    have HA := Lib.hid hall
    have HBR := Lib.hid hb
    have HXR := Lib.hid (s2_on HX.out hb)
    have HZR := Lib.hid (s2_on HZ.out hb)
    obtain ⟨x0, x1, x2, x3⟩ := id HXR.out
    clear hall hb
    by_cases hlt : t ≤ M
    · have hlt' : (t : Int) ≤ (M : Int) := by omega
      obtain ⟨d, hd⟩ : ∃ d, M / t = d := ⟨_, rfl⟩
      have ht0 : (t : Int) ≠ 0 := by omega
      have hdM : d ≤ M := by rw [← hd]; exact Nat.div_le_self _ _
      have hdt : d * t ≤ M := by rw [← hd]; exact Nat.div_mul_le_self _ _
      have hdv : (M : Int).tdiv (t : Int) = (d : Int) := by rw [Int.tdiv_eq_ediv_of_nonneg (by omega), ← hd]; rfl
      obtain ⟨e, he⟩ : ∃ e, d * t = e := ⟨_, rfl⟩
      have hmul : (d : Int) * (t : Int) = (e : Int) := by rw [← he]; exact (Int.natCast_mul d t).symm
      have HD := Lib.hid hd
      have HE := Lib.hid he
      have hwt : IntKind.i64.wrap ((t : Int) + 1) = ((t + 1 : Nat) : Int) := by rw [IntKind.wrap_i64]; omega
      have hwe : IntKind.i64.wrap (e : Int) = (e : Int) := by rw [IntKind.wrap_i64]; omega
      rw [he] at hdt
      clear hd he
      by_cases hq : e = M
      · have hb1 : ((e : Int) == (M : Int)) = true := by rw [hq]; simp
        have HQ := Lib.hid hq
        have HRP := Lib.hid (HRA.out d (by omega))
        clear hq
        go_wp2_with fail
        refine (HRP.out _).mono ?_
        rintro e5 w5 ⟨⟨q, rfl, hqp⟩, hb5⟩
        have HQP := Lib.hid hqp
        have HX5 := Lib.hid (s2_on HXR.out hb5)
        have HZ5 := Lib.hid (s2_on HZR.out hb5)
        have HB5 := Lib.hid (below_on HBR.out hb5)
        clear hqp hb5 x0 x1 x2 x3
        obtain ⟨x0, x1, x2, x3⟩ := id HX5.out
        cases q with
        | true =>
          have HN := Lib.hid (rd_next HM.out ht2 (by rw [HML.out]; exact hlt) (by rw [HML.out, HD.out, HE.out]; exact HQ.out) (by rw [HML.out, HD.out, HHL.out]; exact HQP.out.1 rfl))
          rw [HML.out, HD.out] at HN
          obtain ⟨m', hm'⟩ : ∃ m', m.take d = m' := ⟨_, rfl⟩
          have hsl := run_upto (P := Tryd.prog) Tryd.underlying9 (l := m) (k := d) (by rw [HML.out]; exact hdM) hm' .i64
          rw [hm'] at HN
          clear hm'
          go_wp2
          go_step3
          try simp only [Exit.inBlock, Exit.then]
          have hX9 : S2 (World.setCell w5 ⟨w.heap.size, 1, none⟩ (.string (bs m'))) w.heap.size (bs h) (bs m') := ⟨by simp [World.setCell]; exact x0, by simp [go_sem, *], by simp [go_sem, *], fun o => by simp [go_sem, *]⟩
          have hZ9 : S2 (World.setCell w5 ⟨w.heap.size, 1, none⟩ (.string (bs m'))) (w.heap.size + 1) zu zv := by
            obtain ⟨z0, z1, z2, z3⟩ := HZ5.out
            exact ⟨by simp [World.setCell]; exact z0, by simp [go_sem, *], by simp [go_sem, *], fun o => by simp [go_sem, *]⟩
          exact (show 0 = 0 ∧ RdJ h l w _ _ ∧ boxSz w.heap.size _ < boxSz w.heap.size W from ⟨rfl, rdj_mk ⟨m', HN.out.1, hX9, ⟨_, _, hZ9⟩, (below_on HB.out HB5.out).setCell (Nat.le_refl _) _⟩ rfl rfl rfl rfl, by rw [box_sz hX9, box_sz HX.out, bs_size, bs_size, HML.out]; exact HN.out.2⟩)
        | false =>
          have HN : Hid (∀ t', 2 ≤ t' → t' < t + 1 → t' ≤ M → ¬ (M / t' * t' = M ∧ PerS (atS h m) H (M / t'))) := Lib.hid fun t' q0 q1 q2 => by
            by_cases e1 : t' = t
            · subst e1
              rw [HD.out]
              exact fun hh => absurd (HQP.out.2 hh.2) (by simp)
            · exact HA.out t' q0 (by omega) q2
          go_wp2
          go_roundw
          case rel => exact ⟨t + 1, rfl, by omega, .inl (by omega), HB5.out, HN.out⟩
          case measure => simp [intOf]; omega
      · have hb1 : ((e : Int) == (M : Int)) = false := by rw [beq_eq_false_iff_ne]; omega
        have HN : Hid (∀ t', 2 ≤ t' → t' < t + 1 → t' ≤ M → ¬ (M / t' * t' = M ∧ PerS (atS h m) H (M / t'))) := Lib.hid fun t' q0 q1 q2 => by
          by_cases e1 : t' = t
          · subst e1
            rw [HD.out, HE.out]
            exact fun hh => hq hh.1
          · exact HA.out t' q0 (by omega) q2
        clear hq
        go_wp2
        go_roundw
        case rel => exact ⟨t + 1, rfl, by omega, .inl (by omega), HBR.out, HN.out⟩
        case measure => simp [intOf]; omega
    · have hlt' : ¬ (t : Int) ≤ (M : Int) := by omega
      have HMN : Hid (MinS (atS h l) M) := Lib.hid (by rw [← HML.out]; exact rd_min HL0.out HM.out fun t' q0 q1 => by rw [HML.out] at q1 ⊢; rw [HHL.out]; exact HA.out t' q0 (by omega) q1)
      obtain ⟨hm0, hm1, hm2, hm3⟩ := HM.out
      have HM0 := Lib.hid hm0
      have HST := Lib.hid (st_all h m)
      have HE0 : Hid (∀ n, atS (stH h m H) (stL h m H) n = atS h l n) := Lib.hid fun n => by rw [← HHL.out, HST.out.1, HST.out.2]; exact hm2 n
      have happ := bs_app
      clear HA hm0 hm1 hm2 hm3
      go_wp2
      go_region
      go_wp2
      obtain ⟨Wd, hWd⟩ : ∃ Wd, wr.drew = Wd := ⟨_, rfl⟩
      have HBD : Hid (Below wr.heap.size wr Wd) := Lib.hid (by rw [← hWd]; go_grown)
      rw [hWd]
      clear hWd x0 x1 x2 x3
      go_loopw [6] (fun i wx => ∃ s : Nat, i = .int .i64 s ∧ s ≤ H ∧ Below Wd.heap.size Wd wx ∧ ∀ n, atS (stH h m s) (stL h m s) n = atS h l n) (fun i _ => (intOf i).toNat)
      case atStart => exact ⟨H, rfl, Nat.le_refl _, Below.refl _ _, HE0.out⟩
      case round =>
        obtain ⟨s, rfl, hsH, hbx, hat⟩ := hrel
        rename World => wx
        have HAT := Lib.hid hat
        have HBY := Lib.hid hbx
        have HBX := Lib.hid (below_on HBD.out hbx)
        have HXX := Lib.hid (s2_on HXR.out (below_on HBD.out hbx))
        have HZX := Lib.hid (s2_on HZR.out (below_on HBD.out hbx))
        obtain ⟨x0, x1, x2, x3⟩ := id HXX.out
        clear hat hbx
        have fin : Hid ((s = 0 ∨ ∃ t x y, s = t + 1 ∧ (h ++ m)[t]? = some x ∧ (h ++ m)[t + m.length]? = some y ∧ x ≠ y) → nfS h l = (stH h m s, stL h m s)) := Lib.hid fun hx => st_norm HL0.out HM0.out (by rw [HHL.out]; exact hsH) (by rw [HML.out]; exact HMN.out) HAT.out hx
        have hw1 : IntKind.i64.wrap ((s : Int) - 1) = (s : Int) - 1 := by rw [IntKind.wrap_i64]; omega
        obtain ⟨X, hX⟩ : ∃ X, h ++ m = X := ⟨_, rfl⟩
        have hXl : X.length = H + M := by rw [← hX, List.length_append, HHL.out, HML.out]
        obtain ⟨HM2, hHM2⟩ : ∃ k, H + M = k := ⟨_, rfl⟩
        have hXs : (bs X).size = HM2 := by rw [bs_size, hXl, hHM2]
        obtain ⟨A, hA⟩ : ∃ A, stH h m s = A := ⟨_, rfl⟩
        obtain ⟨B, hB⟩ : ∃ B, stL h m s = B := ⟨_, rfl⟩
        have hslA := run_upto (P := Tryd.prog) Tryd.underlying9 (l := X) (x := A) (k := s) (by omega) (by rw [← hX]; exact hA) .i64
        obtain ⟨sm, hsm⟩ : ∃ sm, s + M = sm := ⟨_, rfl⟩
        have hslB := run_part (P := Tryd.prog) Tryd.underlying9 (l := X) (x := B) (i := s) (j := sm) (by omega) (by omega) (by rw [← hsm, Nat.add_sub_cancel_left, ← hX, ← HML.out]; exact hB) .i64 .i64
        have hwsM : IntKind.i64.wrap ((s : Int) + (M : Int)) = (sm : Int) := by rw [IntKind.wrap_i64]; omega
        clear hsm
        have CA := Lib.hid fun w => sclone_is A w (by rw [← hA, stH_len (by rw [HHL.out]; exact hsH)]; omega)
        have CB := Lib.hid fun w => sclone_is B w (by rw [← hB, stL_len (by rw [HHL.out]; exact hsH), HML.out]; omega)
        rw [hA, hB] at fin
        by_cases hs0 : s = 0
        · have g0 : decide ((0 : Int) < (s : Int)) = false := decide_eq_false (by omega)
          have g1 : decide (0 < s) = false := decide_eq_false (by omega)
          have HF := Lib.hid (fin.out (.inl hs0))
          have hXX := hX
          rw [hX] at *
          clear fin hs0 hA hB hX hXl
          go_wp2
          go_region
          go_wp2_with fail
          generalize hWx : World.drew _ = Wx
          have HBZ : Hid (Below wx.heap.size wx Wx) := Lib.hid (by rw [← hWx]; go_grown)
          clear hWx
          have HXZ := Lib.hid (s2_on HXX.out HBZ.out)
          have HZZ := Lib.hid (s2_on HZX.out HBZ.out)
          have HBW := Lib.hid (below_on HB.out (below_on HBR.out (below_on HBX.out HBZ.out)))
          clear x0 x1 x2 x3
          refine wp_region_held_drew (S := (fun w' => w'.cell? ⟨w.heap.size, 0, none⟩ = some (.string (bs h)) ∧ w'.cell? ⟨w.heap.size, 1, none⟩ = some (.string (bs m)))) (by kernel_rfl) ?_ (fun hHeld => ?_)
          · try dsimp only
            first | (refine s2_keep HXZ.out ?_; go_grown; done) | (refine ⟨?_, ?_⟩ <;> simp [go_sem, *])
          refine wpAnyH_take (i := 0) (oi := { dst := some 63, op := Go.Op.move (Go.Operand.tmp 5), type := 9, pos := "l7_sets.go:82", after := #[], guard := none }) (v := ?_) rfl (by kernel_rfl) (by kernel_rfl) (by kernel_rfl) (fun _ _ _ h => h) (Or.inl ⟨by rfl, ?_⟩) (by assumption) ?_
          rotate_left
          · (intro w hSw; (try dsimp only at hSw); first | (go_simp; done) | (go_simp; with_reducible rfl))
          try simp only [Act.put, List.setIfInBounds_toArray, List.set_cons_zero, List.set_cons_succ]
          refine wpAnyH_take (i := 1) (oi := { dst := some 64, op := Go.Op.move (Go.Operand.tmp 6), type := 3, pos := "l7_sets.go:82", after := #[], guard := none }) (v := ?_) rfl (by kernel_rfl) (by kernel_rfl) (by kernel_rfl) (fun _ _ _ h => h) (Or.inl ⟨by rfl, ?_⟩) (by assumption) ?_
          rotate_left
          · (intro w hSw; (try dsimp only at hSw); first | (go_simp; done) | (go_simp; with_reducible rfl))
          try simp only [Act.put, List.setIfInBounds_toArray, List.set_cons_zero, List.set_cons_succ]
          refine wpAnyH_take (i := 2) (oi := { dst := some 65, op := Go.Op.slice 9 (Go.Operand.tmp 63) none (some (Go.Operand.tmp 64)) none, type := 9, pos := "l7_sets.go:82", after := #[{ on := 0, ground := Go.Ground.data }, { on := 1, ground := Go.Ground.data }], guard := none }) (v := ?_) rfl (by kernel_rfl) (by kernel_rfl) (by kernel_rfl) (fun _ _ _ h => h) (Or.inl ⟨by rfl, ?_⟩) (by assumption) ?_
          rotate_left
          · (intro w hSw; (try dsimp only at hSw); first | (go_simp; done) | (go_simp; with_reducible rfl))
          try simp only [Act.put, List.setIfInBounds_toArray, List.set_cons_zero, List.set_cons_succ]
          refine wpAnyH_take (i := 4) (oi := { dst := some 67, op := Go.Op.move (Go.Operand.tmp 5), type := 9, pos := "l7_sets.go:82", after := #[], guard := none }) (v := ?_) rfl (by kernel_rfl) (by kernel_rfl) (by kernel_rfl) (fun _ _ _ h => h) (Or.inl ⟨by rfl, ?_⟩) (by assumption) ?_
          rotate_left
          · (intro w hSw; (try dsimp only at hSw); first | (go_simp; done) | (go_simp; with_reducible rfl))
          try simp only [Act.put, List.setIfInBounds_toArray, List.set_cons_zero, List.set_cons_succ]
          refine wpAnyH_take (i := 5) (oi := { dst := some 68, op := Go.Op.move (Go.Operand.tmp 6), type := 3, pos := "l7_sets.go:82", after := #[], guard := none }) (v := ?_) rfl (by kernel_rfl) (by kernel_rfl) (by kernel_rfl) (fun _ _ _ h => h) (Or.inl ⟨by rfl, ?_⟩) (by assumption) ?_
          rotate_left
          · (intro w hSw; (try dsimp only at hSw); first | (go_simp; done) | (go_simp; with_reducible rfl))
          try simp only [Act.put, List.setIfInBounds_toArray, List.set_cons_zero, List.set_cons_succ]
          refine wpAnyH_take (i := 6) (oi := { dst := some 69, op := Go.Op.move (Go.Operand.tmp 6), type := 3, pos := "l7_sets.go:82", after := #[], guard := none }) (v := ?_) rfl (by kernel_rfl) (by kernel_rfl) (by kernel_rfl) (fun _ _ _ h => h) (Or.inl ⟨by rfl, ?_⟩) (by assumption) ?_
          rotate_left
          · (intro w hSw; (try dsimp only at hSw); first | (go_simp; done) | (go_simp; with_reducible rfl))
          try simp only [Act.put, List.setIfInBounds_toArray, List.set_cons_zero, List.set_cons_succ]
          refine wpAnyH_take (i := 7) (oi := { dst := some 70, op := Go.Op.fieldAddr 26 (Go.Operand.tmp 1) 1, type := 0, pos := "l7_sets.go:82", after := #[], guard := none }) (v := ?_) rfl (by kernel_rfl) (by kernel_rfl) (by kernel_rfl) (fun _ _ _ h => h) (Or.inl ⟨by rfl, ?_⟩) (by assumption) ?_
          rotate_left
          · (intro w hSw; (try dsimp only at hSw); first | (go_simp; done) | (go_simp; with_reducible rfl))
          try simp only [Act.put, List.setIfInBounds_toArray, List.set_cons_zero, List.set_cons_succ]
          refine wpAnyH_take (i := 8) (oi := { dst := some 71, op := Go.Op.load 9 (Go.Operand.tmp 70), type := 9, pos := "l7_sets.go:82", after := #[{ on := 7, ground := Go.Ground.data }], guard := none }) (v := ?_) rfl (by kernel_rfl) (by kernel_rfl) (by kernel_rfl) (fun _ _ _ h => h) (Or.inl ⟨by rfl, ?_⟩) (by assumption) ?_
          rotate_left
          · (intro w hSw; (try dsimp only at hSw); first | (go_simp; done) | (go_simp; with_reducible rfl))
          try simp only [Act.put, List.setIfInBounds_toArray, List.set_cons_zero, List.set_cons_succ]
          refine wpAnyH_take (i := 9) (oi := { dst := some 72, op := Go.Op.call { callee := Go.Callee.builtin Go.Builtin.len, args := #[Go.Operand.tmp 71], argTypes := #[9] }, type := 3, pos := "l7_sets.go:82", after := #[{ on := 8, ground := Go.Ground.data }], guard := none }) (v := ?_) rfl (by kernel_rfl) (by kernel_rfl) (by kernel_rfl) (fun _ _ _ h => h) (Or.inl ⟨by rfl, ?_⟩) (by assumption) ?_
          rotate_left
          · (intro w hSw; (try dsimp only at hSw); first | (go_simp; done) | (go_simp; with_reducible rfl))
          try simp only [Act.put, List.setIfInBounds_toArray, List.set_cons_zero, List.set_cons_succ]
          refine wpAnyH_take (i := 10) (oi := { dst := some 73, op := Go.Op.binOp Go.BinOp.add 3 (Go.Operand.tmp 69) (Go.Operand.tmp 72) 3, type := 3, pos := "l7_sets.go:82", after := #[{ on := 6, ground := Go.Ground.data }, { on := 9, ground := Go.Ground.data }], guard := none }) (v := ?_) rfl (by kernel_rfl) (by kernel_rfl) (by kernel_rfl) (fun _ _ _ h => h) (Or.inl ⟨by rfl, ?_⟩) (by assumption) ?_
          rotate_left
          · (intro w hSw; (try dsimp only at hSw); first | (go_simp; done) | (go_simp; with_reducible rfl))
          try simp only [Act.put, List.setIfInBounds_toArray, List.set_cons_zero, List.set_cons_succ]
          refine wpAnyH_take (i := 11) (oi := { dst := some 74, op := Go.Op.slice 9 (Go.Operand.tmp 67) (some (Go.Operand.tmp 68)) (some (Go.Operand.tmp 73)) none, type := 9, pos := "l7_sets.go:82", after := #[{ on := 4, ground := Go.Ground.data }, { on := 5, ground := Go.Ground.data }, { on := 10, ground := Go.Ground.data }], guard := none }) (v := ?_) rfl (by kernel_rfl) (by kernel_rfl) (by kernel_rfl) (fun _ _ _ h => h) (Or.inl ⟨by rfl, ?_⟩) (by assumption) ?_
          rotate_left
          · (intro w hSw; (try dsimp only at hSw); first | (go_simp; done) | (go_simp; with_reducible rfl))
          try simp only [Act.put, List.setIfInBounds_toArray, List.set_cons_zero, List.set_cons_succ]
          refine wpAnyH_ready (rs := [3]) (by kernel_rfl) (by simp) ?_
          refine AllReadyH.cons (o := { dst := some 66, op := Go.Op.call { callee := Go.Callee.value (Go.Operand.func 34), args := #[Go.Operand.tmp 65], argTypes := #[9] }, type := 9, pos := "l7_sets.go:82", after := #[{ on := 2, ground := Go.Ground.data }], guard := none }) rfl (fun K hK => ?_) AllReadyH.nil
          go_simp
          (go_at_call 34; refine (CA.out _).mono ?_; rintro e w5 ⟨rfl, hb5⟩; have hbW5 := below_on (w := Wx) (by go_grown) hb5)
          (try go_wp2_with fail)
          refine hK.out _ _ ?_ (fun hHeld => ?_)
          · try dsimp only
            first | (refine s2_keep HXZ.out ?_; go_grown; done) | (refine ⟨?_, ?_⟩ <;> simp [go_sem, *])
          clear hK K
          try simp only [Act.put, List.setIfInBounds_toArray, List.set_cons_zero, List.set_cons_succ]
          refine wpAnyH_ready (rs := [12]) (by kernel_rfl) (by simp) ?_
          refine AllReadyH.cons (o := { dst := some 75, op := Go.Op.call { callee := Go.Callee.value (Go.Operand.func 34), args := #[Go.Operand.tmp 74], argTypes := #[9] }, type := 9, pos := "l7_sets.go:82", after := #[{ on := 11, ground := Go.Ground.data }, { on := 3, ground := Go.Ground.chain }], guard := none }) rfl (fun K hK => ?_) AllReadyH.nil
          go_simp
          (go_at_call 34; refine (CB.out _).mono ?_; rintro e w6 ⟨rfl, hb6⟩; have hbW6 := below_on (w := Wx) (by go_grown) hb6; obtain ⟨z0, z1, z2, z3⟩ := s2_on HZZ.out hbW6; obtain ⟨y0, y1, y2, y3⟩ := s2_on HXZ.out hbW6; have hbF := hbW6)
          (try go_wp2_with fail)
          refine hK.out _ _ ?_ (fun hHeld => ?_)
          · try dsimp only
            first | (refine s2_keep HXZ.out ?_; go_grown; done) | (refine ⟨?_, ?_⟩ <;> simp [go_sem, *])
          clear hK K
          try simp only [Act.put, List.setIfInBounds_toArray, List.set_cons_zero, List.set_cons_succ]
          refine wpAnyH_take (i := 13) (oi := { dst := some 76, op := Go.Op.build 26 #[(0, Go.Operand.tmp 66), (1, Go.Operand.tmp 75)], type := 26, pos := "l7_sets.go:82", after := #[{ on := 3, ground := Go.Ground.data }, { on := 12, ground := Go.Ground.data }], guard := none }) (v := ?_) rfl (by kernel_rfl) (by kernel_rfl) (by kernel_rfl) (fun _ _ _ h => h) (Or.inl ⟨by rfl, ?_⟩) (by assumption) ?_
          rotate_left
          · (intro w hSw; (try dsimp only at hSw); first | (go_simp; done) | (go_simp; with_reducible rfl))
          try simp only [Act.put, List.setIfInBounds_toArray, List.set_cons_zero, List.set_cons_succ]
          refine wpAnyH_ready (rs := [14]) (by kernel_rfl) (by simp) ?_
          refine AllReadyH.cons (o := { dst := none, op := Go.Op.store 26 (Go.Operand.tmp 2) (Go.Operand.tmp 76), type := 0, pos := "l7_sets.go:82", after := #[{ on := 13, ground := Go.Ground.data }, { on := 12, ground := Go.Ground.chain }, { on := 0, ground := Go.Ground.phase }, { on := 1, ground := Go.Ground.phase }, { on := 2, ground := Go.Ground.phase }, { on := 3, ground := Go.Ground.phase }, { on := 4, ground := Go.Ground.phase }, { on := 5, ground := Go.Ground.phase }, { on := 6, ground := Go.Ground.phase }, { on := 7, ground := Go.Ground.phase }, { on := 8, ground := Go.Ground.phase }, { on := 9, ground := Go.Ground.phase }, { on := 10, ground := Go.Ground.phase }, { on := 11, ground := Go.Ground.phase }, { on := 12, ground := Go.Ground.phase }, { on := 13, ground := Go.Ground.phase }], guard := none }) rfl (fun K hK => ?_) AllReadyH.nil
          go_simp
          refine hK.out _ _ ?_ (fun hHeld => ?_)
          · try dsimp only
            first | (refine s2_keep HXZ.out ?_; go_grown; done) | (refine ⟨?_, ?_⟩ <;> simp [go_sem, *])
          clear hK K
          try simp only [Act.put, List.setIfInBounds_toArray, List.set_cons_zero, List.set_cons_succ]
          refine wpAnyH_done (by kernel_rfl) ?_ _
          go_wp2
          generalize hW8 : World.setCell _ _ _ = W8
          obtain ⟨⟨_, r1, r2, _⟩, _, _, hb8⟩ := s2_put hW8 _ _ ⟨z0, z1, z2, z3⟩
          simp only [Exit.jump]
          refine bodyPost_ret (v := .agg #[.string (bs A), .string (bs B)]) (by simp [results, Tryd.results25, go_sem, r1, r2]) rfl ⟨by rw [HF.out], ?_⟩
          exact below_on (hb8 w (below_on HBW.out hbF) (Nat.le_succ _)) (by go_grown)
        · obtain ⟨t1, ht1⟩ : ∃ t1, s = t1 + 1 := ⟨s - 1, by omega⟩
          obtain ⟨x, hx⟩ : ∃ x, X[t1]? = some x := ⟨_, List.getElem?_eq_getElem (by omega)⟩
          obtain ⟨r, hr⟩ : ∃ r, t1 + M = r := ⟨_, rfl⟩
          obtain ⟨y, hy⟩ : ∃ y, X[r]? = some y := ⟨_, List.getElem?_eq_getElem (by omega)⟩
          have g0 : decide ((0 : Int) < (s : Int)) = true := decide_eq_true (by omega)
          have g1 : decide (0 < s) = true := decide_eq_true (by omega)
          have hi1 := fun W => run_at (P := Tryd.prog) Tryd.underlying9 hx .i64 W
          have hi2 := fun W => run_at (P := Tryd.prog) Tryd.underlying9 hy .i64 W
          have hw2 : IntKind.i64.wrap ((s : Int) - 1) = (t1 : Int) := by rw [IntKind.wrap_i64]; omega
          have hw3 : IntKind.i64.wrap ((t1 : Int) + (M : Int)) = (r : Int) := by rw [IntKind.wrap_i64]; omega
          obtain ⟨qx, hqx⟩ : ∃ q : Int, (x.toNat : Int) = q := ⟨_, rfl⟩
          obtain ⟨qy, hqy⟩ : ∃ q : Int, (y.toNat : Int) = q := ⟨_, rfl⟩
          have e1 : (qx == qy) = (x == y) := by rw [← hqx, ← hqy]; exact u8_eq x y
          rw [hqx] at hi1
          rw [hqy] at hi2
          have HXE := Lib.hid hx
          have HYE := Lib.hid hy
          have HXX2 := Lib.hid hX
          have HRN := Lib.hid hr
          have hST : Hid (x = y → ∀ n, atS (stH h m t1) (stL h m t1) n = atS h l n) := Lib.hid fun e n => by
            subst e
            rw [← HAT.out n, ht1]
            exact (st_step HM0.out (by rw [HXX2.out]; exact HXE.out) (by rw [HXX2.out, HML.out, HRN.out]; exact HYE.out) n).symm
          have hFI : Hid (¬ x = y → nfS h l = (A, B)) := Lib.hid fun e => fin.out (.inr ⟨t1, x, y, ht1, by rw [HXX2.out]; exact HXE.out, by rw [HXX2.out, HML.out, HRN.out]; exact HYE.out, e⟩)
          rw [hX] at *
          have HT1 := Lib.hid ht1
          have hmeas : Hid (t1 < s) := Lib.hid (by omega)
          have htH : Hid (t1 ≤ H) := Lib.hid (by omega)
          clear hw1 fin hx hy hqx hqy hX hA hB hXl hr ht1
          cases hq : x == y with
          | true =>
            rw [hq] at e1
            have HN := Lib.hid (hST.out (by simpa using hq))
            clear hq hST hFI
            go_wp2
            go_region
            go_wp2
            go_roundw
            case rel => exact ⟨t1, rfl, htH.out, below_on HBY.out (by go_grown), HN.out⟩
            case measure => simp [intOf]; exact hmeas.out
          | false =>
            rw [hq] at e1
            have HF := Lib.hid (hFI.out (by simpa using hq))
            clear hq hST hFI hs0
            go_wp2
            go_region
            go_wp2_with fail
            generalize hWx : World.drew _ = Wx
            have HBZ : Hid (Below wx.heap.size wx Wx) := Lib.hid (by rw [← hWx]; go_grown)
            clear hWx
            have HXZ := Lib.hid (s2_on HXX.out HBZ.out)
            have HZZ := Lib.hid (s2_on HZX.out HBZ.out)
            have HBW := Lib.hid (below_on HB.out (below_on HBR.out (below_on HBX.out HBZ.out)))
            clear x0 x1 x2 x3
            refine wp_region_held_drew (S := (fun w' => w'.cell? ⟨w.heap.size, 0, none⟩ = some (.string (bs h)) ∧ w'.cell? ⟨w.heap.size, 1, none⟩ = some (.string (bs m)))) (by kernel_rfl) ?_ (fun hHeld => ?_)
            · try dsimp only
              first | (refine s2_keep HXZ.out ?_; go_grown; done) | (refine ⟨?_, ?_⟩ <;> simp [go_sem, *])
            refine wpAnyH_take (i := 0) (oi := { dst := some 63, op := Go.Op.move (Go.Operand.tmp 5), type := 9, pos := "l7_sets.go:82", after := #[], guard := none }) (v := ?_) rfl (by kernel_rfl) (by kernel_rfl) (by kernel_rfl) (fun _ _ _ h => h) (Or.inl ⟨by rfl, ?_⟩) (by assumption) ?_
            rotate_left
            · (intro w hSw; (try dsimp only at hSw); first | (go_simp; done) | (go_simp; with_reducible rfl))
            try simp only [Act.put, List.setIfInBounds_toArray, List.set_cons_zero, List.set_cons_succ]
            refine wpAnyH_take (i := 1) (oi := { dst := some 64, op := Go.Op.move (Go.Operand.tmp 6), type := 3, pos := "l7_sets.go:82", after := #[], guard := none }) (v := ?_) rfl (by kernel_rfl) (by kernel_rfl) (by kernel_rfl) (fun _ _ _ h => h) (Or.inl ⟨by rfl, ?_⟩) (by assumption) ?_
            rotate_left
            · (intro w hSw; (try dsimp only at hSw); first | (go_simp; done) | (go_simp; with_reducible rfl))
            try simp only [Act.put, List.setIfInBounds_toArray, List.set_cons_zero, List.set_cons_succ]
            refine wpAnyH_take (i := 2) (oi := { dst := some 65, op := Go.Op.slice 9 (Go.Operand.tmp 63) none (some (Go.Operand.tmp 64)) none, type := 9, pos := "l7_sets.go:82", after := #[{ on := 0, ground := Go.Ground.data }, { on := 1, ground := Go.Ground.data }], guard := none }) (v := ?_) rfl (by kernel_rfl) (by kernel_rfl) (by kernel_rfl) (fun _ _ _ h => h) (Or.inl ⟨by rfl, ?_⟩) (by assumption) ?_
            rotate_left
            · (intro w hSw; (try dsimp only at hSw); first | (go_simp; done) | (go_simp; with_reducible rfl))
            try simp only [Act.put, List.setIfInBounds_toArray, List.set_cons_zero, List.set_cons_succ]
            refine wpAnyH_take (i := 4) (oi := { dst := some 67, op := Go.Op.move (Go.Operand.tmp 5), type := 9, pos := "l7_sets.go:82", after := #[], guard := none }) (v := ?_) rfl (by kernel_rfl) (by kernel_rfl) (by kernel_rfl) (fun _ _ _ h => h) (Or.inl ⟨by rfl, ?_⟩) (by assumption) ?_
            rotate_left
            · (intro w hSw; (try dsimp only at hSw); first | (go_simp; done) | (go_simp; with_reducible rfl))
            try simp only [Act.put, List.setIfInBounds_toArray, List.set_cons_zero, List.set_cons_succ]
            refine wpAnyH_take (i := 5) (oi := { dst := some 68, op := Go.Op.move (Go.Operand.tmp 6), type := 3, pos := "l7_sets.go:82", after := #[], guard := none }) (v := ?_) rfl (by kernel_rfl) (by kernel_rfl) (by kernel_rfl) (fun _ _ _ h => h) (Or.inl ⟨by rfl, ?_⟩) (by assumption) ?_
            rotate_left
            · (intro w hSw; (try dsimp only at hSw); first | (go_simp; done) | (go_simp; with_reducible rfl))
            try simp only [Act.put, List.setIfInBounds_toArray, List.set_cons_zero, List.set_cons_succ]
            refine wpAnyH_take (i := 6) (oi := { dst := some 69, op := Go.Op.move (Go.Operand.tmp 6), type := 3, pos := "l7_sets.go:82", after := #[], guard := none }) (v := ?_) rfl (by kernel_rfl) (by kernel_rfl) (by kernel_rfl) (fun _ _ _ h => h) (Or.inl ⟨by rfl, ?_⟩) (by assumption) ?_
            rotate_left
            · (intro w hSw; (try dsimp only at hSw); first | (go_simp; done) | (go_simp; with_reducible rfl))
            try simp only [Act.put, List.setIfInBounds_toArray, List.set_cons_zero, List.set_cons_succ]
            refine wpAnyH_take (i := 7) (oi := { dst := some 70, op := Go.Op.fieldAddr 26 (Go.Operand.tmp 1) 1, type := 0, pos := "l7_sets.go:82", after := #[], guard := none }) (v := ?_) rfl (by kernel_rfl) (by kernel_rfl) (by kernel_rfl) (fun _ _ _ h => h) (Or.inl ⟨by rfl, ?_⟩) (by assumption) ?_
            rotate_left
            · (intro w hSw; (try dsimp only at hSw); first | (go_simp; done) | (go_simp; with_reducible rfl))
            try simp only [Act.put, List.setIfInBounds_toArray, List.set_cons_zero, List.set_cons_succ]
            refine wpAnyH_take (i := 8) (oi := { dst := some 71, op := Go.Op.load 9 (Go.Operand.tmp 70), type := 9, pos := "l7_sets.go:82", after := #[{ on := 7, ground := Go.Ground.data }], guard := none }) (v := ?_) rfl (by kernel_rfl) (by kernel_rfl) (by kernel_rfl) (fun _ _ _ h => h) (Or.inl ⟨by rfl, ?_⟩) (by assumption) ?_
            rotate_left
            · (intro w hSw; (try dsimp only at hSw); first | (go_simp; done) | (go_simp; with_reducible rfl))
            try simp only [Act.put, List.setIfInBounds_toArray, List.set_cons_zero, List.set_cons_succ]
            refine wpAnyH_take (i := 9) (oi := { dst := some 72, op := Go.Op.call { callee := Go.Callee.builtin Go.Builtin.len, args := #[Go.Operand.tmp 71], argTypes := #[9] }, type := 3, pos := "l7_sets.go:82", after := #[{ on := 8, ground := Go.Ground.data }], guard := none }) (v := ?_) rfl (by kernel_rfl) (by kernel_rfl) (by kernel_rfl) (fun _ _ _ h => h) (Or.inl ⟨by rfl, ?_⟩) (by assumption) ?_
            rotate_left
            · (intro w hSw; (try dsimp only at hSw); first | (go_simp; done) | (go_simp; with_reducible rfl))
            try simp only [Act.put, List.setIfInBounds_toArray, List.set_cons_zero, List.set_cons_succ]
            refine wpAnyH_take (i := 10) (oi := { dst := some 73, op := Go.Op.binOp Go.BinOp.add 3 (Go.Operand.tmp 69) (Go.Operand.tmp 72) 3, type := 3, pos := "l7_sets.go:82", after := #[{ on := 6, ground := Go.Ground.data }, { on := 9, ground := Go.Ground.data }], guard := none }) (v := ?_) rfl (by kernel_rfl) (by kernel_rfl) (by kernel_rfl) (fun _ _ _ h => h) (Or.inl ⟨by rfl, ?_⟩) (by assumption) ?_
            rotate_left
            · (intro w hSw; (try dsimp only at hSw); first | (go_simp; done) | (go_simp; with_reducible rfl))
            try simp only [Act.put, List.setIfInBounds_toArray, List.set_cons_zero, List.set_cons_succ]
            refine wpAnyH_take (i := 11) (oi := { dst := some 74, op := Go.Op.slice 9 (Go.Operand.tmp 67) (some (Go.Operand.tmp 68)) (some (Go.Operand.tmp 73)) none, type := 9, pos := "l7_sets.go:82", after := #[{ on := 4, ground := Go.Ground.data }, { on := 5, ground := Go.Ground.data }, { on := 10, ground := Go.Ground.data }], guard := none }) (v := ?_) rfl (by kernel_rfl) (by kernel_rfl) (by kernel_rfl) (fun _ _ _ h => h) (Or.inl ⟨by rfl, ?_⟩) (by assumption) ?_
            rotate_left
            · (intro w hSw; (try dsimp only at hSw); first | (go_simp; done) | (go_simp; with_reducible rfl))
            try simp only [Act.put, List.setIfInBounds_toArray, List.set_cons_zero, List.set_cons_succ]
            refine wpAnyH_ready (rs := [3]) (by kernel_rfl) (by simp) ?_
            refine AllReadyH.cons (o := { dst := some 66, op := Go.Op.call { callee := Go.Callee.value (Go.Operand.func 34), args := #[Go.Operand.tmp 65], argTypes := #[9] }, type := 9, pos := "l7_sets.go:82", after := #[{ on := 2, ground := Go.Ground.data }], guard := none }) rfl (fun K hK => ?_) AllReadyH.nil
            go_simp
            (go_at_call 34; refine (CA.out _).mono ?_; rintro e w5 ⟨rfl, hb5⟩; have hbW5 := below_on (w := Wx) (by go_grown) hb5)
            (try go_wp2_with fail)
            refine hK.out _ _ ?_ (fun hHeld => ?_)
            · try dsimp only
              first | (refine s2_keep HXZ.out ?_; go_grown; done) | (refine ⟨?_, ?_⟩ <;> simp [go_sem, *])
            clear hK K
            try simp only [Act.put, List.setIfInBounds_toArray, List.set_cons_zero, List.set_cons_succ]
            refine wpAnyH_ready (rs := [12]) (by kernel_rfl) (by simp) ?_
            refine AllReadyH.cons (o := { dst := some 75, op := Go.Op.call { callee := Go.Callee.value (Go.Operand.func 34), args := #[Go.Operand.tmp 74], argTypes := #[9] }, type := 9, pos := "l7_sets.go:82", after := #[{ on := 11, ground := Go.Ground.data }, { on := 3, ground := Go.Ground.chain }], guard := none }) rfl (fun K hK => ?_) AllReadyH.nil
            go_simp
            (go_at_call 34; refine (CB.out _).mono ?_; rintro e w6 ⟨rfl, hb6⟩; have hbW6 := below_on (w := Wx) (by go_grown) hb6; obtain ⟨z0, z1, z2, z3⟩ := s2_on HZZ.out hbW6; obtain ⟨y0, y1, y2, y3⟩ := s2_on HXZ.out hbW6; have hbF := hbW6)
            (try go_wp2_with fail)
            refine hK.out _ _ ?_ (fun hHeld => ?_)
            · try dsimp only
              first | (refine s2_keep HXZ.out ?_; go_grown; done) | (refine ⟨?_, ?_⟩ <;> simp [go_sem, *])
            clear hK K
            try simp only [Act.put, List.setIfInBounds_toArray, List.set_cons_zero, List.set_cons_succ]
            refine wpAnyH_take (i := 13) (oi := { dst := some 76, op := Go.Op.build 26 #[(0, Go.Operand.tmp 66), (1, Go.Operand.tmp 75)], type := 26, pos := "l7_sets.go:82", after := #[{ on := 3, ground := Go.Ground.data }, { on := 12, ground := Go.Ground.data }], guard := none }) (v := ?_) rfl (by kernel_rfl) (by kernel_rfl) (by kernel_rfl) (fun _ _ _ h => h) (Or.inl ⟨by rfl, ?_⟩) (by assumption) ?_
            rotate_left
            · (intro w hSw; (try dsimp only at hSw); first | (go_simp; done) | (go_simp; with_reducible rfl))
            try simp only [Act.put, List.setIfInBounds_toArray, List.set_cons_zero, List.set_cons_succ]
            refine wpAnyH_ready (rs := [14]) (by kernel_rfl) (by simp) ?_
            refine AllReadyH.cons (o := { dst := none, op := Go.Op.store 26 (Go.Operand.tmp 2) (Go.Operand.tmp 76), type := 0, pos := "l7_sets.go:82", after := #[{ on := 13, ground := Go.Ground.data }, { on := 12, ground := Go.Ground.chain }, { on := 0, ground := Go.Ground.phase }, { on := 1, ground := Go.Ground.phase }, { on := 2, ground := Go.Ground.phase }, { on := 3, ground := Go.Ground.phase }, { on := 4, ground := Go.Ground.phase }, { on := 5, ground := Go.Ground.phase }, { on := 6, ground := Go.Ground.phase }, { on := 7, ground := Go.Ground.phase }, { on := 8, ground := Go.Ground.phase }, { on := 9, ground := Go.Ground.phase }, { on := 10, ground := Go.Ground.phase }, { on := 11, ground := Go.Ground.phase }, { on := 12, ground := Go.Ground.phase }, { on := 13, ground := Go.Ground.phase }], guard := none }) rfl (fun K hK => ?_) AllReadyH.nil
            go_simp
            refine hK.out _ _ ?_ (fun hHeld => ?_)
            · try dsimp only
              first | (refine s2_keep HXZ.out ?_; go_grown; done) | (refine ⟨?_, ?_⟩ <;> simp [go_sem, *])
            clear hK K
            try simp only [Act.put, List.setIfInBounds_toArray, List.set_cons_zero, List.set_cons_succ]
            refine wpAnyH_done (by kernel_rfl) ?_ _
            go_wp2
            generalize hW8 : World.setCell _ _ _ = W8
            obtain ⟨⟨_, r1, r2, _⟩, _, _, hb8⟩ := s2_put hW8 _ _ ⟨z0, z1, z2, z3⟩
            simp only [Exit.jump]
            refine bodyPost_ret (v := .agg #[.string (bs A), .string (bs B)]) (by simp [results, Tryd.results25, go_sem, r1, r2]) rfl ⟨by rw [HF.out], ?_⟩
            exact below_on (hb8 w (below_on HBW.out hbF) (Nat.le_succ _)) (by go_grown)


end Go.Proofs.YtkhnninnmpffmaaDoor
