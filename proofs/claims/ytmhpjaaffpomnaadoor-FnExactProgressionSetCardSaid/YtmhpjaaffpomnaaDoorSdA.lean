/- DivideSet of the program. -/
import Derived.Test.YtmhpjaaffpomnaaDoorSetL
namespace Go.Proofs.YtmhpjaaffpomnaaDoor
open Go.RowKit

/-- A quotient that is rounded up. -/
def ceilN (n d : Nat) : Nat := if n % d = 0 then n / d else n / d + 1
theorem ceil_le {n d : Nat} (hd : 0 < d) : n ≤ d * ceilN n d ∧ ceilN n d ≤ n + 1 := by
  have h1 := Nat.div_add_mod n d
  have h2 := Nat.mod_lt n hd
  have h3 := Nat.div_le_self n d
  unfold ceilN
  split
  · exact ⟨by omega, by omega⟩
  · exact ⟨by rw [Nat.mul_add, Nat.mul_one]; omega, by omega⟩

set_option maxHeartbeats 1000000 in
theorem roundedUp_nat (n d : Nat) (w : World) (hd : 0 < d) (hn : n ≤ 1000000000) (hd1 : d ≤ 1000000000) :
    Calls Tryd.prog 66 #[.int .i64 n, .int .i64 d] w fun e w' => e = .returned (.int .i64 (ceilN n d : Nat)) ∧ w = w' := by
  have hd0 : (d : Int) ≠ 0 := by omega
  have hd2 : d ≠ 0 := by omega
  obtain ⟨r, hr⟩ : ∃ r, n % d = r := ⟨_, rfl⟩
  obtain ⟨q, hq⟩ : ∃ q, n / d = q := ⟨_, rfl⟩
  have hm : (n : Int).tmod (d : Int) = (r : Int) := by rw [Int.tmod_eq_emod_of_nonneg (by omega), ← hr]; rfl
  have ht : (n : Int).tdiv (d : Int) = (q : Int) := by rw [tdiv_n2, hq]
  have hqn : q ≤ n := by rw [← hq]; exact Nat.div_le_self _ _
  have hwq : IntKind.i64.wrap (q : Int) = (q : Int) := by rw [IntKind.wrap_i64]; omega
  have hw1 : IntKind.i64.wrap ((q : Int) + 1) = ((q + 1 : Nat) : Int) := by rw [IntKind.wrap_i64]; omega
  by_cases hn0 : n = 0
  · subst hn0
    have hr0 : r = 0 := by rw [← hr]; exact Nat.zero_mod d
    have hF : ceilN 0 d = q := by unfold ceilN; rw [hr, if_pos hr0, hq]
    have g0 : decide ((0 : Int) < ((0 : Nat) : Int)) = false := by simp
    have hq0 : q = 0 := by rw [← hq]; exact Nat.zero_div d
    rw [hF, hq0]
    clear hF hr hq hr0 hq0
    go_enter Tryd.func66, Tryd.ntmps66
    go_wp2
    go_ret
    exact ⟨rfl, rfl⟩
  · have g0 : decide ((0 : Int) < (n : Int)) = true := decide_eq_true (by omega)
    have g1 : decide (0 < n) = true := decide_eq_true (by omega)
    by_cases hr0 : r = 0
    · have hF : ceilN n d = q := by unfold ceilN; rw [hr, if_pos hr0, hq]
      have g2 : ((r : Int) != 0) = false := by rw [hr0]; rfl
      rw [hF]
      clear hF hr hq hr0 hn0
      go_enter Tryd.func66, Tryd.ntmps66
      go_wp2
      go_ret
      exact ⟨rfl, rfl⟩
    · have hF : ceilN n d = q + 1 := by unfold ceilN; rw [hr, if_neg hr0, hq]
      have g2 : ((r : Int) != 0) = true := by rw [bne_iff_ne]; omega
      rw [hF]
      clear hF hr hq hr0 hn0
      go_enter Tryd.func66, Tryd.ntmps66
      go_wp2
      go_ret
      exact ⟨rfl, rfl⟩

set_option maxRecDepth 10000 in
set_option maxHeartbeats 4000000 in
theorem DivideSet_any (h l : List UInt8) (k : Int) (w : World) (hh : h.length ≤ 1000000000) (hl : l.length ≤ 1000000000) (k0 : -9223372036854775808 ≤ k) (k1 : k ≤ 9223372036854775807) :
    Calls Tryd.prog 39 #[.agg #[.string (bs h), .string (bs l)], .int .i64 k] w fun e w' => e = .returned (.tuple #[.agg #[.string (bs (dvR h l k).1.1), .string (bs (dvR h l k).1.2)], .bool (dvR h l k).2]) ∧ Below w.heap.size w w' := by
  have HV := Lib.hid fun w => SetValid_any h l w hh hl
  have HS := Lib.hid (svS_parts (h := h) (l := l))
  obtain ⟨v, hv⟩ : ∃ v, svS h l = v := ⟨_, rfl⟩
  have HQ : Hid (svS h l = v) := Lib.hid hv
  rw [hv] at HV
  clear hv
  cases v with
  | false =>
    have HF : Hid (dvR h l k = (([], []), false)) := Lib.hid (by unfold dvR; rw [HQ.out]; rfl)
    go_enter Tryd.func39, Tryd.ntmps39
    go_wp2_with fail
    generalize hW0 : World.alloc w _ = W0
    obtain ⟨hx, hsx, hwx⟩ := s2_new hW0
    clear hW0
    generalize hW : World.alloc W0 _ = W1
    obtain ⟨hy, hsy, hwy⟩ := fb_new hW
    rw [hsx] at hy
    clear hW
    generalize hW : World.alloc W1 _ = W2
    obtain ⟨hz, hsz, hwz⟩ := s2_new hW
    rw [hsy, hsx] at hz
    clear hW
    have X2 := s2_on hx (below_on hwy hwz)
    have Y2 := fb_on hy hwz
    have R2 := hz
    have B2 := below_on hwx (below_on hwy hwz)
    have hne : w.heap.size ≤ w.heap.size + 1 + 1 := by omega
    clear hx hy hz hwx hwy hwz hsx hsy hsz
    refine (HV.out _).mono ?_
    rintro e w3 ⟨rfl, hb3⟩
    have X3 := s2_on X2 hb3
    have Y3 := fb_on Y2 hb3
    have R3 := s2_on R2 hb3
    have B3 := below_on B2 hb3
    clear X2 Y2 R2 B2 hb3
    obtain ⟨x0, x1, x2, x3⟩ := id X3
    obtain ⟨y0, y1⟩ := id Y3
    obtain ⟨a0, a1, a2, a3⟩ := id R3
    go_wp2
    generalize hW : World.setCell _ _ _ = W8
    obtain ⟨⟨_, r1, r2, _⟩, _, _, hb8⟩ := s2_put hW _ _ R3
    refine bodyPost_ret (v := .tuple #[.agg #[.string ⟨#[]⟩, .string ⟨#[]⟩], .bool false]) (by simp [results, Tryd.results39, go_sem, r1, r2]) rfl ⟨by rw [HF.out]; rfl, ?_⟩
    exact hb8 w B3 hne
  | true =>
    have HI := Lib.hid (isFactor_any k)
    by_cases hc : 1 ≤ k ∧ k ≤ 240
    case neg =>
      have HF : Hid (dvR h l k = (([], []), false)) := Lib.hid (by unfold dvR; rw [if_neg (by rw [HQ.out, decide_eq_false hc]; simp)])
      rw [decide_eq_false hc] at HI
      clear hc
      go_enter Tryd.func39, Tryd.ntmps39
      go_wp2_with fail
      generalize hW0 : World.alloc w _ = W0
      obtain ⟨hx, hsx, hwx⟩ := s2_new hW0
      clear hW0
      generalize hW : World.alloc W0 _ = W1
      obtain ⟨hy, hsy, hwy⟩ := fb_new hW
      rw [hsx] at hy
      clear hW
      generalize hW : World.alloc W1 _ = W2
      obtain ⟨hz, hsz, hwz⟩ := s2_new hW
      rw [hsy, hsx] at hz
      clear hW
      have X2 := s2_on hx (below_on hwy hwz)
      have Y2 := fb_on hy hwz
      have R2 := hz
      have B2 := below_on hwx (below_on hwy hwz)
      have hne : w.heap.size ≤ w.heap.size + 1 + 1 := by omega
      clear hx hy hz hwx hwy hwz hsx hsy hsz
      refine (HV.out _).mono ?_
      rintro e w3 ⟨rfl, hb3⟩
      have X3 := s2_on X2 hb3
      have Y3 := fb_on Y2 hb3
      have R3 := s2_on R2 hb3
      have B3 := below_on B2 hb3
      clear X2 Y2 R2 B2 hb3
      obtain ⟨x0, x1, x2, x3⟩ := id X3
      obtain ⟨y0, y1⟩ := id Y3
      obtain ⟨a0, a1, a2, a3⟩ := id R3
      go_wp2_with fail
      refine (HI.out _).mono ?_
      rintro e w4 ⟨rfl, rfl⟩
      go_wp2
      generalize hW : World.setCell _ _ _ = W8
      obtain ⟨⟨_, r1, r2, _⟩, _, _, hb8⟩ := s2_put hW _ _ R3
      refine bodyPost_ret (v := .tuple #[.agg #[.string ⟨#[]⟩, .string ⟨#[]⟩], .bool false]) (by simp [results, Tryd.results39, go_sem, r1, r2]) rfl ⟨by rw [HF.out]; rfl, ?_⟩
      exact hb8 w B3 hne
    rw [decide_eq_true hc] at HI
    obtain ⟨K, rfl⟩ : ∃ K : Nat, k = K := ⟨k.toNat, by omega⟩
    have hK1 : 1 ≤ K := by omega
    have hK : K ≤ 240 := by omega
    obtain ⟨q1, q2, q3, q4, q5, q6⟩ := HS.out HQ.out
    have HF : Hid (dvR h l K = resA (dvA (atS h l) K)) := Lib.hid (by unfold dvR; rw [if_pos (by rw [HQ.out, decide_eq_true hc]; rfl)]; rfl)
    obtain ⟨r, hr⟩ : ∃ r, resA (dvA (atS h l) K) = r := ⟨_, rfl⟩
    have HR := Lib.hid hr
    rw [hr] at HF
    have hs1 := bs_size h
    have hs2 := bs_size l
    have hat := per_at h l
    obtain ⟨H, hH⟩ : ∃ H, h.length = H := ⟨_, rfl⟩
    obtain ⟨L, hL⟩ : ∃ L, l.length = L := ⟨_, rfl⟩
    rw [hH, hL] at hat
    have hL1 : 1 ≤ L := by omega
    have HG := Lib.hid fun w => commonDivisor_any (L : Int) (K : Int) w (by omega) (by omega) (by omega) (by omega)
    obtain ⟨g, hg⟩ : ∃ g, Nat.gcd L K = g := ⟨_, rfl⟩
    have hg0 : 0 < g := by rw [← hg]; exact Nat.gcd_pos_of_pos_left _ hL1
    have hgg : (Int.gcd (L : Int) (K : Int)) = g := by rw [← hg]; rfl
    rw [hgg] at HG
    obtain ⟨p, hp⟩ : ∃ p, L / g = p := ⟨_, rfl⟩
    have hpL : p ≤ L := by rw [← hp]; exact Nat.div_le_self _ _
    have hp0 : 0 < p := by rw [← hp, ← hg]; exact Nat.div_pos (Nat.gcd_le_left K hL1) (by rw [hg]; exact hg0)
    have ht : (L : Int).tdiv (g : Int) = (p : Int) := by rw [tdiv_n2, hp]
    have hg1 : (g : Int) ≠ 0 := by omega
    have hg2 : g ≠ 0 := by omega
    have hwp : IntKind.i64.wrap (p : Int) = (p : Int) := by rw [IntKind.wrap_i64]; omega
    have HU := Lib.hid fun w => roundedUp_nat H K w (by omega) (by omega) (by omega)
    obtain ⟨c1, c2⟩ := ceil_le (n := H) (show 0 < K by omega)
    obtain ⟨m, hm⟩ : ∃ m, ceilN H K = m := ⟨_, rfl⟩
    rw [hm] at HU c1 c2
    have hper : PerS (dvA (atS h l) K) m p := per_dv2 hat c1 (by rw [← hp, ← hg]; exact dvd_gcd L K)
    have HSO : Hid (∀ W, S2 W w.heap.size (bs h) (bs l) → FB W (w.heap.size + 1) (.int .i64 K) → Calls Tryd.prog 57 #[.int .i64 m, .int .i64 p, .func (.func 67) #[] #[.pointer (some ⟨w.heap.size, 0, none⟩), .pointer (some ⟨w.heap.size + 1, 0, none⟩)]] W fun e w' => e = .returned (.tuple #[.agg #[.string (bs r.1.1), .string (bs r.1.2)], .bool r.2]) ∧ Below W.heap.size W w') := Lib.hid fun W s1 s2 => by
      have := setOf_seq 67 #[.pointer (some ⟨w.heap.size, 0, none⟩), .pointer (some ⟨w.heap.size + 1, 0, none⟩)] (fun n => inS (dvA (atS h l) K) n) (dvA (atS h l) K) m p W Tryd.endv hp0 (by omega) (fun n => bits_in (bits_dv (bits_at q6 q1 q2) K) n) hper
        (fun V hV j hj => divide1_any h l K j _ _ V q6 hh hl (by omega) (by omega) (s2_on s1 hV) (fb_on s2 hV))
      rw [HR.out] at this
      exact this
    rw [hH] at hs1
    rw [hL] at hs2
    clear hc k0 k1 hr q1 q2 q3 q4 q5 q6 hH hL hm hp hh hl hper hat hg hgg c1 c2
    go_enter Tryd.func39, Tryd.ntmps39
    go_wp2_with fail
    generalize hW0 : World.alloc w _ = W0
    obtain ⟨hx, hsx, hwx⟩ := s2_new hW0
    clear hW0
    generalize hW : World.alloc W0 _ = W1
    obtain ⟨hy, hsy, hwy⟩ := fb_new hW
    rw [hsx] at hy
    clear hW
    generalize hW : World.alloc W1 _ = W2
    obtain ⟨hz, hsz, hwz⟩ := s2_new hW
    rw [hsy, hsx] at hz
    clear hW
    have X2 := s2_on hx (below_on hwy hwz)
    have Y2 := fb_on hy hwz
    have R2 := hz
    have B2 := below_on hwx (below_on hwy hwz)
    have hne : w.heap.size ≤ w.heap.size + 1 + 1 := by omega
    clear hx hy hz hwx hwy hwz hsx hsy hsz
    refine (HV.out _).mono ?_
    rintro e w3 ⟨rfl, hb3⟩
    have X3 := s2_on X2 hb3
    have Y3 := fb_on Y2 hb3
    have R3 := s2_on R2 hb3
    have B3 := below_on B2 hb3
    clear X2 Y2 R2 B2 hb3
    obtain ⟨x0, x1, x2, x3⟩ := id X3
    obtain ⟨y0, y1⟩ := id Y3
    obtain ⟨a0, a1, a2, a3⟩ := id R3
    go_wp2_with fail
    refine (HI.out _).mono ?_
    rintro e w3a ⟨rfl, rfl⟩
    go_wp2_with fail
    have X := Lib.hid X3
    have Y := Lib.hid Y3
    have Rr := Lib.hid R3
    have Bb := Lib.hid B3
    clear X3 Y3 R3 B3 a0 a1 a2 a3 x0 x1 x2 x3 y0 y1
    refine wp_region_held_drew (S := (fun w' => (w'.cell? ⟨w.heap.size, 0, none⟩ = some (.string (bs h)) ∧ w'.cell? ⟨w.heap.size, 1, none⟩ = some (.string (bs l))) ∧ w'.cell? ⟨w.heap.size + 1, 0, none⟩ = some (.int .i64 K))) (by kernel_rfl) ?_ (fun hHeld => ?_)
    · try dsimp only
      exact ⟨s2_keep X.out (by go_grown), (fb_on Y.out (by go_grown)).2⟩
    refine wpAnyH_take (i := 0) (oi := { dst := some 16, op := Go.Op.fieldAddr 26 (Go.Operand.tmp 2) 1, type := 0, pos := "l7_sets.go:251", after := #[], guard := none }) (v := ?_) rfl (by kernel_rfl) (by kernel_rfl) (by kernel_rfl) (fun _ _ _ h => h) (Or.inl ⟨by rfl, ?_⟩) (by assumption) ?_
    rotate_left
    · (intro w hSw; (try dsimp only at hSw); first | (go_simp; done) | (go_simp; with_reducible rfl))
    try simp only [Act.put, List.setIfInBounds_toArray, List.set_cons_zero, List.set_cons_succ]
    refine wpAnyH_take (i := 1) (oi := { dst := some 17, op := Go.Op.load 9 (Go.Operand.tmp 16), type := 9, pos := "l7_sets.go:251", after := #[{ on := 0, ground := Go.Ground.data }], guard := none }) (v := ?_) rfl (by kernel_rfl) (by kernel_rfl) (by kernel_rfl) (fun _ _ _ h => h) (Or.inl ⟨by rfl, ?_⟩) (by assumption) ?_
    rotate_left
    · (intro w hSw; (try dsimp only at hSw); first | (go_simp; done) | (go_simp; with_reducible rfl))
    try simp only [Act.put, List.setIfInBounds_toArray, List.set_cons_zero, List.set_cons_succ]
    refine wpAnyH_take (i := 2) (oi := { dst := some 18, op := Go.Op.call { callee := Go.Callee.builtin Go.Builtin.len, args := #[Go.Operand.tmp 17], argTypes := #[9] }, type := 3, pos := "l7_sets.go:251", after := #[{ on := 1, ground := Go.Ground.data }], guard := none }) (v := ?_) rfl (by kernel_rfl) (by kernel_rfl) (by kernel_rfl) (fun _ _ _ h => h) (Or.inl ⟨by rfl, ?_⟩) (by assumption) ?_
    rotate_left
    · (intro w hSw; (try dsimp only at hSw); first | (go_simp; done) | (go_simp; with_reducible rfl))
    try simp only [Act.put, List.setIfInBounds_toArray, List.set_cons_zero, List.set_cons_succ]
    refine wpAnyH_take (i := 3) (oi := { dst := some 19, op := Go.Op.fieldAddr 26 (Go.Operand.tmp 2) 1, type := 0, pos := "l7_sets.go:251", after := #[], guard := none }) (v := ?_) rfl (by kernel_rfl) (by kernel_rfl) (by kernel_rfl) (fun _ _ _ h => h) (Or.inl ⟨by rfl, ?_⟩) (by assumption) ?_
    rotate_left
    · (intro w hSw; (try dsimp only at hSw); first | (go_simp; done) | (go_simp; with_reducible rfl))
    try simp only [Act.put, List.setIfInBounds_toArray, List.set_cons_zero, List.set_cons_succ]
    refine wpAnyH_take (i := 4) (oi := { dst := some 20, op := Go.Op.load 9 (Go.Operand.tmp 19), type := 9, pos := "l7_sets.go:251", after := #[{ on := 3, ground := Go.Ground.data }], guard := none }) (v := ?_) rfl (by kernel_rfl) (by kernel_rfl) (by kernel_rfl) (fun _ _ _ h => h) (Or.inl ⟨by rfl, ?_⟩) (by assumption) ?_
    rotate_left
    · (intro w hSw; (try dsimp only at hSw); first | (go_simp; done) | (go_simp; with_reducible rfl))
    try simp only [Act.put, List.setIfInBounds_toArray, List.set_cons_zero, List.set_cons_succ]
    refine wpAnyH_take (i := 5) (oi := { dst := some 21, op := Go.Op.call { callee := Go.Callee.builtin Go.Builtin.len, args := #[Go.Operand.tmp 20], argTypes := #[9] }, type := 3, pos := "l7_sets.go:251", after := #[{ on := 4, ground := Go.Ground.data }], guard := none }) (v := ?_) rfl (by kernel_rfl) (by kernel_rfl) (by kernel_rfl) (fun _ _ _ h => h) (Or.inl ⟨by rfl, ?_⟩) (by assumption) ?_
    rotate_left
    · (intro w hSw; (try dsimp only at hSw); first | (go_simp; done) | (go_simp; with_reducible rfl))
    try simp only [Act.put, List.setIfInBounds_toArray, List.set_cons_zero, List.set_cons_succ]
    refine wpAnyH_take (i := 6) (oi := { dst := some 22, op := Go.Op.load 3 (Go.Operand.tmp 3), type := 3, pos := "l7_sets.go:251", after := #[], guard := none }) (v := ?_) rfl (by kernel_rfl) (by kernel_rfl) (by kernel_rfl) (fun _ _ _ h => h) (Or.inl ⟨by rfl, ?_⟩) (by assumption) ?_
    rotate_left
    · (intro w hSw; (try dsimp only at hSw); first | (go_simp; done) | (go_simp; with_reducible rfl))
    try simp only [Act.put, List.setIfInBounds_toArray, List.set_cons_zero, List.set_cons_succ]
    refine wpAnyH_ready (rs := [7]) (by kernel_rfl) (by simp) ?_
    refine AllReadyH.cons (o := { dst := some 23, op := Go.Op.call { callee := Go.Callee.value (Go.Operand.func 65), args := #[Go.Operand.tmp 21, Go.Operand.tmp 22], argTypes := #[3, 3] }, type := 3, pos := "l7_sets.go:251", after := #[{ on := 5, ground := Go.Ground.data }, { on := 6, ground := Go.Ground.data }], guard := none }) rfl (fun K hK => ?_) AllReadyH.nil
    go_simp
    (go_at_call 65; refine (HG.out _).mono ?_; rintro e w5 ⟨rfl, hb5⟩; have hbW5 := below_on (w := w3) (by go_grown) hb5)
    (try go_wp2_with fail)
    refine hK.out _ _ ?_ (fun hHeld => ?_)
    · try dsimp only
      exact ⟨s2_keep X.out (by go_grown), (fb_on Y.out (by go_grown)).2⟩
    clear hK K
    try simp only [Act.put, List.setIfInBounds_toArray, List.set_cons_zero, List.set_cons_succ]
    refine wpAnyH_take (i := 8) (oi := { dst := some 24, op := Go.Op.binOp Go.BinOp.quo 3 (Go.Operand.tmp 18) (Go.Operand.tmp 23) 3, type := 3, pos := "l7_sets.go:251", after := #[{ on := 2, ground := Go.Ground.data }, { on := 7, ground := Go.Ground.data }], guard := none }) (v := ?_) rfl (by kernel_rfl) (by kernel_rfl) (by kernel_rfl) (fun _ _ _ h => h) (Or.inl ⟨by rfl, ?_⟩) (by assumption) ?_
    rotate_left
    · (intro w hSw; (try dsimp only at hSw); first | (go_simp; done) | (go_simp; with_reducible rfl))
    try simp only [Act.put, List.setIfInBounds_toArray, List.set_cons_zero, List.set_cons_succ]
    refine wpAnyH_take (i := 9) (oi := { dst := some 6, op := Go.Op.assign (Go.Operand.tmp 24), type := 3, pos := "l7_sets.go:251", after := #[{ on := 8, ground := Go.Ground.data }, { on := 7, ground := Go.Ground.chain }, { on := 0, ground := Go.Ground.phase }, { on := 1, ground := Go.Ground.phase }, { on := 2, ground := Go.Ground.phase }, { on := 3, ground := Go.Ground.phase }, { on := 4, ground := Go.Ground.phase }, { on := 5, ground := Go.Ground.phase }, { on := 6, ground := Go.Ground.phase }, { on := 7, ground := Go.Ground.phase }, { on := 8, ground := Go.Ground.phase }], guard := none }) (v := ?_) rfl (by kernel_rfl) (by kernel_rfl) (by kernel_rfl) (fun _ _ _ h => h) (Or.inl ⟨by rfl, ?_⟩) (by assumption) ?_
    rotate_left
    · (intro w hSw; (try dsimp only at hSw); first | (go_simp; done) | (go_simp; with_reducible rfl))
    try simp only [Act.put, List.setIfInBounds_toArray, List.set_cons_zero, List.set_cons_succ]
    refine wpAnyH_done (by kernel_rfl) ?_ _
    generalize hW6 : w5 = W6
    have X6 := s2_on X.out (show Below w3.heap.size w3 W6 by subst hW6; exact hbW5)
    have Y6 := fb_on Y.out (show Below w3.heap.size w3 W6 by subst hW6; exact hbW5)
    have R6 := s2_on Rr.out (show Below w3.heap.size w3 W6 by subst hW6; exact hbW5)
    have B6 := below_on Bb.out (show Below w3.heap.size w3 W6 by subst hW6; exact hbW5)
    clear hW6
    obtain ⟨x0, x1, x2, x3⟩ := id X6
    obtain ⟨y0, y1⟩ := id Y6
    go_wp2_with fail
    refine (HU.out _).mono ?_
    rintro e w7 ⟨rfl, rfl⟩
    go_wp2_with fail
    refine (HSO.out _ X6 Y6).mono ?_
    rintro e w8 ⟨rfl, hb8⟩
    have R8 := s2_on R6 hb8
    have B8 := below_on B6 hb8
    clear x0 x1 x2 x3 y0 y1
    obtain ⟨a0, a1, a2, a3⟩ := id R8
    go_wp2
    generalize hW : World.setCell _ _ _ = W8
    obtain ⟨⟨_, r1, r2, _⟩, _, _, hb8⟩ := s2_put hW _ _ R8
    refine bodyPost_ret (v := .tuple #[.agg #[.string (bs r.1.1), .string (bs r.1.2)], .bool r.2]) (by simp [results, Tryd.results39, go_sem, r1, r2]) rfl ⟨by rw [HF.out], ?_⟩
    exact hb8 w B8 hne

end Go.Proofs.YtmhpjaaffpomnaaDoor
