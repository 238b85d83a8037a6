/- Several texts in one: SdA SdB SdC SdD SdE. -/
import Derived.Test.YtpheihejgnlanaaDoorSetL
import Derived.Test.YtpheihejgnlanaaDoorSa7
import Derived.Test.YtpheihejgnlanaaDoorDr1
import Derived.Test.YtpheihejgnlanaaDoorSetI
import Derived.Laws.OwnMore

/- DivideSet of the program. -/
namespace Go.Proofs.YtpheihejgnlanaaDoor
open Go.RowKit

/-- A quotient that is rounded up. -/
def ceilN (n d : Nat) : Nat := if n % d = 0 then n / d else n / d + 1
theorem ceil_le {n d : Nat} (hd : 0 < d) : n ≤ d * ceilN n d ∧ ceilN n d ≤ n + 1 := by
  have h1 := Nat.div_add_mod n d
  have h2 := Nat.mod_lt n hd
  have h3 := Nat.div_le_self n d
  unfold ceilN
  split
  · exact ⟨by omega, by omega⟩
  · exact ⟨by rw [Nat.mul_add, Nat.mul_one]; omega, by omega⟩

set_option maxHeartbeats 1000000 in
theorem roundedUp_nat (n d : Nat) (w : World) (hd : 0 < d) (hn : n ≤ 1000000000) (hd1 : d ≤ 1000000000) :
    Calls Tryd.prog 63 #[.int .i64 n, .int .i64 d] w fun e w' => e = .returned (.int .i64 (ceilN n d : Nat)) ∧ w = w' := by
  have hd0 : (d : Int) ≠ 0 := by omega
  have hd2 : d ≠ 0 := by omega
  obtain ⟨r, hr⟩ : ∃ r, n % d = r := ⟨_, rfl⟩
  obtain ⟨q, hq⟩ : ∃ q, n / d = q := ⟨_, rfl⟩
  have hm : (n : Int).tmod (d : Int) = (r : Int) := by rw [Int.tmod_eq_emod_of_nonneg (by omega), ← hr]; rfl
  have ht : (n : Int).tdiv (d : Int) = (q : Int) := by rw [tdiv_n2, hq]
  have hqn : q ≤ n := by rw [← hq]; exact Nat.div_le_self _ _
  have hwq : IntKind.i64.wrap (q : Int) = (q : Int) := by rw [IntKind.wrap_i64]; omega
  have hw1 : IntKind.i64.wrap ((q : Int) + 1) = ((q + 1 : Nat) : Int) := by rw [IntKind.wrap_i64]; omega
  by_cases hn0 : n = 0
  · subst hn0
    have hr0 : r = 0 := by rw [← hr]; exact Nat.zero_mod d
    have hF : ceilN 0 d = q := by unfold ceilN; rw [hr, if_pos hr0, hq]
    have g0 : decide ((0 : Int) < ((0 : Nat) : Int)) = false := by simp
    have hq0 : q = 0 := by rw [← hq]; exact Nat.zero_div d
    rw [hF, hq0]
    clear hF hr hq hr0 hq0
    go_enter Tryd.func63, Tryd.ntmps63
    go_wp2
    go_ret
    exact ⟨rfl, rfl⟩
  · have g0 : decide ((0 : Int) < (n : Int)) = true := decide_eq_true (by omega)
    have g1 : decide (0 < n) = true := decide_eq_true (by omega)
    by_cases hr0 : r = 0
    · have hF : ceilN n d = q := by unfold ceilN; rw [hr, if_pos hr0, hq]
      have g2 : ((r : Int) != 0) = false := by rw [hr0]; rfl
      rw [hF]
      clear hF hr hq hr0 hn0
      go_enter Tryd.func63, Tryd.ntmps63
      go_wp2
      go_ret
      exact ⟨rfl, rfl⟩
    · have hF : ceilN n d = q + 1 := by unfold ceilN; rw [hr, if_neg hr0, hq]
      have g2 : ((r : Int) != 0) = true := by rw [bne_iff_ne]; omega
      rw [hF]
      clear hF hr hq hr0 hn0
      go_enter Tryd.func63, Tryd.ntmps63
      go_wp2
      go_ret
      exact ⟨rfl, rfl⟩

set_option maxRecDepth 10000 in
set_option maxHeartbeats 4000000 in
theorem DivideSet_any (h l : List UInt8) (k : Int) (w : World) (hh : h.length ≤ 1000000000) (hl : l.length ≤ 1000000000) (k0 : -9223372036854775808 ≤ k) (k1 : k ≤ 9223372036854775807) :
    Calls Tryd.prog 29 #[.agg #[.string (bs h), .string (bs l)], .int .i64 k] w fun e w' => e = .returned (.tuple #[.agg #[.string (bs (dvR h l k).1.1), .string (bs (dvR h l k).1.2)], .bool (dvR h l k).2]) ∧ Below w.heap.size w w' := by
  have HV := Lib.hid fun w => SetValid_any h l w hh hl
  have HS := Lib.hid (svS_parts (h := h) (l := l))
  obtain ⟨v, hv⟩ : ∃ v, svS h l = v := ⟨_, rfl⟩
  have HQ : Hid (svS h l = v) := Lib.hid hv
  rw [hv] at HV
  clear hv
  cases v with
  | false =>
    have HF : Hid (dvR h l k = (([], []), false)) := Lib.hid (by unfold dvR; rw [HQ.out]; rfl)
    go_enter Tryd.func29, Tryd.ntmps29
    go_wp2_with fail
    generalize hW0 : World.alloc w _ = W0
    obtain ⟨hx, hsx, hwx⟩ := s2_new hW0
    clear hW0
    generalize hW : World.alloc W0 _ = W1
    obtain ⟨hy, hsy, hwy⟩ := fb_new hW
    rw [hsx] at hy
    clear hW
    generalize hW : World.alloc W1 _ = W2
    obtain ⟨hz, hsz, hwz⟩ := s2_new hW
    rw [hsy, hsx] at hz
    clear hW
    have X2 := s2_on hx (below_on hwy hwz)
    have Y2 := fb_on hy hwz
    have R2 := hz
    have B2 := below_on hwx (below_on hwy hwz)
    have hne : w.heap.size ≤ w.heap.size + 1 + 1 := by omega
    clear hx hy hz hwx hwy hwz hsx hsy hsz
    refine (HV.out _).mono ?_
    rintro e w3 ⟨rfl, hb3⟩
    have X3 := s2_on X2 hb3
    have Y3 := fb_on Y2 hb3
    have R3 := s2_on R2 hb3
    have B3 := below_on B2 hb3
    clear X2 Y2 R2 B2 hb3
    obtain ⟨x0, x1, x2, x3⟩ := id X3
    obtain ⟨y0, y1⟩ := id Y3
    obtain ⟨a0, a1, a2, a3⟩ := id R3
    go_wp2
    generalize hW : World.setCell _ _ _ = W8
    obtain ⟨⟨_, r1, r2, _⟩, _, _, hb8⟩ := s2_put hW _ _ R3
    refine bodyPost_ret (v := .tuple #[.agg #[.string ⟨#[]⟩, .string ⟨#[]⟩], .bool false]) (by simp [results, Tryd.results29, go_sem, r1, r2]) rfl ⟨by rw [HF.out]; rfl, ?_⟩
    exact hb8 w B3 hne
  | true =>
    have HI := Lib.hid (isFactor_any k)
    by_cases hc : 1 ≤ k ∧ k ≤ 240
    case neg =>
      have HF : Hid (dvR h l k = (([], []), false)) := Lib.hid (by unfold dvR; rw [if_neg (by rw [HQ.out, decide_eq_false hc]; simp)])
      rw [decide_eq_false hc] at HI
      clear hc
      go_enter Tryd.func29, Tryd.ntmps29
      go_wp2_with fail
      generalize hW0 : World.alloc w _ = W0
      obtain ⟨hx, hsx, hwx⟩ := s2_new hW0
      clear hW0
      generalize hW : World.alloc W0 _ = W1
      obtain ⟨hy, hsy, hwy⟩ := fb_new hW
      rw [hsx] at hy
      clear hW
      generalize hW : World.alloc W1 _ = W2
      obtain ⟨hz, hsz, hwz⟩ := s2_new hW
      rw [hsy, hsx] at hz
      clear hW
      have X2 := s2_on hx (below_on hwy hwz)
      have Y2 := fb_on hy hwz
      have R2 := hz
      have B2 := below_on hwx (below_on hwy hwz)
      have hne : w.heap.size ≤ w.heap.size + 1 + 1 := by omega
      clear hx hy hz hwx hwy hwz hsx hsy hsz
      refine (HV.out _).mono ?_
      rintro e w3 ⟨rfl, hb3⟩
      have X3 := s2_on X2 hb3
      have Y3 := fb_on Y2 hb3
      have R3 := s2_on R2 hb3
      have B3 := below_on B2 hb3
      clear X2 Y2 R2 B2 hb3
      obtain ⟨x0, x1, x2, x3⟩ := id X3
      obtain ⟨y0, y1⟩ := id Y3
      obtain ⟨a0, a1, a2, a3⟩ := id R3
      go_wp2_with fail
      refine (HI.out _).mono ?_
      rintro e w4 ⟨rfl, rfl⟩
      go_wp2
      generalize hW : World.setCell _ _ _ = W8
      obtain ⟨⟨_, r1, r2, _⟩, _, _, hb8⟩ := s2_put hW _ _ R3
      refine bodyPost_ret (v := .tuple #[.agg #[.string ⟨#[]⟩, .string ⟨#[]⟩], .bool false]) (by simp [results, Tryd.results29, go_sem, r1, r2]) rfl ⟨by rw [HF.out]; rfl, ?_⟩
      exact hb8 w B3 hne
    rw [decide_eq_true hc] at HI
    obtain ⟨K, rfl⟩ : ∃ K : Nat, k = K := ⟨k.toNat, by omega⟩
    have hK1 : 1 ≤ K := by omega
    have hK : K ≤ 240 := by omega
    obtain ⟨q1, q2, q3, q4, q5, q6⟩ := HS.out HQ.out
    have HF : Hid (dvR h l K = resA (dvA (atS h l) K)) := Lib.hid (by unfold dvR; rw [if_pos (by rw [HQ.out, decide_eq_true hc]; rfl)]; rfl)
    obtain ⟨r, hr⟩ : ∃ r, resA (dvA (atS h l) K) = r := ⟨_, rfl⟩
    have HR := Lib.hid hr
    rw [hr] at HF
    have hs1 := bs_size h
    have hs2 := bs_size l
    have hat := per_at h l
    obtain ⟨H, hH⟩ : ∃ H, h.length = H := ⟨_, rfl⟩
    obtain ⟨L, hL⟩ : ∃ L, l.length = L := ⟨_, rfl⟩
    rw [hH, hL] at hat
    have hL1 : 1 ≤ L := by omega
    have HG := Lib.hid fun w => commonDivisor_any (L : Int) (K : Int) w (by omega) (by omega) (by omega) (by omega)
    obtain ⟨g, hg⟩ : ∃ g, Nat.gcd L K = g := ⟨_, rfl⟩
    have hg0 : 0 < g := by rw [← hg]; exact Nat.gcd_pos_of_pos_left _ hL1
    have hgg : (Int.gcd (L : Int) (K : Int)) = g := by rw [← hg]; rfl
    rw [hgg] at HG
    obtain ⟨p, hp⟩ : ∃ p, L / g = p := ⟨_, rfl⟩
    have hpL : p ≤ L := by rw [← hp]; exact Nat.div_le_self _ _
    have hp0 : 0 < p := by rw [← hp, ← hg]; exact Nat.div_pos (Nat.gcd_le_left K hL1) (by rw [hg]; exact hg0)
    have ht : (L : Int).tdiv (g : Int) = (p : Int) := by rw [tdiv_n2, hp]
    have hg1 : (g : Int) ≠ 0 := by omega
    have hg2 : g ≠ 0 := by omega
    have hwp : IntKind.i64.wrap (p : Int) = (p : Int) := by rw [IntKind.wrap_i64]; omega
    have HU := Lib.hid fun w => roundedUp_nat H K w (by omega) (by omega) (by omega)
    obtain ⟨c1, c2⟩ := ceil_le (n := H) (show 0 < K by omega)
    obtain ⟨m, hm⟩ : ∃ m, ceilN H K = m := ⟨_, rfl⟩
    rw [hm] at HU c1 c2
    have hper : PerS (dvA (atS h l) K) m p := per_dv2 hat c1 (by rw [← hp, ← hg]; exact dvd_gcd L K)
    have HSO : Hid (∀ W, S2 W w.heap.size (bs h) (bs l) → FB W (w.heap.size + 1) (.int .i64 K) → Calls Tryd.prog 51 #[.int .i64 m, .int .i64 p, .func (.func 64) #[] #[.pointer (some ⟨w.heap.size, 0, none⟩), .pointer (some ⟨w.heap.size + 1, 0, none⟩)]] W fun e w' => e = .returned (.tuple #[.agg #[.string (bs r.1.1), .string (bs r.1.2)], .bool r.2]) ∧ Below W.heap.size W w') := Lib.hid fun W s1 s2 => by
      have := setOf_seq 64 #[.pointer (some ⟨w.heap.size, 0, none⟩), .pointer (some ⟨w.heap.size + 1, 0, none⟩)] (fun n => inS (dvA (atS h l) K) n) (dvA (atS h l) K) m p W Tryd.endv hp0 (by omega) (fun n => bits_in (bits_dv (bits_at q6 q1 q2) K) n) hper
        (fun V hV j hj => divide1_any h l K j _ _ V q6 hh hl (by omega) (by omega) (s2_on s1 hV) (fb_on s2 hV))
      rw [HR.out] at this
      exact this
    rw [hH] at hs1
    rw [hL] at hs2
    clear hc k0 k1 hr q1 q2 q3 q4 q5 q6 hH hL hm hp hh hl hper hat hg hgg c1 c2
    go_enter Tryd.func29, Tryd.ntmps29
    go_wp2_with fail
    generalize hW0 : World.alloc w _ = W0
    obtain ⟨hx, hsx, hwx⟩ := s2_new hW0
    clear hW0
    generalize hW : World.alloc W0 _ = W1
    obtain ⟨hy, hsy, hwy⟩ := fb_new hW
    rw [hsx] at hy
    clear hW
    generalize hW : World.alloc W1 _ = W2
    obtain ⟨hz, hsz, hwz⟩ := s2_new hW
    rw [hsy, hsx] at hz
    clear hW
    have X2 := s2_on hx (below_on hwy hwz)
    have Y2 := fb_on hy hwz
    have R2 := hz
    have B2 := below_on hwx (below_on hwy hwz)
    have hne : w.heap.size ≤ w.heap.size + 1 + 1 := by omega
    clear hx hy hz hwx hwy hwz hsx hsy hsz
    refine (HV.out _).mono ?_
    rintro e w3 ⟨rfl, hb3⟩
    have X3 := s2_on X2 hb3
    have Y3 := fb_on Y2 hb3
    have R3 := s2_on R2 hb3
    have B3 := below_on B2 hb3
    clear X2 Y2 R2 B2 hb3
    obtain ⟨x0, x1, x2, x3⟩ := id X3
    obtain ⟨y0, y1⟩ := id Y3
    obtain ⟨a0, a1, a2, a3⟩ := id R3
    go_wp2_with fail
    refine (HI.out _).mono ?_
    rintro e w3a ⟨rfl, rfl⟩
    go_wp2_with fail
    have X := Lib.hid X3
    have Y := Lib.hid Y3
    have Rr := Lib.hid R3
    have Bb := Lib.hid B3
    clear X3 Y3 R3 B3 a0 a1 a2 a3 x0 x1 x2 x3 y0 y1
    refine wp_region_held_drew (S := (fun w' => (w'.cell? ⟨w.heap.size, 0, none⟩ = some (.string (bs h)) ∧ w'.cell? ⟨w.heap.size, 1, none⟩ = some (.string (bs l))) ∧ w'.cell? ⟨w.heap.size + 1, 0, none⟩ = some (.int .i64 K))) (by kernel_rfl) ?_ (fun hHeld => ?_)
    · try dsimp only
      exact ⟨s2_keep X.out (by go_grown), (fb_on Y.out (by go_grown)).2⟩
    refine wpAnyH_take (i := 0) (oi := { dst := some 16, op := Go.Op.fieldAddr 25 (Go.Operand.tmp 2) 1, type := 0, pos := "l7_sets.go:258", after := #[], guard := none }) (v := ?_) rfl (by kernel_rfl) (by kernel_rfl) (by kernel_rfl) (fun _ _ _ h => h) (Or.inl ⟨by rfl, ?_⟩) (by assumption) ?_
    rotate_left
    · (intro w hSw; (try dsimp only at hSw); first | (go_simp; done) | (go_simp; with_reducible rfl))
    try simp only [Act.put, List.setIfInBounds_toArray, List.set_cons_zero, List.set_cons_succ]
    refine wpAnyH_take (i := 1) (oi := { dst := some 17, op := Go.Op.load 9 (Go.Operand.tmp 16), type := 9, pos := "l7_sets.go:258", after := #[{ on := 0, ground := Go.Ground.data }], guard := none }) (v := ?_) rfl (by kernel_rfl) (by kernel_rfl) (by kernel_rfl) (fun _ _ _ h => h) (Or.inl ⟨by rfl, ?_⟩) (by assumption) ?_
    rotate_left
    · (intro w hSw; (try dsimp only at hSw); first | (go_simp; done) | (go_simp; with_reducible rfl))
    try simp only [Act.put, List.setIfInBounds_toArray, List.set_cons_zero, List.set_cons_succ]
    refine wpAnyH_take (i := 2) (oi := { dst := some 18, op := Go.Op.call { callee := Go.Callee.builtin Go.Builtin.len, args := #[Go.Operand.tmp 17], argTypes := #[9] }, type := 3, pos := "l7_sets.go:258", after := #[{ on := 1, ground := Go.Ground.data }], guard := none }) (v := ?_) rfl (by kernel_rfl) (by kernel_rfl) (by kernel_rfl) (fun _ _ _ h => h) (Or.inl ⟨by rfl, ?_⟩) (by assumption) ?_
    rotate_left
    · (intro w hSw; (try dsimp only at hSw); first | (go_simp; done) | (go_simp; with_reducible rfl))
    try simp only [Act.put, List.setIfInBounds_toArray, List.set_cons_zero, List.set_cons_succ]
    refine wpAnyH_take (i := 3) (oi := { dst := some 19, op := Go.Op.fieldAddr 25 (Go.Operand.tmp 2) 1, type := 0, pos := "l7_sets.go:258", after := #[], guard := none }) (v := ?_) rfl (by kernel_rfl) (by kernel_rfl) (by kernel_rfl) (fun _ _ _ h => h) (Or.inl ⟨by rfl, ?_⟩) (by assumption) ?_
    rotate_left
    · (intro w hSw; (try dsimp only at hSw); first | (go_simp; done) | (go_simp; with_reducible rfl))
    try simp only [Act.put, List.setIfInBounds_toArray, List.set_cons_zero, List.set_cons_succ]
    refine wpAnyH_take (i := 4) (oi := { dst := some 20, op := Go.Op.load 9 (Go.Operand.tmp 19), type := 9, pos := "l7_sets.go:258", after := #[{ on := 3, ground := Go.Ground.data }], guard := none }) (v := ?_) rfl (by kernel_rfl) (by kernel_rfl) (by kernel_rfl) (fun _ _ _ h => h) (Or.inl ⟨by rfl, ?_⟩) (by assumption) ?_
    rotate_left
    · (intro w hSw; (try dsimp only at hSw); first | (go_simp; done) | (go_simp; with_reducible rfl))
    try simp only [Act.put, List.setIfInBounds_toArray, List.set_cons_zero, List.set_cons_succ]
    refine wpAnyH_take (i := 5) (oi := { dst := some 21, op := Go.Op.call { callee := Go.Callee.builtin Go.Builtin.len, args := #[Go.Operand.tmp 20], argTypes := #[9] }, type := 3, pos := "l7_sets.go:258", after := #[{ on := 4, ground := Go.Ground.data }], guard := none }) (v := ?_) rfl (by kernel_rfl) (by kernel_rfl) (by kernel_rfl) (fun _ _ _ h => h) (Or.inl ⟨by rfl, ?_⟩) (by assumption) ?_
    rotate_left
    · (intro w hSw; (try dsimp only at hSw); first | (go_simp; done) | (go_simp; with_reducible rfl))
    try simp only [Act.put, List.setIfInBounds_toArray, List.set_cons_zero, List.set_cons_succ]
    refine wpAnyH_take (i := 6) (oi := { dst := some 22, op := Go.Op.load 3 (Go.Operand.tmp 3), type := 3, pos := "l7_sets.go:258", after := #[], guard := none }) (v := ?_) rfl (by kernel_rfl) (by kernel_rfl) (by kernel_rfl) (fun _ _ _ h => h) (Or.inl ⟨by rfl, ?_⟩) (by assumption) ?_
    rotate_left
    · (intro w hSw; (try dsimp only at hSw); first | (go_simp; done) | (go_simp; with_reducible rfl))
    try simp only [Act.put, List.setIfInBounds_toArray, List.set_cons_zero, List.set_cons_succ]
    refine wpAnyH_ready (rs := [7]) (by kernel_rfl) (by simp) ?_
    refine AllReadyH.cons (o := { dst := some 23, op := Go.Op.call { callee := Go.Callee.value (Go.Operand.func 62), args := #[Go.Operand.tmp 21, Go.Operand.tmp 22], argTypes := #[3, 3] }, type := 3, pos := "l7_sets.go:258", after := #[{ on := 5, ground := Go.Ground.data }, { on := 6, ground := Go.Ground.data }], guard := none }) rfl (fun K hK => ?_) AllReadyH.nil
    go_simp
    (go_at_call 62; refine (HG.out _).mono ?_; rintro e w5 ⟨rfl, hb5⟩; have hbW5 := below_on (w := w3) (by go_grown) hb5)
    (try go_wp2_with fail)
    refine hK.out _ _ ?_ (fun hHeld => ?_)
    · try dsimp only
      exact ⟨s2_keep X.out (by go_grown), (fb_on Y.out (by go_grown)).2⟩
    clear hK K
    try simp only [Act.put, List.setIfInBounds_toArray, List.set_cons_zero, List.set_cons_succ]
    refine wpAnyH_take (i := 8) (oi := { dst := some 24, op := Go.Op.binOp Go.BinOp.quo 3 (Go.Operand.tmp 18) (Go.Operand.tmp 23) 3, type := 3, pos := "l7_sets.go:258", after := #[{ on := 2, ground := Go.Ground.data }, { on := 7, ground := Go.Ground.data }], guard := none }) (v := ?_) rfl (by kernel_rfl) (by kernel_rfl) (by kernel_rfl) (fun _ _ _ h => h) (Or.inl ⟨by rfl, ?_⟩) (by assumption) ?_
    rotate_left
    · (intro w hSw; (try dsimp only at hSw); first | (go_simp; done) | (go_simp; with_reducible rfl))
    try simp only [Act.put, List.setIfInBounds_toArray, List.set_cons_zero, List.set_cons_succ]
    refine wpAnyH_take (i := 9) (oi := { dst := some 6, op := Go.Op.assign (Go.Operand.tmp 24), type := 3, pos := "l7_sets.go:258", after := #[{ on := 8, ground := Go.Ground.data }, { on := 7, ground := Go.Ground.chain }, { on := 0, ground := Go.Ground.phase }, { on := 1, ground := Go.Ground.phase }, { on := 2, ground := Go.Ground.phase }, { on := 3, ground := Go.Ground.phase }, { on := 4, ground := Go.Ground.phase }, { on := 5, ground := Go.Ground.phase }, { on := 6, ground := Go.Ground.phase }, { on := 7, ground := Go.Ground.phase }, { on := 8, ground := Go.Ground.phase }], guard := none }) (v := ?_) rfl (by kernel_rfl) (by kernel_rfl) (by kernel_rfl) (fun _ _ _ h => h) (Or.inl ⟨by rfl, ?_⟩) (by assumption) ?_
    rotate_left
    · (intro w hSw; (try dsimp only at hSw); first | (go_simp; done) | (go_simp; with_reducible rfl))
    try simp only [Act.put, List.setIfInBounds_toArray, List.set_cons_zero, List.set_cons_succ]
    refine wpAnyH_done (by kernel_rfl) ?_ _
    generalize hW6 : w5 = W6
    have X6 := s2_on X.out (show Below w3.heap.size w3 W6 by subst hW6; exact hbW5)
    have Y6 := fb_on Y.out (show Below w3.heap.size w3 W6 by subst hW6; exact hbW5)
    have R6 := s2_on Rr.out (show Below w3.heap.size w3 W6 by subst hW6; exact hbW5)
    have B6 := below_on Bb.out (show Below w3.heap.size w3 W6 by subst hW6; exact hbW5)
    clear hW6
    obtain ⟨x0, x1, x2, x3⟩ := id X6
    obtain ⟨y0, y1⟩ := id Y6
    go_wp2_with fail
    refine (HU.out _).mono ?_
    rintro e w7 ⟨rfl, rfl⟩
    go_wp2_with fail
    refine (HSO.out _ X6 Y6).mono ?_
    rintro e w8 ⟨rfl, hb8⟩
    have R8 := s2_on R6 hb8
    have B8 := below_on B6 hb8
    clear x0 x1 x2 x3 y0 y1
    obtain ⟨a0, a1, a2, a3⟩ := id R8
    go_wp2
    generalize hW : World.setCell _ _ _ = W8
    obtain ⟨⟨_, r1, r2, _⟩, _, _, hb8⟩ := s2_put hW _ _ R8
    refine bodyPost_ret (v := .tuple #[.agg #[.string (bs r.1.1), .string (bs r.1.2)], .bool r.2]) (by simp [results, Tryd.results29, go_sem, r1, r2]) rfl ⟨by rw [HF.out], ?_⟩
    exact hb8 w B8 hne

end Go.Proofs.YtpheihejgnlanaaDoor

/- The program's list of a set's first numbers. -/
namespace Go.Proofs.YtpheihejgnlanaaDoor
open Go.RowKit

/-- The numbers of a set below a limit. -/
def blN (a : Nat → UInt8) (n : Nat) : List Nat := (List.range n).filter (inS a)
theorem bl_keep {a : Nat → UInt8} {k : Nat} (h : inS a k = true) : blN a (k + 1) = blN a k ++ [k] := by
  simp [blN, List.range_succ, List.filter_append, h]
theorem bl_drop {a : Nat → UInt8} {k : Nat} (h : inS a k = false) : blN a (k + 1) = blN a k := by
  simp [blN, List.range_succ, List.filter_append, h]
theorem bl_len (a : Nat → UInt8) (k : Nat) : (blN a k).length ≤ k := by
  have := List.length_filter_le (inS a) (List.range k)
  simpa [blN] using this
theorem bl_mem {a : Nat → UInt8} {n x : Nat} : x ∈ blN a n ↔ x < n ∧ inS a x = true := by simp [blN]
def nV (x : Nat) : Value := .int .i64 (x : Int)
/-- The slice v is made since block B and holds the numbers L. -/
def OwnN (w : World) (B : Nat) (v : Value) (L : List Nat) : Prop := w.ownsRow B 3 1 v L.length (L.map nV)
theorem Tryd.infoInt7 : (Tryd.prog.info? 3).map (fun i => (i.zero, i.size, i.bytes)) = some (some (.int .i64 0), 1, 8) := by kernel_rfl
theorem grown_b7 {w W W' : World} {v : Value} {B e size n : Nat} {xs : List Value} (hb : Below w.heap.size w W) (hown : W.ownsRow B e size v n xs) (hB : w.heap.size ≤ B) (hg : W.grownBy W' v.ownBlock) : Below w.heap.size w W' :=
  ⟨hg.os.trans hb.os, hg.tape.trans hb.tape, hg.output.trans hb.output, Nat.le_trans hb.size hg.size, fun i hi =>
    (hg.block i (Nat.lt_of_lt_of_le hi hb.size) (fun e => by have := hown.lt i e.symm; omega)).trans (hb.block i hi)⟩
/-- Two cells of a box. -/
def w2cells (w : World) (b : Nat) (x y : ByteArray) : Prop := b < w.heap.size ∧ w.cell? ⟨b, 0, none⟩ = some (.string x) ∧ w.cell? ⟨b, 1, none⟩ = some (.string y)
theorem w2_on {W w' : World} {b : Nat} {x y : ByteArray} (h : w2cells W b x y) (hb : Below W.heap.size W w') : w2cells w' b x y :=
  ⟨Nat.lt_of_lt_of_le h.1 hb.size, ((bcell hb).1 b 0 h.1).trans h.2.1, ((bcell hb).1 b 1 h.1).trans h.2.2⟩
theorem w2_grown {W W' : World} {x : Nat} {u v : ByteArray} {z : Value} {B e size m : Nat} {xs : List Value} (h : w2cells W x u v) (hown : W.ownsRow B e size z m xs) (hB : x < B) (hg : W.grownBy W' z.ownBlock) : w2cells W' x u v := by
  have f : ∀ o, W'.cell? ⟨x, o, none⟩ = W.cell? ⟨x, o, none⟩ := fun o => World.cell?_of_block (hg.block x h.1 (fun e => by have := hown.lt x e.symm; omega))
  exact ⟨Nat.lt_of_lt_of_le h.1 hg.size, (f 0).trans h.2.1, (f 1).trans h.2.2⟩

set_option maxRecDepth 10000 in
set_option maxHeartbeats 1000000 in
theorem below_any (h l : List UInt8) (n : Nat) (w : World) (hl0 : l ≠ []) (hh : h.length ≤ 1000000000) (hl : l.length ≤ 1000000000) (hn : n ≤ 1000000) :
    Calls Tryd.prog 89 #[.agg #[.string (bs h), .string (bs l)], .int .i64 n] w fun e w' => ∃ v, e = .returned v ∧ OwnN w' w.heap.size v (blN (atS h l) n) ∧ Below w.heap.size w w' := by
  obtain ⟨i0, hi, hz0, hz1, hz2⟩ := info_parts Tryd.infoInt7
  have HH := Lib.hid fun (k : Nat) (hk : k ≤ 9223372036854775807) w => has_any h l k w hl0 hh hl hk
  obtain ⟨a, ha⟩ : ∃ a, atS h l = a := ⟨_, rfl⟩
  rw [ha] at HH
  rw [ha]
  clear ha hl0 hh hl
  go_enter Tryd.func89, Tryd.ntmps89
  go_wp2_with fail
  generalize hW : World.alloc w _ = W
  obtain ⟨hx, hsW, hw0⟩ := s2_new hW
  clear hW
  have HX0 := Lib.hid (show w2cells W w.heap.size (bs h) (bs l) from ⟨hx.1, hx.2.1, hx.2.2.1⟩)
  have HB0 := Lib.hid hw0
  clear hx hw0 hsW
  go_loopw [5, 8] (fun v i wr => ∃ k : Nat, k ≤ n ∧ i = .int .i64 k ∧ OwnN wr (w.heap.size + 1) v (blN a k) ∧ Below w.heap.size w wr ∧ w2cells wr w.heap.size (bs h) (bs l)) (fun _ i _ => n - (intOf i).toNat)
  case atStart => exact ⟨0, Nat.zero_le _, rfl, World.ownsRow_nil _ _ _ _, HB0.out, HX0.out⟩
  case round =>
    obtain ⟨k, hk, rfl, hown, hbw, hx1⟩ := hrel
    have hlen := bl_len a k
    have HO := Lib.hid hown
    have HB := Lib.hid hbw
    have HX := Lib.hid hx1
    clear hown hbw
    by_cases hkn : k < n
    · have hk' : (k : Int) < (n : Int) := by omega
      have hwk : IntKind.i64.wrap ((k : Int) + 1) = ((k + 1 : Nat) : Int) := by rw [IntKind.wrap_i64]; omega
      obtain ⟨x0, x1, x2⟩ := hx1
      obtain ⟨b, hb⟩ : ∃ b, inS a k = b := ⟨_, rfl⟩
      have HC := Lib.hid (HH.out k (by omega))
      rw [hb] at HC
      have HS := Lib.hid hb
      clear hb
      go_wp2_with fail
      refine (HC.out _).mono ?_
      rintro e w1 ⟨rfl, hb1⟩
      have hown1 := own_below (show wr.ownsRow (w.heap.size + 1) 3 1 _ (blN a k).length ((blN a k).map nV) from HO.out) hb1
      have HX1 := Lib.hid (w2_on HX.out hb1)
      have HB1 := Lib.hid (below_on HB.out hb1)
      have hsz2 : w.heap.size < w1.heap.size := HX1.out.1
      cases b with
      | false =>
        have HN := Lib.hid (show OwnN w1 (w.heap.size + 1) _ (blN a (k + 1)) by rw [bl_drop HS.out]; exact hown1)
        clear hown1 x0 x1 x2
        go_wp2
        go_roundw
        case rel => exact ⟨k + 1, by omega, rfl, HN.out, HB1.out, HX1.out⟩
        case measure => simp [intOf]; omega
      | true =>
        have HK := Lib.hid (bl_keep HS.out)
        clear x0 x1 x2
        go_wp2_with (at_builtin; refine wpList_append_own _ rfl _ _ 74 rfl (w.heap.size + 1) 3 i0 (.int .i64 0) 1 8 Tryd.underlying74 hi hz0 hz1 hz2 rfl (by decide) _ _ _ rfl (hown1.alloc _) ⟨w1.heap.size, 0, none⟩ 1 1 [nV k] rfl rfl ?c1 ?c2 ?c3 ?c4 ?c5 ?_)
        case c1 =>
          intro j u hj
          match j, hj with
          | 0, hj => simp at hj; subst hj; simp [Addr.add, nV]
        case c2 => intro u hu; simp at hu; subst hu; rfl
        case c3 => unfold maxLen; omega
        case c4 => omega
        case c5 => simp; omega
        · intro v' w2 hown2 hgrow _
          have hbA : Below w1.heap.size w1 (w1.alloc (.cells #[nV k] 3)) := by go_grown
          have HN : Hid (OwnN w2 (w.heap.size + 1) v' (blN a (k + 1))) := by
            show w2.ownsRow _ _ _ _ _ _
            rw [HK.out]
            simpa using hown2
          have HB2 : Hid (Below w.heap.size w w2) := grown_b7 (below_on HB1.out hbA) (own_below hown1 hbA) (by omega) hgrow
          have HX2 : Hid (w2cells w2 w.heap.size (bs h) (bs l)) := w2_grown (w2_on HX1.out hbA) (own_below hown1 hbA) (by omega) hgrow
          clear hown1 hown2 hgrow hbA
          go_wp2
          go_roundw
          case rel => exact ⟨k + 1, by omega, rfl, HN.out, HB2.out, HX2.out⟩
          case measure => simp [intOf]; omega
    · have hk' : ¬ (k : Int) < (n : Int) := by omega
      obtain rfl : k = n := by omega
      clear hx1
      go_wp2
      go_ret
      exact ⟨_, rfl, own_mono HO.out (Nat.le_succ _), HB.out⟩
end Go.Proofs.YtpheihejgnlanaaDoor

/- The program's sums below a limit. -/
namespace Go.Proofs.YtpheihejgnlanaaDoor
open Go.RowKit

/-- A list of numbers that lies from block B on. -/
def RdN (W : World) (B : Nat) (sp : Option Addr) (L : List Nat) : Prop := L.length = 0 ∨ ∃ g, sp = some ⟨g, 0, none⟩ ∧ B ≤ g ∧ g < W.heap.size ∧ ∀ (i : Nat) x, L[i]? = some x → W.cell? ⟨g, i, none⟩ = some (.int .i64 (x : Int))
theorem own_rd {w : World} {B : Nat} {v : Value} {L : List Nat} (h : OwnN w B v L) : ∃ sp cap, v = .slice sp L.length cap ∧ L.length ≤ cap ∧ cap ≤ maxLen ∧ RdN w B sp L := by
  have h' : w.ownsRow B 3 1 v L.length (L.map nV) := h
  obtain ⟨_, hv | ⟨g, cap, cur, hv, hB, hg, hn, hc, _, _⟩⟩ := h'
  · exact ⟨none, 0, by rw [hv.1, hv.2], by omega, by unfold maxLen; omega, .inl hv.2⟩
  · refine ⟨_, cap, hv, hn, hc, ?_⟩
    rcases Nat.eq_zero_or_pos L.length with h0 | h0
    · exact .inl h0
    · refine .inr ⟨g, rfl, hB, ?_, fun i x hx => ?_⟩
      · rcases Nat.lt_or_ge g w.heap.size with q | q
        · exact q
        · rw [Array.getElem?_eq_none q] at hg; cases hg
      · subst hv
        have hi := (List.getElem?_eq_some_iff.1 hx).1
        have := World.ownsRow.cellAt (show w.ownsRow B 3 1 (.slice (some ⟨g, 0, none⟩) L.length cap) L.length (L.map nV) from h) i (by omega)
        rw [this, List.getElem?_map, hx]
        rfl
theorem rdn_on {W w' : World} {B : Nat} {sp : Option Addr} {L : List Nat} (h : RdN W B sp L) (hb : Below W.heap.size W w') : RdN w' B sp L := by
  rcases h with h0 | ⟨g, e, hB, hg, hc⟩
  · exact .inl h0
  · exact .inr ⟨g, e, hB, Nat.lt_of_lt_of_le hg hb.size, fun i x hx => ((bcell hb).1 g i hg).trans (hc i x hx)⟩
theorem rdn_set {W : World} {B b j : Nat} {sp : Option Addr} {L : List Nat} {v : Value} (h : RdN W B sp L) (hb : b < B) : RdN (W.setCell ⟨b, j, none⟩ v) B sp L := by
  rcases h with h0 | ⟨g, e, hB, hg, hc⟩
  · exact .inl h0
  · exact .inr ⟨g, e, hB, by simpa [World.setCell] using hg, fun i x hx => by rw [World.cell?_setCell_far _ _ _ _ (by show b ≠ g; omega)]; exact hc i x hx⟩
/-- A row of bools. -/
def SB (W : World) (b : Nat) (g : Nat → Bool) (m : Nat) : Prop := ∃ c, W.heap[b]? = some (.cells c 4 (0, 0)) ∧ c.size = m ∧ ∀ i, i < m → c[i]? = some (.bool (g i))
theorem sb_on {W w' : World} {b m : Nat} {g : Nat → Bool} (h : SB W b g m) (hb : Below W.heap.size W w') : SB w' b g m := by
  obtain ⟨c, h1, h2, h3⟩ := h
  exact ⟨c, row_on h1 hb, h2, h3⟩
theorem sb_lt {W : World} {b m : Nat} {g : Nat → Bool} (h : SB W b g m) : b < W.heap.size := by
  obtain ⟨c, h1, _⟩ := h
  rcases Nat.lt_or_ge b W.heap.size with q | q
  · exact q
  · rw [Array.getElem?_eq_none q] at h1; cases h1
theorem sb_cell {W : World} {b m j : Nat} {g : Nat → Bool} (h : SB W b g m) (hj : j < m) : W.cell? ⟨b, j, none⟩ = some (.bool (g j)) ∧ W.frozen? ⟨b, j, none⟩ = false := by
  obtain ⟨c, h1, h2, h3⟩ := h
  exact ⟨by rw [cell_of_row _ _ _ _ _ _ h1]; exact h3 j hj, frozen_of_row _ _ _ _ _ h1⟩
theorem sb_put {W : World} {b m j : Nat} {g : Nat → Bool} (h : SB W b g m) (hj : j < m) : SB (W.setCell ⟨b, j, none⟩ (.bool true)) b (fun i => g i || decide (i = j)) m := by
  obtain ⟨c, h1, h2, h3⟩ := h
  refine ⟨_, heap_setCell_same _ _ _ _ _ _ h1, by simpa using h2, fun i hi => ?_⟩
  by_cases e : i = j
  · subst e
    rw [Array.getElem?_setIfInBounds_self_of_lt (by omega)]
    simp
  · rw [Array.getElem?_setIfInBounds_ne (by omega), h3 i hi]
    simp [e]
theorem sb_as {W : World} {b m : Nat} {g g' : Nat → Bool} (h : SB W b g m) (e : ∀ n, n < m → g n = g' n) : SB W b g' m := by
  obtain ⟨c, h1, h2, h3⟩ := h
  exact ⟨c, h1, h2, fun i hi => by rw [h3 i hi, e i hi]⟩
theorem sb_new (m : Nat) (hm : m ≤ 100000000) : ∃ M : Array Value, (∀ W, (Instr.makeSlice 58 (.int .i64 m) (.int .i64 m)).run Tryd.prog W = .ok (.slice (some ⟨W.heap.size, 0, none⟩) m m) (W.alloc (.cells M 4))) ∧ M.size = m ∧ ∀ i, i < m → M[i]? = some (.bool false) := by
  obtain ⟨i0, hi, hz0, hz1, hz2⟩ := info_parts (P := Tryd.prog) (e := 4) (z := .bool false) (size := 1) (bytes := 1) (by kernel_rfl)
  refine ⟨madeCells (Value.bool false).cells (((m : Nat) : Int).toNat * i0.size), fun W => ?_, by rw [size_madeCells, hz1]; simp, fun i hi => ?_⟩
  · have h := run_make (P := Tryd.prog) W 58 4 i0 (.bool false) Tryd.underlying58 hi hz0 .i64 .i64 (m : Int) (m : Int) (by omega) (by omega) (by rw [hz2]; omega) (by omega)
    simpa using h
  · rw [hz1]
    simp [madeCells, Value.cells, hi, Nat.mod_one]

/-- What is told so far. -/
def gO (L1 L2 : List Nat) (k n : Nat) : Bool := (L1.take k).any fun x => L2.any fun y => decide (x + y = n)
def gI (L1 L2 : List Nat) (k x j n : Nat) : Bool := gO L1 L2 k n || (L2.take j).any fun y => decide (x + y = n)
theorem gI_zero (L1 L2 : List Nat) (k x n : Nat) : gI L1 L2 k x 0 n = gO L1 L2 k n := by unfold gI; simp
theorem gI_put {L1 L2 : List Nat} {k x j y n : Nat} (hy : L2[j]? = some y) : (gI L1 L2 k x j n || decide (n = x + y)) = gI L1 L2 k x (j + 1) n := by
  unfold gI
  rw [List.take_add_one, hy, Bool.or_assoc]
  congr 1
  simp [List.any_append]
  congr 1
  rw [decide_eq_decide]
  exact eq_comm
theorem gO_next {L1 L2 : List Nat} {k x n : Nat} (hx : L1[k]? = some x) : gO L1 L2 (k + 1) n = (gO L1 L2 k n || L2.any fun y => decide (x + y = n)) := by
  unfold gO
  rw [List.take_add_one, hx]
  simp [List.any_append]
theorem gI_all {L1 L2 : List Nat} {k x n : Nat} (hx : L1[k]? = some x) : gI L1 L2 k x L2.length n = gO L1 L2 (k + 1) n := by
  rw [gO_next hx]
  unfold gI
  rw [List.take_length]
theorem gI_stop {L1 : List Nat} {a : Nat → UInt8} {m k x j y n lim : Nat} (hx : L1[k]? = some x) (hy : (blN a m)[j]? = some y) (hs : lim ≤ x + y) (hn : n < lim) : gI L1 (blN a m) k x j n = gO L1 (blN a m) (k + 1) n := by
  rw [gO_next hx]
  unfold gI
  congr 1
  rw [Bool.eq_iff_iff, List.any_eq_true, List.any_eq_true]
  constructor
  · rintro ⟨z, hz, h⟩
    exact ⟨z, List.mem_of_mem_take hz, h⟩
  · rintro ⟨z, hz, h⟩
    refine ⟨z, ?_, h⟩
    have hzn : x + z = n := by simpa using h
    obtain ⟨i, hi, e⟩ := List.mem_iff_getElem.1 hz
    have hjl := (List.getElem?_eq_some_iff.1 hy).1
    have hji : i < j := by
      rcases Nat.lt_or_ge i j with q | q
      · exact q
      · exfalso
        have hp : (blN a m).Pairwise (· < ·) := List.Pairwise.filter _ List.pairwise_lt_range
        have hyz : y ≤ z := by
          rcases Nat.eq_or_lt_of_le q with q2 | q2
          · subst q2
            rw [List.getElem?_eq_getElem hi] at hy
            have := Option.some.inj hy
            omega
          · have := List.pairwise_iff_getElem.1 hp j i hjl hi q2
            have hy2 := (List.getElem?_eq_some_iff.1 hy).2
            omega
        omega
    rw [← e]
    exact List.mem_take_iff_getElem.2 ⟨i, by omega, rfl⟩
theorem gO_sum {a b : Nat → UInt8} {lim n : Nat} (hn : n < lim) : gO (blN a lim) (blN b lim) (blN a lim).length n = sumB a b n := by
  unfold gO
  rw [List.take_length, Bool.eq_iff_iff, List.any_eq_true, sumB_iff]
  constructor
  · rintro ⟨x, hx, h⟩
    obtain ⟨y, hy, h2⟩ := List.any_eq_true.1 h
    exact ⟨x, y, by simpa using h2, (bl_mem.1 hx).2, (bl_mem.1 hy).2⟩
  · rintro ⟨x, y, e, h1, h2⟩
    exact ⟨x, bl_mem.2 ⟨by omega, h1⟩, List.any_eq_true.2 ⟨y, bl_mem.2 ⟨by omega, h2⟩, by simpa using e⟩⟩
end Go.Proofs.YtpheihejgnlanaaDoor

/- The program's sumsBelow. -/
namespace Go.Proofs.YtpheihejgnlanaaDoor
open Go.RowKit

set_option maxRecDepth 10000 in
set_option maxHeartbeats 4000000 in
theorem sumsBelow_any (h l h' l' : List UInt8) (lim : Nat) (w : World) (hl0 : l ≠ []) (hl0' : l' ≠ []) (hh : h.length ≤ 1000000000) (hl : l.length ≤ 1000000000) (hh' : h'.length ≤ 1000000000) (hl' : l'.length ≤ 1000000000) (hn : lim ≤ 1000000) :
    Calls Tryd.prog 66 #[.agg #[.string (bs h), .string (bs l)], .agg #[.string (bs h'), .string (bs l')], .int .i64 lim] w fun e w' => ∃ b, e = .returned (.slice (some ⟨b, 0, none⟩) lim lim) ∧ SB w' b (sumB (atS h l) (atS h' l')) lim ∧ Below w.heap.size w w' := by
  have H1 := Lib.hid fun w => below_any h l lim w hl0 hh hl hn
  have H2 := Lib.hid fun w => below_any h' l' lim w hl0' hh' hl' hn
  obtain ⟨a, ha⟩ : ∃ a, atS h l = a := ⟨_, rfl⟩
  obtain ⟨a', ha'⟩ : ∃ a, atS h' l' = a := ⟨_, rfl⟩
  rw [ha] at H1
  rw [ha'] at H2
  rw [ha, ha']
  obtain ⟨M, hmk, hMs, hMc⟩ := sb_new lim (by omega)
  clear ha ha' hl0 hl0' hh hl hh' hl'
  go_enter Tryd.func66, Tryd.ntmps66
  go_wp2_with fail
  generalize hW0 : World.alloc w _ = W0
  obtain ⟨hx, hsx, hwx⟩ := s2_new hW0
  clear hW0
  generalize hW : World.alloc W0 _ = W1
  obtain ⟨hz, hsz, hwz⟩ := s2_new hW
  rw [hsx] at hz
  clear hW
  generalize hW : World.alloc W1 _ = W2
  obtain ⟨hr, hsr, hwr⟩ := heap_last hW
  rw [hsz, hsx] at hr
  clear hW
  have X2 := s2_on hx (below_on hwz hwr)
  have Z2 := s2_on hz hwr
  have R2 : SB W2 (w.heap.size + 1 + 1) (fun _ => false) lim := ⟨M, hr, hMs, hMc⟩
  have B2 := below_on hwx (below_on hwz hwr)
  have S2s : W2.heap.size = w.heap.size + 1 + 1 + 1 := by omega
  clear hx hz hr hwx hwz hwr hsx hsz hsr hmk hMs hMc
  obtain ⟨x0, x1, x2, x3⟩ := id X2
  obtain ⟨z0, z1, z2, z3⟩ := id Z2
  refine (H2.out _).mono ?_
  rintro e w3 ⟨v3, rfl, ho3, hb3⟩
  obtain ⟨sp3, c3, rfl, hc3, hm3, hrd3⟩ := own_rd ho3
  have X3 := s2_on X2 hb3
  have R3 := sb_on R2 hb3
  have B3 := below_on B2 hb3
  have S3s := hb3.size
  clear x0 x1 x2 x3 z0 z1 z2 z3 X2 Z2 R2 B2 hb3 ho3
  obtain ⟨x0, x1, x2, x3⟩ := id X3
  go_wp2_with fail
  refine (H1.out _).mono ?_
  rintro e w4 ⟨v4, rfl, ho4, hb4⟩
  obtain ⟨sp4, c4, rfl, hc4, hm4, hrd4⟩ := own_rd ho4
  have RD3 := Lib.hid (rdn_on hrd3 hb4)
  have RD4 := Lib.hid hrd4
  have R4 := Lib.hid (sb_on R3 hb4)
  have B4 := Lib.hid (below_on B3 hb4)
  have hB3 : w.heap.size + 1 + 1 < W2.heap.size := by omega
  have hB4 : w.heap.size + 1 + 1 < w3.heap.size := by omega
  obtain ⟨n1, hn1⟩ : ∃ n, (blN a lim).length = n := ⟨_, rfl⟩
  obtain ⟨n2, hn2⟩ : ∃ n, (blN a' lim).length = n := ⟨_, rfl⟩
  have HN1 := Lib.hid hn1
  have HN2 := Lib.hid hn2
  have hnb1 : n1 ≤ 1000000 := by have := bl_len a lim; omega
  have hnb2 : n2 ≤ 1000000 := by have := bl_len a' lim; omega
  rw [hn1] at hc4 ⊢
  rw [hn2] at hc3 ⊢
  clear x0 x1 x2 x3 X3 R3 B3 hrd3 hrd4 ho4 hb4 hn1 hn2 S2s S3s
  go_wp2_with fail
  go_loopw [22] (fun i wr => ∃ k : Nat, i = .int .i64 k ∧ k ≤ n1 ∧ SB wr (w.heap.size + 1 + 1) (gO (blN a lim) (blN a' lim) k) lim ∧ RdN wr W2.heap.size sp3 (blN a' lim) ∧ RdN wr w3.heap.size sp4 (blN a lim) ∧ Below w.heap.size w wr) (fun i _ => n1 - (intOf i).toNat)
  case atStart => exact ⟨0, rfl, Nat.zero_le _, sb_as R4.out (fun n _ => by simp [gO]), RD3.out, RD4.out, B4.out⟩
  case round =>
    obtain ⟨k, rfl, hk, hsb, hr3, hr4, hb⟩ := hrel
    have HSB := Lib.hid hsb
    have HR3 := Lib.hid hr3
    have HR4 := Lib.hid hr4
    have HBB := Lib.hid hb
    clear hsb hr3 hb
    by_cases hkn : k < n1
    · have hk' : (k : Int) < (n1 : Int) := by omega
      have hwk : IntKind.i64.wrap ((k : Int) + 1) = ((k + 1 : Nat) : Int) := by rw [IntKind.wrap_i64]; omega
      obtain ⟨x, hx⟩ : ∃ x, (blN a lim)[k]? = some x := ⟨_, List.getElem?_eq_getElem (by rw [HN1.out]; exact hkn)⟩
      have HX := Lib.hid hx
      have hxl : x < lim := (bl_mem.1 (List.mem_of_getElem? hx)).1
      obtain ⟨g4, rfl, hg4, hgs4, hgc4⟩ := hr4.resolve_left (by rw [HN1.out]; omega)
      have hcx := hgc4 k x hx
      clear hr4 hx hgc4
      go_wp2_with fail
      go_loopw [28] (fun i wx => ∃ j : Nat, i = .int .i64 j ∧ j ≤ n2 ∧ SB wx (w.heap.size + 1 + 1) (gI (blN a lim) (blN a' lim) k x j) lim ∧ RdN wx W2.heap.size sp3 (blN a' lim) ∧ RdN wx w3.heap.size (some ⟨g4, 0, none⟩) (blN a lim) ∧ Below w.heap.size w wx) (fun i _ => n2 - (intOf i).toNat)
      case atStart => exact ⟨0, rfl, Nat.zero_le _, sb_as HSB.out (fun n _ => (gI_zero _ _ _ _ _).symm), HR3.out, HR4.out, HBB.out⟩
      case round =>
        obtain ⟨j, rfl, hj, hsb, hr3, hr4, hb⟩ := hrel
        rename World => wx
        have HSB2 := Lib.hid hsb
        have HR32 := Lib.hid hr3
        have HR42 := Lib.hid hr4
        have HBB2 := Lib.hid hb
        clear hr4 hb hcx
        by_cases hjn : j < n2
        · have hj' : (j : Int) < (n2 : Int) := by omega
          have hwj : IntKind.i64.wrap ((j : Int) + 1) = ((j + 1 : Nat) : Int) := by rw [IntKind.wrap_i64]; omega
          obtain ⟨y, hy⟩ : ∃ y, (blN a' lim)[j]? = some y := ⟨_, List.getElem?_eq_getElem (by rw [HN2.out]; exact hjn)⟩
          have HY := Lib.hid hy
          have hyl : y < lim := (bl_mem.1 (List.mem_of_getElem? hy)).1
          obtain ⟨g3, hg3e, hg3, hgs3, hgc3⟩ := hr3.resolve_left (by rw [HN2.out]; omega)
          have hcy := hgc3 j y hy
          obtain ⟨r, hr⟩ : ∃ r, x + y = r := ⟨_, rfl⟩
          have hwr : IntKind.i64.wrap ((x : Int) + (y : Int)) = (r : Int) := by rw [IntKind.wrap_i64]; omega
          by_cases hs : lim ≤ r
          · have hs' : decide ((lim : Int) ≤ (r : Int)) = true := decide_eq_true (by omega)
            have hs2 : decide (lim ≤ r) = true := decide_eq_true hs
            have HN : Hid (SB wx (w.heap.size + 1 + 1) (gO (blN a lim) (blN a' lim) (k + 1)) lim) := Lib.hid (sb_as HSB2.out fun n q => gI_stop HX.out HY.out (by omega) q)
            clear hsb hr3 hy hgc3 hr hs
            subst hg3e
            go_wp2
            go_roundw
            case rel => exact ⟨k + 1, rfl, by omega, HN.out, HR32.out, HR42.out, HBB2.out⟩
            case measure => simp [intOf]; omega
          · have hs' : decide ((lim : Int) ≤ (r : Int)) = false := decide_eq_false (by omega)
            have hs2 : decide (lim ≤ r) = false := decide_eq_false hs
            have hrl : r < lim := by omega
            have hrl' : (r : Int) < (lim : Int) := by omega
            obtain ⟨hc0, hf0⟩ := sb_cell hsb hrl
            have HN : Hid (SB (wx.setCell ⟨w.heap.size + 1 + 1, r, none⟩ (.bool true)) (w.heap.size + 1 + 1) (gI (blN a lim) (blN a' lim) k x (j + 1)) lim) := Lib.hid (sb_as (sb_put hsb hrl) fun n _ => by rw [← hr]; exact gI_put HY.out)
            clear hsb hr3 hy hgc3 hr hs
            subst hg3e
            go_wp2
            go_roundw
            case rel => exact ⟨j + 1, rfl, by omega, HN.out, rdn_set HR32.out hB3, rdn_set HR42.out hB4, HBB2.out.setCell (by show w.heap.size ≤ w.heap.size + 1 + 1; omega) _⟩
            case measure => simp [intOf]; omega
        · have hj' : ¬ (j : Int) < (n2 : Int) := by omega
          obtain rfl : j = n2 := by omega
          have HN : Hid (SB wx (w.heap.size + 1 + 1) (gO (blN a lim) (blN a' lim) (k + 1)) lim) := Lib.hid (sb_as HSB2.out fun n _ => by rw [← HN2.out]; exact gI_all HX.out)
          clear hsb hr3
          go_wp2
          go_roundw
          case rel => exact ⟨k + 1, rfl, by omega, HN.out, HR32.out, HR42.out, HBB2.out⟩
          case measure => simp [intOf]; omega
    · have hk' : ¬ (k : Int) < (n1 : Int) := by omega
      obtain rfl : k = n1 := by omega
      have HN : Hid (SB wr (w.heap.size + 1 + 1) (sumB a a') lim) := Lib.hid (sb_as HSB.out fun n q => by rw [← HN1.out]; exact gO_sum q)
      clear hr4
      go_wp2
      go_ret
      exact ⟨_, rfl, HN.out, HBB.out⟩
end Go.Proofs.YtpheihejgnlanaaDoor

/- SumSets of the program. -/
namespace Go.Proofs.YtpheihejgnlanaaDoor
open Go.RowKit

/-- What SumSets answers. -/
noncomputable def smR (h l h' l' : List UInt8) : (List UInt8 × List UInt8) × Bool := if ((svS h l && svS h' l') && decide (l.length * l'.length ≤ 400)) = true then resA (smA (atS h l) (atS h' l')) else (([], []), false)
theorem Tryd.ensm : EnF 67 := fun _ _ => by kernel_rfl

set_option maxHeartbeats 1000000 in
theorem sum1_any (f : Nat → Bool) (lim n c b : Nat) (w : World) (hn : n < lim) (_ : lim ≤ 1000000) (h0 : FB w c (.slice (some ⟨b, 0, none⟩) lim lim)) (h1 : SB w b f lim) :
    Calls Tryd.prog 67 #[.int .i64 n, .pointer (some ⟨c, 0, none⟩)] w fun e w' => e = .returned (.bool (f n)) ∧ Below w.heap.size w w' := by
  obtain ⟨u1, u2⟩ := h0
  obtain ⟨c0, f0⟩ := sb_cell h1 hn
  have hn' : (n : Int) < (lim : Int) := by omega
  obtain ⟨q, hq⟩ : ∃ q, f n = q := ⟨_, rfl⟩
  rw [hq] at c0
  rw [hq]
  clear hq h1
  go_enter Tryd.func67, Tryd.ntmps67
  go_wp2
  go_ret
  exact ⟨rfl, Below.refl _ _⟩

theorem sm_per {h l h' l' : List UInt8} (hl : l ≠ []) (hl' : l' ≠ []) : 0 < lcL2 l l' ∧ PerS (smA (atS h l) (atS h' l')) (h.length + h'.length + lcL2 l l') (lcL2 l l') := by
  have p1 : 0 < l.length := List.length_pos_iff.2 hl
  have p2 : 0 < l'.length := List.length_pos_iff.2 hl'
  obtain ⟨d1, d2⟩ := lcm_both l.length l'.length
  exact ⟨lcm_pos p1 p2, per_sm2 (per_lcm (per_at h l) d1) (per_lcm (per_at h' l') d2)⟩

set_option maxRecDepth 10000 in
set_option maxHeartbeats 4000000 in
theorem SumSets_any (h l h' l' : List UInt8) (w : World) (hh : h.length ≤ 1000000000) (hl : l.length ≤ 1000000000) (hh' : h'.length ≤ 1000000000) (hl' : l'.length ≤ 1000000000) :
    Calls Tryd.prog 31 #[.agg #[.string (bs h), .string (bs l)], .agg #[.string (bs h'), .string (bs l')]] w fun e w' => e = .returned (.tuple #[.agg #[.string (bs (smR h l h' l').1.1), .string (bs (smR h l h' l').1.2)], .bool (smR h l h' l').2]) ∧ Below w.heap.size w w' := by
  have HV := Lib.hid fun w => SetValid_any h l w hh hl
  have HV2 := Lib.hid fun w => SetValid_any h' l' w hh' hl'
  have HS := Lib.hid (svS_parts (h := h) (l := l))
  have HS2 := Lib.hid (svS_parts (h := h') (l := l'))
  obtain ⟨v, hv⟩ : ∃ v, svS h l = v := ⟨_, rfl⟩
  obtain ⟨v2, hv2⟩ : ∃ v, svS h' l' = v := ⟨_, rfl⟩
  have HQ : Hid (svS h l = v) := Lib.hid hv
  have HQ2 : Hid (svS h' l' = v2) := Lib.hid hv2
  rw [hv] at HV
  rw [hv2] at HV2
  clear hv hv2
  cases v with
  | false =>
    have HF : Hid (smR h l h' l' = (([], []), false)) := Lib.hid (by unfold smR; rw [HQ.out]; rfl)
    go_enter Tryd.func31, Tryd.ntmps31
    go_wp2_with fail
    generalize hW0 : World.alloc w _ = W0
    obtain ⟨hx, hsx, hwx⟩ := s2_new hW0
    clear hW0
    generalize hW : World.alloc W0 _ = W1
    obtain ⟨hz, hsz, hwz⟩ := s2_new hW
    rw [hsx] at hz
    clear hW
    generalize hW : World.alloc W1 _ = W2
    obtain ⟨hr, hsr, hwr⟩ := s2_new hW
    rw [hsz, hsx] at hr
    clear hW
    have X1 := s2_on hx (below_on hwz hwr)
    have Z1 := s2_on hz hwr
    have B1 := below_on hwx (below_on hwz hwr)
    have hne : w.heap.size ≤ w.heap.size + 1 + 1 := by omega
    clear hx hz hwx hwz hwr hsx hsz hsr
    refine (HV.out _).mono ?_
    rintro e w3 ⟨rfl, hb3⟩
    have X3 := s2_on X1 hb3
    have Z3 := s2_on Z1 hb3
    have R3 := s2_on hr hb3
    have B3 := below_on B1 hb3
    clear X1 Z1 hr B1 hb3
    obtain ⟨x0, x1, x2, x3⟩ := id X3
    obtain ⟨z0, z1, z2, z3⟩ := id Z3
    obtain ⟨a0, a1, a2, a3⟩ := id R3
    go_wp2
    generalize hW : World.setCell _ _ _ = W8
    obtain ⟨⟨_, r1, r2, _⟩, _, _, hb8⟩ := s2_put hW _ _ R3
    refine bodyPost_ret (v := .tuple #[.agg #[.string ⟨#[]⟩, .string ⟨#[]⟩], .bool false]) (by simp [results, Tryd.results31, go_sem, r1, r2]) rfl ⟨by rw [HF.out]; rfl, ?_⟩
    exact hb8 w B3 hne
  | true =>
    cases v2 with
    | false =>
      have HF : Hid (smR h l h' l' = (([], []), false)) := Lib.hid (by unfold smR; rw [HQ.out, HQ2.out]; rfl)
      go_enter Tryd.func31, Tryd.ntmps31
      go_wp2_with fail
      generalize hW0 : World.alloc w _ = W0
      obtain ⟨hx, hsx, hwx⟩ := s2_new hW0
      clear hW0
      generalize hW : World.alloc W0 _ = W1
      obtain ⟨hz, hsz, hwz⟩ := s2_new hW
      rw [hsx] at hz
      clear hW
      generalize hW : World.alloc W1 _ = W2
      obtain ⟨hr, hsr, hwr⟩ := s2_new hW
      rw [hsz, hsx] at hr
      clear hW
      have X1 := s2_on hx (below_on hwz hwr)
      have Z1 := s2_on hz hwr
      have B1 := below_on hwx (below_on hwz hwr)
      have hne : w.heap.size ≤ w.heap.size + 1 + 1 := by omega
      clear hx hz hwx hwz hwr hsx hsz hsr
      refine (HV.out _).mono ?_
      rintro e w3 ⟨rfl, hb3⟩
      have X3 := s2_on X1 hb3
      have Z3 := s2_on Z1 hb3
      have R3 := s2_on hr hb3
      have B3 := below_on B1 hb3
      clear X1 Z1 hr B1 hb3
      obtain ⟨x0, x1, x2, x3⟩ := id X3
      obtain ⟨z0, z1, z2, z3⟩ := id Z3
      obtain ⟨a0, a1, a2, a3⟩ := id R3
      go_wp2_with fail
      refine (HV2.out _).mono ?_
      rintro e w4 ⟨rfl, hb4⟩
      have X4 := s2_on X3 hb4
      have Z4 := s2_on Z3 hb4
      have R4 := s2_on R3 hb4
      have B4 := below_on B3 hb4
      clear X3 Z3 R3 B3 hb4 x0 x1 x2 x3 z0 z1 z2 z3 a0 a1 a2 a3
      obtain ⟨x0, x1, x2, x3⟩ := id X4
      obtain ⟨z0, z1, z2, z3⟩ := id Z4
      obtain ⟨a0, a1, a2, a3⟩ := id R4
      go_wp2
      generalize hW : World.setCell _ _ _ = W8
      obtain ⟨⟨_, r1, r2, _⟩, _, _, hb8⟩ := s2_put hW _ _ R4
      refine bodyPost_ret (v := .tuple #[.agg #[.string ⟨#[]⟩, .string ⟨#[]⟩], .bool false]) (by simp [results, Tryd.results31, go_sem, r1, r2]) rfl ⟨by rw [HF.out]; rfl, ?_⟩
      exact hb8 w B4 hne
    | true =>
      obtain ⟨q1, q2, q3, q4, q5, q6⟩ := HS.out HQ.out
      obtain ⟨p1, p2, p3, p4, p5, p6⟩ := HS2.out HQ2.out
      have hs1 := bs_size h
      have hs2 := bs_size h'
      have hs3 := bs_size l
      have hs4 := bs_size l'
      obtain ⟨H, hH⟩ : ∃ k, h.length = k := ⟨_, rfl⟩
      obtain ⟨H', hH'⟩ : ∃ k, h'.length = k := ⟨_, rfl⟩
      obtain ⟨L, hL⟩ : ∃ k, l.length = k := ⟨_, rfl⟩
      obtain ⟨L', hL'⟩ : ∃ k, l'.length = k := ⟨_, rfl⟩
      obtain ⟨pr, hpr⟩ : ∃ k, L * L' = k := ⟨_, rfl⟩
      have hpi : (L : Int) * (L' : Int) = (pr : Int) := by rw [← hpr]; exact (Int.natCast_mul L L').symm
      have hpb : pr ≤ 57600 := by rw [← hpr]; exact Nat.le_trans (Nat.mul_le_mul (show L ≤ 240 by omega) (show L' ≤ 240 by omega)) (by omega)
      have hwp : IntKind.i64.wrap (pr : Int) = (pr : Int) := by rw [IntKind.wrap_i64]; omega
      by_cases hbig : 400 < pr
      · have hd : decide ((400 : Int) < (pr : Int)) = true := decide_eq_true (by omega)
        have hd2 : decide (400 < pr) = true := decide_eq_true hbig
        have HF : Hid (smR h l h' l' = (([], []), false)) := Lib.hid (by unfold smR; rw [hL, hL', hpr, decide_eq_false (show ¬ pr ≤ 400 by omega), Bool.and_false]; rfl)
        rw [hH] at hs1
        rw [hH'] at hs2
        rw [hL] at hs3
        rw [hL'] at hs4
        clear q1 q2 q3 q4 q5 q6 p1 p2 p3 p4 p5 p6 hH hH' hL hL' hpr hpb hbig hh hl hh' hl'
        go_enter Tryd.func31, Tryd.ntmps31
        go_wp2_with fail
        generalize hW0 : World.alloc w _ = W0
        obtain ⟨hx, hsx, hwx⟩ := s2_new hW0
        clear hW0
        generalize hW : World.alloc W0 _ = W1
        obtain ⟨hz, hsz, hwz⟩ := s2_new hW
        rw [hsx] at hz
        clear hW
        generalize hW : World.alloc W1 _ = W2
        obtain ⟨hr, hsr, hwr⟩ := s2_new hW
        rw [hsz, hsx] at hr
        clear hW
        have X1 := s2_on hx (below_on hwz hwr)
        have Z1 := s2_on hz hwr
        have B1 := below_on hwx (below_on hwz hwr)
        have hne : w.heap.size ≤ w.heap.size + 1 + 1 := by omega
        clear hx hz hwx hwz hwr hsx hsz hsr
        refine (HV.out _).mono ?_
        rintro e w3 ⟨rfl, hb3⟩
        have X3 := s2_on X1 hb3
        have Z3 := s2_on Z1 hb3
        have R3 := s2_on hr hb3
        have B3 := below_on B1 hb3
        clear X1 Z1 hr B1 hb3
        obtain ⟨x0, x1, x2, x3⟩ := id X3
        obtain ⟨z0, z1, z2, z3⟩ := id Z3
        obtain ⟨a0, a1, a2, a3⟩ := id R3
        go_wp2_with fail
        refine (HV2.out _).mono ?_
        rintro e w4 ⟨rfl, hb4⟩
        have X4 := s2_on X3 hb4
        have Z4 := s2_on Z3 hb4
        have R4 := s2_on R3 hb4
        have B4 := below_on B3 hb4
        clear X3 Z3 R3 B3 hb4 x0 x1 x2 x3 z0 z1 z2 z3 a0 a1 a2 a3
        obtain ⟨x0, x1, x2, x3⟩ := id X4
        obtain ⟨z0, z1, z2, z3⟩ := id Z4
        obtain ⟨a0, a1, a2, a3⟩ := id R4
        go_wp2
        generalize hW : World.setCell _ _ _ = W8
        obtain ⟨⟨_, r1, r2, _⟩, _, _, hb8⟩ := s2_put hW _ _ R4
        refine bodyPost_ret (v := .tuple #[.agg #[.string ⟨#[]⟩, .string ⟨#[]⟩], .bool false]) (by simp [results, Tryd.results31, go_sem, r1, r2]) rfl ⟨by rw [HF.out]; rfl, ?_⟩
        exact hb8 w B4 hne
      · have hd : decide ((400 : Int) < (pr : Int)) = false := decide_eq_false (by omega)
        have hd2 : decide (400 < pr) = false := decide_eq_false hbig
        have HF : Hid (smR h l h' l' = resA (smA (atS h l) (atS h' l'))) := Lib.hid (by unfold smR; rw [HQ.out, HQ2.out, hL, hL', hpr, decide_eq_true (show pr ≤ 400 by omega)]; rfl)
        have HCL := Lib.hid fun w => commonLoop_any h l h' l' w q6 (by omega) (by omega)
        obtain ⟨c1, c2⟩ := sm_per (h := h) (h' := h') q6 p6
        have hlc : lcL2 l l' ≤ 400 := Nat.le_trans (lcm_le _ _) (by rw [hL, hL', hpr]; omega)
        rw [hH, hH'] at c2
        obtain ⟨p, hp⟩ : ∃ p, lcL2 l l' = p := ⟨_, rfl⟩
        obtain ⟨m0, hm0⟩ : ∃ k, H + H' = k := ⟨_, rfl⟩
        obtain ⟨m, hm⟩ : ∃ k, m0 + p = k := ⟨_, rfl⟩
        obtain ⟨lim, hlim⟩ : ∃ k, m + p = k := ⟨_, rfl⟩
        rw [hp] at HCL c1 c2 hlc
        rw [hm0, hm] at c2
        have hw0 : IntKind.i64.wrap ((H : Int) + (H' : Int)) = (m0 : Int) := by rw [IntKind.wrap_i64]; omega
        have hw1 : IntKind.i64.wrap ((m0 : Int) + (p : Int)) = (m : Int) := by rw [IntKind.wrap_i64]; omega
        have hw2 : IntKind.i64.wrap ((m : Int) + (p : Int)) = (lim : Int) := by rw [IntKind.wrap_i64]; omega
        have hlb : lim ≤ 10000 := by omega
        have HSB := Lib.hid fun w => sumsBelow_any h l h' l' lim w q6 p6 hh hl hh' hl' (by omega)
        obtain ⟨r, hr⟩ : ∃ r, resA (smA (atS h l) (atS h' l')) = r := ⟨_, rfl⟩
        have HR := Lib.hid hr
        have HSO : Hid (∀ W c b, FB W c (.slice (some ⟨b, 0, none⟩) lim lim) → SB W b (sumB (atS h l) (atS h' l')) lim → Calls Tryd.prog 51 #[.int .i64 m, .int .i64 p, .func (.func 67) #[] #[.pointer (some ⟨c, 0, none⟩)]] W fun e w' => e = .returned (.tuple #[.agg #[.string (bs r.1.1), .string (bs r.1.2)], .bool r.2]) ∧ Below W.heap.size W w') := Lib.hid fun W c b s1 s2 => by
          have := setOf_seq 67 #[.pointer (some ⟨c, 0, none⟩)] (sumB (atS h l) (atS h' l')) (smA (atS h l) (atS h' l')) m p W Tryd.ensm c1 (by omega) (fun n => rfl) c2
            (fun V hV j hj => sum1_any _ lim j c b V (by omega) (by omega) (fb_on s1 hV) (sb_on s2 hV))
          rw [HR.out] at this
          exact this
        rw [hr] at HF
        rw [hH] at hs1
        rw [hH'] at hs2
        rw [hL] at hs3
        rw [hL'] at hs4
        obtain ⟨sq, hsq⟩ : ∃ f, sumB (atS h l) (atS h' l') = f := ⟨_, rfl⟩
        rw [hsq] at HSB HSO
        clear q1 q2 q3 q4 q5 q6 p1 p2 p3 p4 p5 p6 hH hH' hL hL' hpr hpb hbig hh hl hh' hl' c1 c2 hp hm0 hm hlim hr hsq hlc
        go_enter Tryd.func31, Tryd.ntmps31
        go_wp2_with fail
        generalize hW0 : World.alloc w _ = W0
        obtain ⟨hx, hsx, hwx⟩ := s2_new hW0
        clear hW0
        generalize hW : World.alloc W0 _ = W1
        obtain ⟨hz, hsz, hwz⟩ := s2_new hW
        rw [hsx] at hz
        clear hW
        generalize hW : World.alloc W1 _ = W2
        obtain ⟨hr, hsr, hwr⟩ := s2_new hW
        rw [hsz, hsx] at hr
        clear hW
        have X1 := s2_on hx (below_on hwz hwr)
        have Z1 := s2_on hz hwr
        have B1 := below_on hwx (below_on hwz hwr)
        have hne : w.heap.size ≤ w.heap.size + 1 + 1 := by omega
        clear hx hz hwx hwz hwr hsx hsz hsr
        refine (HV.out _).mono ?_
        rintro e w3 ⟨rfl, hb3⟩
        have X3 := s2_on X1 hb3
        have Z3 := s2_on Z1 hb3
        have R3 := s2_on hr hb3
        have B3 := below_on B1 hb3
        clear X1 Z1 hr B1 hb3
        obtain ⟨x0, x1, x2, x3⟩ := id X3
        obtain ⟨z0, z1, z2, z3⟩ := id Z3
        obtain ⟨a0, a1, a2, a3⟩ := id R3
        go_wp2_with fail
        refine (HV2.out _).mono ?_
        rintro e w4 ⟨rfl, hb4⟩
        have X4 := s2_on X3 hb4
        have Z4 := s2_on Z3 hb4
        have R4 := s2_on R3 hb4
        have B4 := below_on B3 hb4
        clear X3 Z3 R3 B3 hb4 x0 x1 x2 x3 z0 z1 z2 z3 a0 a1 a2 a3
        obtain ⟨x0, x1, x2, x3⟩ := id X4
        obtain ⟨z0, z1, z2, z3⟩ := id Z4
        obtain ⟨a0, a1, a2, a3⟩ := id R4
        go_wp2_with fail
        refine (HCL.out _).mono ?_
        rintro e w5 ⟨rfl, hb5⟩
        have X5 := s2_on X4 hb5
        have Z5 := s2_on Z4 hb5
        have R5 := s2_on R4 hb5
        have B5 := below_on B4 hb5
        clear X4 Z4 R4 B4 hb5 x0 x1 x2 x3 z0 z1 z2 z3 a0 a1 a2 a3
        obtain ⟨x0, x1, x2, x3⟩ := id X5
        obtain ⟨z0, z1, z2, z3⟩ := id Z5
        go_wp2_with fail
        refine (HSB.out _).mono ?_
        rintro e w6 ⟨b, rfl, hsb, hb6⟩
        have R6 := s2_on R5 hb6
        have B6 := below_on B5 hb6
        clear X5 Z5 R5 B5 hb6 x0 x1 x2 x3 z0 z1 z2 z3
        go_wp2_with fail
        generalize hW : World.alloc w6 _ = W7
        obtain ⟨hf, hsf, hwf⟩ := fb_new hW
        clear hW
        have R7 := s2_on R6 hwf
        have B7 := below_on B6 hwf
        refine (HSO.out _ _ b hf (sb_on hsb hwf)).mono ?_
        rintro e w8 ⟨rfl, hb8'⟩
        have R8 := s2_on R7 hb8'
        have B8 := below_on B7 hb8'
        clear R6 B6 R7 B7 hf hsb
        obtain ⟨a0, a1, a2, a3⟩ := id R8
        go_wp2
        generalize hW : World.setCell _ _ _ = W8
        obtain ⟨⟨_, r1, r2, _⟩, _, _, hb8⟩ := s2_put hW _ _ R8
        refine bodyPost_ret (v := .tuple #[.agg #[.string (bs r.1.1), .string (bs r.1.2)], .bool r.2]) (by simp [results, Tryd.results31, go_sem, r1, r2]) rfl ⟨by rw [HF.out], ?_⟩
        exact hb8 w B8 hne

end Go.Proofs.YtpheihejgnlanaaDoor
