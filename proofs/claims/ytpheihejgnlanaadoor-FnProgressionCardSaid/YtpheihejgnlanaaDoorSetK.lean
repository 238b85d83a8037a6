/- UnionSets, MeetSets, OtherSet, ProgressionSet, ShiftSet, StretchSet, DivideSet of the program. -/
import Derived.Test.YtpheihejgnlanaaDoorSetJ
namespace Go.Proofs.YtpheihejgnlanaaDoor
open Go.RowKit

theorem Tryd.enor : EnF 44 := fun _ _ => by kernel_rfl
set_option maxHeartbeats 400000 in
theorem chor : ChF 44 (fun x y => x || y) := by
  intro x y W
  cases x <;> cases y
  all_goals
    go_enter Tryd.func44, Tryd.ntmps44
    go_wp2
    go_ret
    exact ⟨rfl, Below.refl _ _⟩

set_option maxRecDepth 10000 in
set_option maxHeartbeats 1000000 in
theorem UnionSets_any (h l h' l' : List UInt8) (w : World) (hh : h.length ≤ 1000000000) (hl : l.length ≤ 1000000000) (hh' : h'.length ≤ 1000000000) (hl' : l'.length ≤ 1000000000) :
    Calls Tryd.prog 16 #[.agg #[.string (bs h), .string (bs l)], .agg #[.string (bs h'), .string (bs l')]] w fun e w' => e = .returned (.tuple #[.agg #[.string (bs (combR (fun x y => x || y) h l h' l').1.1), .string (bs (combR (fun x y => x || y) h l h' l').1.2)], .bool (combR (fun x y => x || y) h l h' l').2]) ∧ Below w.heap.size w w' := by
  have HC := Lib.hid fun w => combined_any _ _ Tryd.enor chor h l h' l' w hh hl hh' hl'
  obtain ⟨r, hr⟩ : ∃ r, combR (fun x y => x || y) h l h' l' = r := ⟨_, rfl⟩
  rw [hr] at HC
  rw [hr]
  clear hh hl hh' hl' hr
  go_enter Tryd.func16, Tryd.ntmps16
  go_wp2_with fail
  generalize hW0 : World.alloc w _ = W0
  obtain ⟨hx, hsx, hwx⟩ := s2_new hW0
  clear hW0
  generalize hW : World.alloc W0 _ = W1
  obtain ⟨hz, hsz, hwz⟩ := s2_new hW
  clear hW
  generalize hW : World.alloc W1 _ = W2
  obtain ⟨hv, hsv, hwv⟩ := s2_new hW
  rw [hsz, hsx] at hv
  clear hW
  have B1 := below_on hwx (below_on hwz hwv)
  have hne : w.heap.size ≤ w.heap.size + 1 + 1 := by omega
  clear hx hz hwx hwz hwv hsx hsz hsv
  refine (HC.out _).mono ?_
  rintro e w3 ⟨rfl, hb3⟩
  have R3 := s2_on hv hb3
  have B3 := below_on B1 hb3
  obtain ⟨a0, a1, a2, a3⟩ := id R3
  go_wp2
  generalize hW : World.setCell _ _ _ = W8
  obtain ⟨⟨_, r1, r2, _⟩, _, _, hb8⟩ := s2_put hW _ _ R3
  refine bodyPost_ret (v := .tuple #[.agg #[.string (bs r.1.1), .string (bs r.1.2)], .bool r.2]) (by simp [results, Tryd.results16, go_sem, r1, r2]) rfl ⟨rfl, ?_⟩
  exact hb8 w B3 hne

theorem Tryd.enand : EnF 45 := fun _ _ => by kernel_rfl
set_option maxHeartbeats 400000 in
theorem chand : ChF 45 (fun x y => x && y) := by
  intro x y W
  cases x <;> cases y
  all_goals
    go_enter Tryd.func45, Tryd.ntmps45
    go_wp2
    go_ret
    exact ⟨rfl, Below.refl _ _⟩

set_option maxRecDepth 10000 in
set_option maxHeartbeats 1000000 in
theorem MeetSets_any (h l h' l' : List UInt8) (w : World) (hh : h.length ≤ 1000000000) (hl : l.length ≤ 1000000000) (hh' : h'.length ≤ 1000000000) (hl' : l'.length ≤ 1000000000) :
    Calls Tryd.prog 19 #[.agg #[.string (bs h), .string (bs l)], .agg #[.string (bs h'), .string (bs l')]] w fun e w' => e = .returned (.tuple #[.agg #[.string (bs (combR (fun x y => x && y) h l h' l').1.1), .string (bs (combR (fun x y => x && y) h l h' l').1.2)], .bool (combR (fun x y => x && y) h l h' l').2]) ∧ Below w.heap.size w w' := by
  have HC := Lib.hid fun w => combined_any _ _ Tryd.enand chand h l h' l' w hh hl hh' hl'
  obtain ⟨r, hr⟩ : ∃ r, combR (fun x y => x && y) h l h' l' = r := ⟨_, rfl⟩
  rw [hr] at HC
  rw [hr]
  clear hh hl hh' hl' hr
  go_enter Tryd.func19, Tryd.ntmps19
  go_wp2_with fail
  generalize hW0 : World.alloc w _ = W0
  obtain ⟨hx, hsx, hwx⟩ := s2_new hW0
  clear hW0
  generalize hW : World.alloc W0 _ = W1
  obtain ⟨hz, hsz, hwz⟩ := s2_new hW
  clear hW
  generalize hW : World.alloc W1 _ = W2
  obtain ⟨hv, hsv, hwv⟩ := s2_new hW
  rw [hsz, hsx] at hv
  clear hW
  have B1 := below_on hwx (below_on hwz hwv)
  have hne : w.heap.size ≤ w.heap.size + 1 + 1 := by omega
  clear hx hz hwx hwz hwv hsx hsz hsv
  refine (HC.out _).mono ?_
  rintro e w3 ⟨rfl, hb3⟩
  have R3 := s2_on hv hb3
  have B3 := below_on B1 hb3
  obtain ⟨a0, a1, a2, a3⟩ := id R3
  go_wp2
  generalize hW : World.setCell _ _ _ = W8
  obtain ⟨⟨_, r1, r2, _⟩, _, _, hb8⟩ := s2_put hW _ _ R3
  refine bodyPost_ret (v := .tuple #[.agg #[.string (bs r.1.1), .string (bs r.1.2)], .bool r.2]) (by simp [results, Tryd.results19, go_sem, r1, r2]) rfl ⟨rfl, ?_⟩
  exact hb8 w B3 hne

theorem Tryd.ennot : EnF 48 := fun _ _ => by kernel_rfl
set_option maxHeartbeats 400000 in
theorem chnot : ChF 48 (fun x _ => !x) := by
  intro x y W
  cases x
  all_goals
    go_enter Tryd.func48, Tryd.ntmps48
    go_wp2
    go_ret
    exact ⟨rfl, Below.refl _ _⟩

set_option maxRecDepth 10000 in
set_option maxHeartbeats 1000000 in
theorem OtherSet_any (h l : List UInt8) (w : World) (hh : h.length ≤ 1000000000) (hl : l.length ≤ 1000000000) :
    Calls Tryd.prog 21 #[.agg #[.string (bs h), .string (bs l)]] w fun e w' => e = .returned (.tuple #[.agg #[.string (bs (combR (fun x _ => !x) h l h l).1.1), .string (bs (combR (fun x _ => !x) h l h l).1.2)], .bool (combR (fun x _ => !x) h l h l).2]) ∧ Below w.heap.size w w' := by
  have HC := Lib.hid fun w => combined_any _ _ Tryd.ennot chnot h l h l w hh hl hh hl
  obtain ⟨r, hr⟩ : ∃ r, combR (fun x _ => !x) h l h l = r := ⟨_, rfl⟩
  rw [hr] at HC
  rw [hr]
  clear hh hl hr
  go_enter Tryd.func21, Tryd.ntmps21
  go_wp2_with fail
  generalize hW0 : World.alloc w _ = W0
  obtain ⟨hx, hsx, hwx⟩ := s2_new hW0
  clear hW0
  generalize hW : World.alloc W0 _ = W1
  obtain ⟨hv, hsv, hwv⟩ := s2_new hW
  rw [hsx] at hv
  clear hW
  have B1 := below_on hwx hwv
  have hne : w.heap.size ≤ w.heap.size + 1 := by omega
  clear hx hwx hwv hsx hsv
  refine (HC.out _).mono ?_
  rintro e w3 ⟨rfl, hb3⟩
  have R3 := s2_on hv hb3
  have B3 := below_on B1 hb3
  obtain ⟨a0, a1, a2, a3⟩ := id R3
  go_wp2
  generalize hW : World.setCell _ _ _ = W8
  obtain ⟨⟨_, r1, r2, _⟩, _, _, hb8⟩ := s2_put hW _ _ R3
  refine bodyPost_ret (v := .tuple #[.agg #[.string (bs r.1.1), .string (bs r.1.2)], .bool r.2]) (by simp [results, Tryd.results21, go_sem, r1, r2]) rfl ⟨rfl, ?_⟩
  exact hb8 w B3 hne

/-- setOf of a sequence that repeats. -/
theorem setOf_seq (F : Nat) (caps : Array Value) (f : Nat → Bool) (a : Nat → UInt8) (N p : Nat) (w : World) (EN : EnF F) (hp : 0 < p) (hb : N + p ≤ 1000000) (hf : ∀ n, bitS (f n) = a n) (hper : PerS a N p) (HC : ClF F caps f (N + p) w) :
    Calls Tryd.prog 51 #[.int .i64 N, .int .i64 p, .func (.func F) #[] caps] w fun e w' => e = .returned (.tuple #[.agg #[.string (bs (resA a).1.1), .string (bs (resA a).1.2)], .bool (resA a).2]) ∧ Below w.heap.size w w' := by
  have e : (fun n => bitS (f n)) = a := funext hf
  have := setOf_any F caps f N p w EN hp hb HC
  rw [e, raw_at hp hper] at this
  exact this

/-- What ProgressionSet answers. -/
noncomputable def prR (f s : Int) : (List UInt8 × List UInt8) × Bool := if (decide (0 ≤ f ∧ f ≤ 400) && decide (0 ≤ s ∧ s ≤ 240)) = true then resA (prA f.toNat s.toNat) else (([], []), false)
theorem pr_bits (f s n : Nat) : bitS (inS (prA f s) n) = prA f s n := bits_in (bits_bit (f := fun n => decide (f ≤ n) && (if s = 0 then decide (n = f) else decide ((n - f) % s = 0)))) n
theorem Tryd.enp1 : EnF 52 := fun _ _ => by kernel_rfl
theorem Tryd.enp2 : EnF 53 := fun _ _ => by kernel_rfl

set_option maxHeartbeats 400000 in
theorem prog1_any (f n c : Nat) (w : World) (h0 : FB w c (.int .i64 f)) :
    Calls Tryd.prog 52 #[.int .i64 n, .pointer (some ⟨c, 0, none⟩)] w fun e w' => e = .returned (.bool (inS (prA f 0) n)) ∧ Below w.heap.size w w' := by
  obtain ⟨h1, h2⟩ := h0
  have e : inS (prA f 0) n = decide (n = f) := by
    rw [in_pr, if_pos rfl]
    by_cases q : n = f
    · simp [q]
    · simp [q]
  have e2 : ((n : Int) == (f : Int)) = decide (n = f) := by rw [Bool.eq_iff_iff]; simp; omega
  obtain ⟨b, hb⟩ : ∃ b, decide (n = f) = b := ⟨_, rfl⟩
  rw [hb] at e e2
  rw [e]
  clear e hb
  go_enter Tryd.func52, Tryd.ntmps52
  go_wp2
  go_ret
  exact ⟨rfl, Below.refl _ _⟩

set_option maxHeartbeats 1000000 in
theorem prog2_any (f s n c d : Nat) (w : World) (hs : 1 ≤ s) (hn : n ≤ 1000000000) (hf : f ≤ 1000000000) (hs2 : s ≤ 1000000000) (h0 : FB w c (.int .i64 f)) (h1 : FB w d (.int .i64 s)) :
    Calls Tryd.prog 53 #[.int .i64 n, .pointer (some ⟨c, 0, none⟩), .pointer (some ⟨d, 0, none⟩)] w fun e w' => e = .returned (.bool (inS (prA f s) n)) ∧ Below w.heap.size w w' := by
  obtain ⟨u1, u2⟩ := h0
  obtain ⟨u3, u4⟩ := h1
  have e : inS (prA f s) n = (decide (f ≤ n) && decide ((n - f) % s = 0)) := by rw [in_pr, if_neg (by omega)]
  by_cases hfn : f ≤ n
  · have g0 : decide ((f : Int) ≤ (n : Int)) = true := decide_eq_true (by omega)
    have g1 : decide (f ≤ n) = true := decide_eq_true hfn
    obtain ⟨k, hk⟩ : ∃ k, n - f = k := ⟨_, rfl⟩
    have hw : IntKind.i64.wrap ((n : Int) - (f : Int)) = (k : Int) := by rw [IntKind.wrap_i64]; omega
    obtain ⟨r, hr⟩ : ∃ r, k % s = r := ⟨_, rfl⟩
    have hm : (k : Int).tmod (s : Int) = (r : Int) := by rw [Int.tmod_eq_emod_of_nonneg (by omega), ← hr]; omega
    have hs0 : (s : Int) ≠ 0 := by omega
    have hs1 : s ≠ 0 := by omega
    have e2 : ((r : Int) == 0) = decide (r = 0) := by rw [Bool.eq_iff_iff]; simp
    obtain ⟨b, hb⟩ : ∃ b, decide (r = 0) = b := ⟨_, rfl⟩
    rw [g1, Bool.true_and, hk, hr, hb] at e
    rw [hb] at e2
    rw [e]
    clear e hb hr hk
    go_enter Tryd.func53, Tryd.ntmps53
    go_wp2
    go_ret
    exact ⟨rfl, Below.refl _ _⟩
  · have g0 : decide ((f : Int) ≤ (n : Int)) = false := decide_eq_false (by omega)
    have g1 : decide (f ≤ n) = false := decide_eq_false hfn
    rw [g1, Bool.false_and] at e
    rw [e]
    clear e
    go_enter Tryd.func53, Tryd.ntmps53
    go_wp2
    go_ret
    exact ⟨rfl, Below.refl _ _⟩

set_option maxRecDepth 10000 in
set_option maxHeartbeats 4000000 in
theorem ProgressionSet_any (f s : Int) (w : World) (f0 : -9223372036854775808 ≤ f) (f1 : f ≤ 9223372036854775807) (s0 : -9223372036854775808 ≤ s) (s1 : s ≤ 9223372036854775807) :
    Calls Tryd.prog 23 #[.int .i64 f, .int .i64 s] w fun e w' => e = .returned (.tuple #[.agg #[.string (bs (prR f s).1.1), .string (bs (prR f s).1.2)], .bool (prR f s).2]) ∧ Below w.heap.size w w' := by
  by_cases hc1 : f < 0
  · have HF : Hid (prR f s = (([], []), false)) := Lib.hid (by unfold prR; rw [if_neg (by simp; omega)])
    have g0 : decide ((f : Int) < 0) = true := decide_eq_true (by omega)
    clear hc1
    go_enter Tryd.func23, Tryd.ntmps23
    go_upto_region 1 with fail
    generalize hW0 : World.alloc w _ = W0
    obtain ⟨hx, hsx, hwx⟩ := fb_new hW0
    clear hW0
    generalize hW : World.alloc W0 _ = W1
    obtain ⟨hy, hsy, hwy⟩ := fb_new hW
    rw [hsx] at hy
    clear hW
    generalize hW : World.alloc W1 _ = W2
    obtain ⟨hz, hsz, hwz⟩ := s2_new hW
    rw [hsy, hsx] at hz
    clear hW
    have X3 := fb_on hx (below_on hwy hwz)
    have Y3 := fb_on hy hwz
    have R3 := hz
    have B3 := below_on hwx (below_on hwy hwz)
    have hne : w.heap.size ≤ w.heap.size + 1 + 1 := by omega
    clear hx hy hz hwx hwy hwz hsx hsy hsz
    obtain ⟨x0, x1⟩ := id X3
    obtain ⟨y0, y1⟩ := id Y3
    obtain ⟨a0, a1, a2, a3⟩ := id R3
    go_wp2
    generalize hW : World.setCell _ _ _ = W8
    obtain ⟨⟨_, r1, r2, _⟩, _, _, hb8⟩ := s2_put hW _ _ R3
    refine bodyPost_ret (v := .tuple #[.agg #[.string ⟨#[]⟩, .string ⟨#[]⟩], .bool false]) (by simp [results, Tryd.results23, go_sem, r1, r2]) rfl ⟨by rw [HF.out]; rfl, ?_⟩
    exact hb8 w B3 hne
  by_cases hc2 : 400 < f
  · have HF : Hid (prR f s = (([], []), false)) := Lib.hid (by unfold prR; rw [if_neg (by simp; omega)])
    have g0 : decide ((f : Int) < 0) = false := decide_eq_false (by omega)
    have g1 : decide ((400 : Int) < f) = true := decide_eq_true (by omega)
    clear hc1 hc2
    go_enter Tryd.func23, Tryd.ntmps23
    go_upto_region 1 with fail
    generalize hW0 : World.alloc w _ = W0
    obtain ⟨hx, hsx, hwx⟩ := fb_new hW0
    clear hW0
    generalize hW : World.alloc W0 _ = W1
    obtain ⟨hy, hsy, hwy⟩ := fb_new hW
    rw [hsx] at hy
    clear hW
    generalize hW : World.alloc W1 _ = W2
    obtain ⟨hz, hsz, hwz⟩ := s2_new hW
    rw [hsy, hsx] at hz
    clear hW
    have X3 := fb_on hx (below_on hwy hwz)
    have Y3 := fb_on hy hwz
    have R3 := hz
    have B3 := below_on hwx (below_on hwy hwz)
    have hne : w.heap.size ≤ w.heap.size + 1 + 1 := by omega
    clear hx hy hz hwx hwy hwz hsx hsy hsz
    obtain ⟨x0, x1⟩ := id X3
    obtain ⟨y0, y1⟩ := id Y3
    obtain ⟨a0, a1, a2, a3⟩ := id R3
    go_wp2
    generalize hW : World.setCell _ _ _ = W8
    obtain ⟨⟨_, r1, r2, _⟩, _, _, hb8⟩ := s2_put hW _ _ R3
    refine bodyPost_ret (v := .tuple #[.agg #[.string ⟨#[]⟩, .string ⟨#[]⟩], .bool false]) (by simp [results, Tryd.results23, go_sem, r1, r2]) rfl ⟨by rw [HF.out]; rfl, ?_⟩
    exact hb8 w B3 hne
  by_cases hc3 : s < 0
  · have HF : Hid (prR f s = (([], []), false)) := Lib.hid (by unfold prR; rw [if_neg (by simp; omega)])
    have g0 : decide ((f : Int) < 0) = false := decide_eq_false (by omega)
    have g1 : decide ((400 : Int) < f) = false := decide_eq_false (by omega)
    have g2 : decide ((s : Int) < 0) = true := decide_eq_true (by omega)
    clear hc1 hc2 hc3
    go_enter Tryd.func23, Tryd.ntmps23
    go_upto_region 1 with fail
    generalize hW0 : World.alloc w _ = W0
    obtain ⟨hx, hsx, hwx⟩ := fb_new hW0
    clear hW0
    generalize hW : World.alloc W0 _ = W1
    obtain ⟨hy, hsy, hwy⟩ := fb_new hW
    rw [hsx] at hy
    clear hW
    generalize hW : World.alloc W1 _ = W2
    obtain ⟨hz, hsz, hwz⟩ := s2_new hW
    rw [hsy, hsx] at hz
    clear hW
    have X3 := fb_on hx (below_on hwy hwz)
    have Y3 := fb_on hy hwz
    have R3 := hz
    have B3 := below_on hwx (below_on hwy hwz)
    have hne : w.heap.size ≤ w.heap.size + 1 + 1 := by omega
    clear hx hy hz hwx hwy hwz hsx hsy hsz
    obtain ⟨x0, x1⟩ := id X3
    obtain ⟨y0, y1⟩ := id Y3
    obtain ⟨a0, a1, a2, a3⟩ := id R3
    go_wp2
    generalize hW : World.setCell _ _ _ = W8
    obtain ⟨⟨_, r1, r2, _⟩, _, _, hb8⟩ := s2_put hW _ _ R3
    refine bodyPost_ret (v := .tuple #[.agg #[.string ⟨#[]⟩, .string ⟨#[]⟩], .bool false]) (by simp [results, Tryd.results23, go_sem, r1, r2]) rfl ⟨by rw [HF.out]; rfl, ?_⟩
    exact hb8 w B3 hne
  by_cases hc4 : 240 < s
  · have HF : Hid (prR f s = (([], []), false)) := Lib.hid (by unfold prR; rw [if_neg (by simp; omega)])
    have g0 : decide ((f : Int) < 0) = false := decide_eq_false (by omega)
    have g1 : decide ((400 : Int) < f) = false := decide_eq_false (by omega)
    have g2 : decide ((s : Int) < 0) = false := decide_eq_false (by omega)
    have g3 : decide ((240 : Int) < s) = true := decide_eq_true (by omega)
    clear hc1 hc2 hc3 hc4
    go_enter Tryd.func23, Tryd.ntmps23
    go_upto_region 1 with fail
    generalize hW0 : World.alloc w _ = W0
    obtain ⟨hx, hsx, hwx⟩ := fb_new hW0
    clear hW0
    generalize hW : World.alloc W0 _ = W1
    obtain ⟨hy, hsy, hwy⟩ := fb_new hW
    rw [hsx] at hy
    clear hW
    generalize hW : World.alloc W1 _ = W2
    obtain ⟨hz, hsz, hwz⟩ := s2_new hW
    rw [hsy, hsx] at hz
    clear hW
    have X3 := fb_on hx (below_on hwy hwz)
    have Y3 := fb_on hy hwz
    have R3 := hz
    have B3 := below_on hwx (below_on hwy hwz)
    have hne : w.heap.size ≤ w.heap.size + 1 + 1 := by omega
    clear hx hy hz hwx hwy hwz hsx hsy hsz
    obtain ⟨x0, x1⟩ := id X3
    obtain ⟨y0, y1⟩ := id Y3
    obtain ⟨a0, a1, a2, a3⟩ := id R3
    go_wp2
    generalize hW : World.setCell _ _ _ = W8
    obtain ⟨⟨_, r1, r2, _⟩, _, _, hb8⟩ := s2_put hW _ _ R3
    refine bodyPost_ret (v := .tuple #[.agg #[.string ⟨#[]⟩, .string ⟨#[]⟩], .bool false]) (by simp [results, Tryd.results23, go_sem, r1, r2]) rfl ⟨by rw [HF.out]; rfl, ?_⟩
    exact hb8 w B3 hne
  obtain ⟨F, rfl⟩ : ∃ F : Nat, f = F := ⟨f.toNat, by omega⟩
  obtain ⟨S, rfl⟩ : ∃ S : Nat, s = S := ⟨s.toNat, by omega⟩
  have g0 : decide ((F : Int) < 0) = false := decide_eq_false (by omega)
  have g1 : decide ((400 : Int) < (F : Int)) = false := decide_eq_false (by omega)
  have g2 : decide ((S : Int) < 0) = false := decide_eq_false (by omega)
  have g3 : decide ((240 : Int) < (S : Int)) = false := decide_eq_false (by omega)
  have hF : F ≤ 400 := by omega
  have hS : S ≤ 240 := by omega
  have HF : Hid (prR F S = resA (prA F S)) := Lib.hid (by unfold prR; rw [if_pos (by simp; omega)]; rfl)
  obtain ⟨r, hr⟩ : ∃ r, resA (prA F S) = r := ⟨_, rfl⟩
  have HR := Lib.hid hr
  rw [hr] at HF
  clear hc1 hc2 hc3 hc4 f0 f1 s0 s1 hr
  by_cases hs0 : S = 0
  · subst hs0
    have ge : (((0 : Nat) : Int) == 0) = true := rfl
    have hw : IntKind.i64.wrap ((F : Int) + 1) = ((F + 1 : Nat) : Int) := by rw [IntKind.wrap_i64]; omega
    obtain ⟨F2, hF2⟩ : ∃ k, F + 1 = k := ⟨_, rfl⟩
    rw [hF2] at hw
    have HSO : Hid (∀ W, FB W w.heap.size (.int .i64 F) → Calls Tryd.prog 51 #[.int .i64 F2, .int .i64 1, .func (.func 52) #[] #[.pointer (some ⟨w.heap.size, 0, none⟩)]] W fun e w' => e = .returned (.tuple #[.agg #[.string (bs r.1.1), .string (bs r.1.2)], .bool r.2]) ∧ Below W.heap.size W w') := Lib.hid fun W s1 => by
      have := setOf_seq 52 #[.pointer (some ⟨w.heap.size, 0, none⟩)] (fun n => inS (prA F 0) n) (prA F 0) F2 1 W Tryd.enp1 (by omega) (by omega) (fun n => pr_bits F 0 n) (by rw [← hF2]; exact per_pr0 F)
        (fun V hV k hk => prog1_any F k _ V (fb_on s1 hV))
      rw [HR.out] at this
      exact this
    clear hF2
    go_enter Tryd.func23, Tryd.ntmps23
    go_upto_region 1 with fail
    generalize hW0 : World.alloc w _ = W0
    obtain ⟨hx, hsx, hwx⟩ := fb_new hW0
    clear hW0
    generalize hW : World.alloc W0 _ = W1
    obtain ⟨hy, hsy, hwy⟩ := fb_new hW
    rw [hsx] at hy
    clear hW
    generalize hW : World.alloc W1 _ = W2
    obtain ⟨hz, hsz, hwz⟩ := s2_new hW
    rw [hsy, hsx] at hz
    clear hW
    have X3 := fb_on hx (below_on hwy hwz)
    have Y3 := fb_on hy hwz
    have R3 := hz
    have B3 := below_on hwx (below_on hwy hwz)
    have hne : w.heap.size ≤ w.heap.size + 1 + 1 := by omega
    clear hx hy hz hwx hwy hwz hsx hsy hsz
    obtain ⟨x0, x1⟩ := id X3
    obtain ⟨y0, y1⟩ := id Y3
    obtain ⟨a0, a1, a2, a3⟩ := id R3
    go_wp2_with fail
    refine (HSO.out _ X3).mono ?_
    rintro e w4 ⟨rfl, hb4⟩
    have R4 := s2_on R3 hb4
    have B4 := below_on B3 hb4
    clear a0 a1 a2 a3 x0 x1 y0 y1
    obtain ⟨a0, a1, a2, a3⟩ := id R4
    go_wp2
    generalize hW : World.setCell _ _ _ = W8
    obtain ⟨⟨_, r1, r2, _⟩, _, _, hb8⟩ := s2_put hW _ _ R4
    refine bodyPost_ret (v := .tuple #[.agg #[.string (bs r.1.1), .string (bs r.1.2)], .bool r.2]) (by simp [results, Tryd.results23, go_sem, r1, r2]) rfl ⟨by rw [HF.out], ?_⟩
    exact hb8 w B4 hne
  · have ge : ((S : Int) == 0) = false := by rw [beq_eq_false_iff_ne]; omega
    have HSO : Hid (∀ W, FB W w.heap.size (.int .i64 F) → FB W (w.heap.size + 1) (.int .i64 S) → Calls Tryd.prog 51 #[.int .i64 F, .int .i64 S, .func (.func 53) #[] #[.pointer (some ⟨w.heap.size, 0, none⟩), .pointer (some ⟨w.heap.size + 1, 0, none⟩)]] W fun e w' => e = .returned (.tuple #[.agg #[.string (bs r.1.1), .string (bs r.1.2)], .bool r.2]) ∧ Below W.heap.size W w') := Lib.hid fun W s1 s2 => by
      have := setOf_seq 53 #[.pointer (some ⟨w.heap.size, 0, none⟩), .pointer (some ⟨w.heap.size + 1, 0, none⟩)] (fun n => inS (prA F S) n) (prA F S) F S W Tryd.enp2 (by omega) (by omega) (fun n => pr_bits F S n) (per_pr1 F (by omega))
        (fun V hV k hk => prog2_any F S k _ _ V (by omega) (by omega) (by omega) (by omega) (fb_on s1 hV) (fb_on s2 hV))
      rw [HR.out] at this
      exact this
    clear hs0
    go_enter Tryd.func23, Tryd.ntmps23
    go_upto_region 1 with fail
    generalize hW0 : World.alloc w _ = W0
    obtain ⟨hx, hsx, hwx⟩ := fb_new hW0
    clear hW0
    generalize hW : World.alloc W0 _ = W1
    obtain ⟨hy, hsy, hwy⟩ := fb_new hW
    rw [hsx] at hy
    clear hW
    generalize hW : World.alloc W1 _ = W2
    obtain ⟨hz, hsz, hwz⟩ := s2_new hW
    rw [hsy, hsx] at hz
    clear hW
    have X3 := fb_on hx (below_on hwy hwz)
    have Y3 := fb_on hy hwz
    have R3 := hz
    have B3 := below_on hwx (below_on hwy hwz)
    have hne : w.heap.size ≤ w.heap.size + 1 + 1 := by omega
    clear hx hy hz hwx hwy hwz hsx hsy hsz
    obtain ⟨x0, x1⟩ := id X3
    obtain ⟨y0, y1⟩ := id Y3
    obtain ⟨a0, a1, a2, a3⟩ := id R3
    go_wp2_with fail
    refine (HSO.out _ X3 Y3).mono ?_
    rintro e w4 ⟨rfl, hb4⟩
    have R4 := s2_on R3 hb4
    have B4 := below_on B3 hb4
    clear a0 a1 a2 a3 x0 x1 y0 y1
    obtain ⟨a0, a1, a2, a3⟩ := id R4
    go_wp2
    generalize hW : World.setCell _ _ _ = W8
    obtain ⟨⟨_, r1, r2, _⟩, _, _, hb8⟩ := s2_put hW _ _ R4
    refine bodyPost_ret (v := .tuple #[.agg #[.string (bs r.1.1), .string (bs r.1.2)], .bool r.2]) (by simp [results, Tryd.results23, go_sem, r1, r2]) rfl ⟨by rw [HF.out], ?_⟩
    exact hb8 w B4 hne

end Go.Proofs.YtpheihejgnlanaaDoor
