/- Several texts in one: BaseA BaseB BaseC. -/
import Derived.Test.YtjgmoledhkikcaaDoorRows
import Derived.WalkKit
import Derived.WalkSpells
import Derived.WalkLawsBesides
import Derived.Handy
import Derived.Lib.Hide
import Derived.Deep.Light
import Derived.Deep.QuietTactic
import Derived.BigQuiet
import Derived.BigRegion
import Derived.RegionTactic
import Derived.ChangeAlike
import Derived.Laws.CopyOwn
import Derived.Deep.WholeRow

/- Contracts of the small functions of chapter 1: limits, lists of multiples and values, validity, coefficients. -/
namespace Go.Proofs.YtjgmoledhkikcaaDoor
open Go.RowKit

def wlB (n l : Int) : Bool := decide (-l ≤ n ∧ n ≤ l)
def varB (v : Int) : Bool := decide (0 ≤ v ∧ v < 4)
def inB (n l h : Int) : Bool := decide (l ≤ n ∧ n ≤ h)
def tvB (a b c d n : Int) : Bool := wlB a 100 && wlB b 100 && wlB c 100 && wlB d 100 && wlB n 10000
def pvB (a b c d : Int) : Bool := inB a 0 1000 && inB b 0 1000 && inB c 0 1000 && inB d 0 1000
def sel (a b c d v : Int) (z : Int) : Int := if v = 0 then a else if v = 1 then b else if v = 2 then c else if v = 3 then d else z
def wvB (a b c d v n : Int) : Bool := pvB a b c d && varB v && inB n 0 1000
def o5 (a b c d n : Int) (t : TypeId) : Obj := .cells #[.int .i64 a, .int .i64 b, .int .i64 c, .int .i64 d, .int .i64 n] t (0, 0)
def o4 (a b c d : Int) (t : TypeId) : Obj := .cells #[.int .i64 a, .int .i64 b, .int .i64 c, .int .i64 d] t (0, 0)

theorem ret_bool {a b : Bool} (h : a = b) : Ending.returned (.bool a) = .returned (.bool b) := by rw [h]
theorem ret_int {a b : Int} (h : a = b) : Ending.returned (.int .i64 a) = .returned (.int .i64 b) := by rw [h]

set_option maxHeartbeats 400000 in
theorem withinLimit_any (n l : Int) (w : World) (h0 : 0 ≤ l) (h1 : l ≤ 100000) :
    Calls Tryd.prog 83 #[.int .i64 n, .int .i64 l] w fun e w' => e = .returned (.bool (wlB n l)) ∧ w = w' := by
  go_enter Tryd.func83, Tryd.ntmps83
  go_wp2
  all_goals (go_ret; exact ⟨ret_bool (by simp only [wlB]; simp; try omega), rfl⟩)

set_option maxHeartbeats 400000 in
theorem multiples_any (a b c d n : Int) (w : World) :
    Calls Tryd.prog 80 #[.agg #[.int .i64 a, .int .i64 b, .int .i64 c, .int .i64 d, .int .i64 n]] w fun e w' => e = .returned (.slice (some ⟨w.heap.size + 1, 0, none⟩) 5 5) ∧ (w.alloc (.cells #[.int .i64 a, .int .i64 b, .int .i64 c, .int .i64 d, .int .i64 n] 36)).alloc (.cells #[.int .i64 a, .int .i64 b, .int .i64 c, .int .i64 d, .int .i64 n] 3) = w' := by
  go_enter Tryd.func80, Tryd.ntmps80
  go_wp2
  go_ret
  exact ⟨rfl, rfl⟩

set_option maxHeartbeats 400000 in
theorem TermValid_any (a b c d n : Int) (w : World) :
    Calls Tryd.prog 58 #[.agg #[.int .i64 a, .int .i64 b, .int .i64 c, .int .i64 d, .int .i64 n]] w fun e w' => e = .returned (.bool (tvB a b c d n)) ∧
      ((w.alloc (.cells #[.int .i64 a, .int .i64 b, .int .i64 c, .int .i64 d, .int .i64 n] 36)).alloc (.cells #[.int .i64 a, .int .i64 b, .int .i64 c, .int .i64 d, .int .i64 n] 36)).alloc (.cells #[.int .i64 a, .int .i64 b, .int .i64 c, .int .i64 d, .int .i64 n] 3) = w' := by
  go_enter Tryd.func58, Tryd.ntmps58
  go_wp2_with (go_at_call 80; refine (multiples_any _ _ _ _ _ _).mono ?_; rintro e w' ⟨rfl, rfl⟩)
  refine wp_loop_rounds 5 ?_
  repeat any_goals (rw [rounds_succ]; go_wp2_with (go_at_call 83; refine (withinLimit_any _ _ _ (by omega) (by omega)).mono ?_; rintro e w' ⟨rfl, rfl⟩))
  all_goals (go_ret; exact ⟨ret_bool (by go_light; simp_all [tvB]), rfl⟩)

theorem TermValid_is (a b c d n : Int) (t : Bool) (w : World) (h : tvB a b c d n = t) :
    Calls Tryd.prog 58 #[.agg #[.int .i64 a, .int .i64 b, .int .i64 c, .int .i64 d, .int .i64 n]] w fun e w' => e = .returned (.bool t) ∧
      ((w.alloc (.cells #[.int .i64 a, .int .i64 b, .int .i64 c, .int .i64 d, .int .i64 n] 36)).alloc (.cells #[.int .i64 a, .int .i64 b, .int .i64 c, .int .i64 d, .int .i64 n] 36)).alloc (.cells #[.int .i64 a, .int .i64 b, .int .i64 c, .int .i64 d, .int .i64 n] 3) = w' :=
  (TermValid_any a b c d n w).mono fun _ _ ⟨he, hw⟩ => ⟨he.trans (ret_bool h), hw⟩

end Go.Proofs.YtjgmoledhkikcaaDoor

/- Contracts of the functions of chapter 1 that work on lists of multiples. -/
namespace Go.Proofs.YtjgmoledhkikcaaDoor
open Go.RowKit

theorem bcell {W w1 : World} (hb : Below W.heap.size W w1) : (∀ b o, b < W.heap.size → w1.cell? ⟨b, o, none⟩ = W.cell? ⟨b, o, none⟩) ∧ (∀ b o, b < W.heap.size → w1.frozen? ⟨b, o, none⟩ = W.frozen? ⟨b, o, none⟩) :=
  ⟨fun b o h => hb.cell (p := ⟨b, o, none⟩) h, fun b o h => hb.frozen (p := ⟨b, o, none⟩) h⟩

set_option maxHeartbeats 400000 in
theorem term_yes (a b c d n : Int) (bl : Nat) (w : World) (hb : bl < w.heap.size) (h0 : w.cell? ⟨bl, 0, none⟩ = some (.int .i64 a)) (h1 : w.cell? ⟨bl, 1, none⟩ = some (.int .i64 b)) (h2 : w.cell? ⟨bl, 2, none⟩ = some (.int .i64 c)) (h3 : w.cell? ⟨bl, 3, none⟩ = some (.int .i64 d)) (h4 : w.cell? ⟨bl, 4, none⟩ = some (.int .i64 n)) (hv : tvB a b c d n = true) :
    Calls Tryd.prog 79 #[.slice (some ⟨bl, 0, none⟩) 5 5] w fun e w' => e = .returned (.tuple #[.agg #[.int .i64 a, .int .i64 b, .int .i64 c, .int .i64 d, .int .i64 n], .bool true]) ∧ Below w.heap.size w w' := by
  have Hv := Lib.hid hv
  clear hv
  go_enter Tryd.func79, Tryd.ntmps79
  go_wp2
  go_region
  go_wp2_with (go_at_call 58; refine (TermValid_is _ _ _ _ _ _ _ Hv.out).mono ?_; rintro e w' ⟨rfl, rfl⟩)
  go_returns
  exact ⟨rfl, by go_grown⟩

set_option maxHeartbeats 400000 in
theorem term_no (a b c d n : Int) (bl : Nat) (w : World) (hb : bl < w.heap.size) (h0 : w.cell? ⟨bl, 0, none⟩ = some (.int .i64 a)) (h1 : w.cell? ⟨bl, 1, none⟩ = some (.int .i64 b)) (h2 : w.cell? ⟨bl, 2, none⟩ = some (.int .i64 c)) (h3 : w.cell? ⟨bl, 3, none⟩ = some (.int .i64 d)) (h4 : w.cell? ⟨bl, 4, none⟩ = some (.int .i64 n)) (hv : tvB a b c d n = false) :
    Calls Tryd.prog 79 #[.slice (some ⟨bl, 0, none⟩) 5 5] w fun e w' => e = .returned (.tuple #[.agg #[.int .i64 0, .int .i64 0, .int .i64 0, .int .i64 0, .int .i64 0], .bool false]) ∧ Below w.heap.size w w' := by
  have Hv := Lib.hid hv
  clear hv
  go_enter Tryd.func79, Tryd.ntmps79
  go_wp2
  go_region
  go_wp2_with (go_at_call 58; refine (TermValid_is _ _ _ _ _ _ _ Hv.out).mono ?_; rintro e w' ⟨rfl, rfl⟩)
  go_returns
  exact ⟨rfl, by go_grown⟩

end Go.Proofs.YtjgmoledhkikcaaDoor

/- Contracts of the functions of chapter 1 that make new lists of multiples. -/
namespace Go.Proofs.YtjgmoledhkikcaaDoor
open Go.RowKit

theorem cell_old {w : World} {b o : Nat} {x : Obj} (hb : b < w.heap.size) : (w.alloc x).cell? ⟨b, o, none⟩ = w.cell? ⟨b, o, none⟩ :=
  ((Below.refl w.heap.size w).alloc (Nat.le_refl _) x).cell (p := ⟨b, o, none⟩) hb

theorem run_copied (a b c d n : Int) (bl : Nat) (w : World) (hb : bl < w.heap.size) (h0 : w.cell? ⟨bl, 0, none⟩ = some (.int .i64 a)) (h1 : w.cell? ⟨bl, 1, none⟩ = some (.int .i64 b)) (h2 : w.cell? ⟨bl, 2, none⟩ = some (.int .i64 c)) (h3 : w.cell? ⟨bl, 3, none⟩ = some (.int .i64 d)) (h4 : w.cell? ⟨bl, 4, none⟩ = some (.int .i64 n)) :
    (Builtin.copy_ #[102, 102] 3 #[.slice (some ⟨w.heap.size, 0, none⟩) 5 5, .slice (some ⟨bl, 0, none⟩) 5 5]).run Tryd.prog (w.alloc (.cells #[.int .i64 0, .int .i64 0, .int .i64 0, .int .i64 0, .int .i64 0] 3)) = .ok (.int .i64 5) (w.alloc (.cells #[.int .i64 a, .int .i64 b, .int .i64 c, .int .i64 d, .int .i64 n] 3)) := by
  rw [run_copy_row (P := Tryd.prog) (w.alloc (.cells #[.int .i64 0, .int .i64 0, .int .i64 0, .int .i64 0, .int .i64 0] 3)) 102 102 3 3 w.heap.size 0 5 5 ⟨bl, 0, none⟩ 5 5 #[.int .i64 0, .int .i64 0, .int .i64 0, .int .i64 0, .int .i64 0] 3 [.int .i64 a, .int .i64 b, .int .i64 c, .int .i64 d, .int .i64 n]
    Tryd.underlying102 (by kernel_rfl) (heap_alloc_last w _) rfl (by
      intro j v hj
      match j, hj with
      | 0, hj => simp at hj; subst hj; exact (cell_old hb).trans h0
      | 1, hj => simp at hj; subst hj; exact (cell_old hb).trans h1
      | 2, hj => simp at hj; subst hj; exact (cell_old hb).trans h2
      | 3, hj => simp at hj; subst hj; exact (cell_old hb).trans h3
      | 4, hj => simp at hj; subst hj; exact (cell_old hb).trans h4
      | k + 5, hj => simp at hj) (by simp) (by simp [Value.oneCell'])]
  rw [World.setRow_alloc_new]
  rfl

def C5 (w : World) (bl : Nat) (a b c d n : Int) : Prop := bl < w.heap.size ∧ w.cell? ⟨bl, 0, none⟩ = some (.int .i64 a) ∧ w.cell? ⟨bl, 1, none⟩ = some (.int .i64 b) ∧ w.cell? ⟨bl, 2, none⟩ = some (.int .i64 c) ∧ w.cell? ⟨bl, 3, none⟩ = some (.int .i64 d) ∧ w.cell? ⟨bl, 4, none⟩ = some (.int .i64 n)

theorem term_ok (a b c d n : Int) (bl : Nat) (w : World) (hl : C5 w bl a b c d n) (hv : tvB a b c d n = true) :
    Calls Tryd.prog 79 #[.slice (some ⟨bl, 0, none⟩) 5 5] w fun e w' => e = .returned (.tuple #[.agg #[.int .i64 a, .int .i64 b, .int .i64 c, .int .i64 d, .int .i64 n], .bool true]) ∧ Below w.heap.size w w' :=
  term_yes a b c d n bl w hl.1 hl.2.1 hl.2.2.1 hl.2.2.2.1 hl.2.2.2.2.1 hl.2.2.2.2.2 hv
theorem term_bad (a b c d n : Int) (bl : Nat) (w : World) (hl : C5 w bl a b c d n) (hv : tvB a b c d n = false) :
    Calls Tryd.prog 79 #[.slice (some ⟨bl, 0, none⟩) 5 5] w fun e w' => e = .returned (.tuple #[.agg #[.int .i64 0, .int .i64 0, .int .i64 0, .int .i64 0, .int .i64 0], .bool false]) ∧ Below w.heap.size w w' :=
  term_no a b c d n bl w hl.1 hl.2.1 hl.2.2.1 hl.2.2.2.1 hl.2.2.2.2.1 hl.2.2.2.2.2 hv

theorem below_step {B : Nat} {w W w' : World} (h1 : Below B w W) (h2 : Below W.heap.size W w') (hB : B ≤ W.heap.size) : Below B w w' := h1.trans (h2.mono hB)

theorem tv_bd {a b c d n : Int} (h : tvB a b c d n = true) : (-100 ≤ a ∧ a ≤ 100) ∧ (-100 ≤ b ∧ b ≤ 100) ∧ (-100 ≤ c ∧ c ≤ 100) ∧ (-100 ≤ d ∧ d ≤ 100) ∧ (-10000 ≤ n ∧ n ≤ 10000) := by
  simp only [tvB, wlB, Bool.and_eq_true, decide_eq_true_eq] at h
  omega

def ev (a b c d n x y z u : Int) : Int := n + a * x + b * y + c * z + d * u

theorem mul_bd {a x A X : Int} (h0 : -A ≤ a) (h1 : a ≤ A) (g0 : 0 ≤ x) (g1 : x ≤ X) (hA : 0 ≤ A) : -(A * X) ≤ a * x ∧ a * x ≤ A * X := by
  have e1 : a * x ≤ A * x := Int.mul_le_mul_of_nonneg_right h1 g0
  have e2 : A * x ≤ A * X := Int.mul_le_mul_of_nonneg_left g1 hA
  have e3 : -A * x ≤ a * x := Int.mul_le_mul_of_nonneg_right h0 g0
  have e4 : -A * x = -(A * x) := Int.neg_mul A x
  omega

theorem mul_bd2 {a k A K : Int} (h0 : -A ≤ a) (h1 : a ≤ A) (g0 : -K ≤ k) (g1 : k ≤ K) (hA : 0 ≤ A) : -(A * K) ≤ a * k ∧ a * k ≤ A * K := by
  by_cases hk : 0 ≤ k
  · exact mul_bd h0 h1 hk g1 hA
  · have h := mul_bd h0 h1 (x := -k) (X := K) (by omega) (by omega) hA
    rw [Int.mul_neg] at h
    omega

theorem below_on {w W w' : World} (h1 : Below w.heap.size w W) (h2 : Below W.heap.size W w') : Below w.heap.size w w' := h1.trans (h2.mono h1.size)

/-- Two boxes of five ints, still there in a later world. -/
theorem keep55 {W w' : World} {x y : Nat} {a b c d n a' b' c' d' n' : Int} (hx : C5 W x a b c d n) (hy : C5 W y a' b' c' d' n') (hB : Below W.heap.size W w') :
    Below W.heap.size W w' ∧ w'.cell? ⟨x, 0, none⟩ = some (.int .i64 a) ∧ w'.cell? ⟨x, 1, none⟩ = some (.int .i64 b) ∧ w'.cell? ⟨x, 2, none⟩ = some (.int .i64 c) ∧ w'.cell? ⟨x, 3, none⟩ = some (.int .i64 d) ∧ w'.cell? ⟨x, 4, none⟩ = some (.int .i64 n) ∧
      w'.cell? ⟨y, 0, none⟩ = some (.int .i64 a') ∧ w'.cell? ⟨y, 1, none⟩ = some (.int .i64 b') ∧ w'.cell? ⟨y, 2, none⟩ = some (.int .i64 c') ∧ w'.cell? ⟨y, 3, none⟩ = some (.int .i64 d') ∧ w'.cell? ⟨y, 4, none⟩ = some (.int .i64 n') :=
  have f : ∀ o, w'.cell? ⟨x, o, none⟩ = W.cell? ⟨x, o, none⟩ := fun o => (bcell hB).1 x o hx.1
  have g : ∀ o, w'.cell? ⟨y, o, none⟩ = W.cell? ⟨y, o, none⟩ := fun o => (bcell hB).1 y o hy.1
  ⟨hB, (f 0).trans hx.2.1, (f 1).trans hx.2.2.1, (f 2).trans hx.2.2.2.1, (f 3).trans hx.2.2.2.2.1, (f 4).trans hx.2.2.2.2.2, (g 0).trans hy.2.1, (g 1).trans hy.2.2.1, (g 2).trans hy.2.2.2.1, (g 3).trans hy.2.2.2.2.1, (g 4).trans hy.2.2.2.2.2⟩

end Go.Proofs.YtjgmoledhkikcaaDoor
