/- Periods: the least common multiple of moduli, of numbers up to 60 alone; which formulas have a period. -/
import Derived.Test.YtcgolbkpfncgpaaLcmI
import Derived.Test.YtcgolbkpfncgpaaFormZ
import Derived.Test.YtcgolbkpfncgpaaFormM
namespace Go.Proofs.Ytcgolbkpfncgpaa
open Go.RowKit

/-- One number more, up to 60. -/
def pdS (n x : Int) : Int := if n * (x / (Int.gcd n x : Nat)) ≤ 60 then n * (x / (Int.gcd n x : Nat)) else 61
def pdL : Int → List Int → Int
  | n, [] => n
  | n, x :: r => pdL (if n ≤ 60 then pdS n x else n) r
def prI (p : Int) : Int := if 60 < p then -1 else p

theorem pd_big (L : List Int) (n : Int) (h : 60 < n) : pdL n L = n := by
  induction L with
  | nil => rfl
  | cons x r ih =>
    unfold pdL
    rw [if_neg (by omega)]
    exact ih
theorem mod_in {x : Int} (h : 1 ≤ x ∧ x ≤ 100) : modB x = true := by
  simp only [modB, inB, decide_eq_true_eq]
  omega
theorem lc_big (L : List Int) : ∀ n : Int, 60 < n → n ≤ 10000 → (∀ x ∈ L, 1 ≤ x ∧ x ≤ 100) → lcL n L = -1 ∨ 60 < lcL n L := by
  induction L with
  | nil => intro n h _ _; exact .inr h
  | cons x r ih =>
    intro n h hn hL
    have hx := hL x List.mem_cons_self
    obtain ⟨g, q, p, hg, _, _, _, hq, q0, _, hp, _, hnp, _, _⟩ := lcm_parts (n := n) (x := x) (by omega) (by omega)
    simp only [lcL, lcS, mod_in hx, hg, hq, hp, if_true]
    by_cases h1 : p ≤ 10000
    · simp only [h1, if_true]
      exact ih p (by omega) h1 (fun y hy => hL y (List.mem_cons_of_mem _ hy))
    · simp only [h1, if_false]
      simp
theorem pd_lc (L : List Int) : ∀ n : Int, 1 ≤ n → n ≤ 60 → (∀ x ∈ L, 1 ≤ x ∧ x ≤ 100) → prI (lcL n L) = prI (pdL n L) := by
  induction L with
  | nil => intros; rfl
  | cons x r ih =>
    intro n h1 h6 hL
    have hx := hL x List.mem_cons_self
    obtain ⟨g, q, p, hg, _, _, _, hq, q0, q1, hp, _, hnp, _, _⟩ := lcm_parts (n := n) (x := x) (by omega) (by omega)
    have hpb := mul_bd (a := n) (x := q) (A := 60) (X := 100) (by omega) (by omega) (by omega) (by omega) (by omega)
    rw [hp] at hpb
    have h2 : p ≤ 10000 := by omega
    have hr : ∀ y ∈ r, 1 ≤ y ∧ y ≤ 100 := fun y hy => hL y (List.mem_cons_of_mem _ hy)
    simp only [lcL, lcS, mod_in hx, hg, hq, hp, if_true, pdL, pdS, h6, h2]
    by_cases h3 : p ≤ 60
    · simp only [h3, if_true]
      exact ih p (by omega) h3 hr
    · simp only [h3, if_false]
      rw [pd_big r 61 (by omega)]
      rcases lc_big r p (by omega) h2 hr with e | e
      · rw [e]; rfl
      · unfold prI
        rw [if_pos e, if_pos (by omega)]

/-- The coefficient of a variable in an atom. -/
def cfA (v : Int) (x : AtD) : Int := sel x.a x.b x.c x.d v 0
/-- An atom that no equation is, and in which a variable has the coefficient -1, 0 or 1. -/
def on1 (v : Int) (x : AtD) : Bool := !(x.k == 1) && inB (cfA v x) (-1) 1
def onB (v : Int) (h : FH) (f : Fo) : Bool := opB h f && (ngB h f && (varB v && (atF h f).all (on1 v)))
/-- The moduli of the atoms with a variable. -/
def pmL (v : Int) (L : List AtD) : List Int := (L.filter (fun x => !(x.k == 0) && !(cfA v x == 0))).map (·.m)
def perI (v : Int) (h : FH) (f : Fo) : Int := if onB v h f = true then prI (pdL 1 (pmL v (atF h f))) else -1

def avZ (x : AtD) : Bool := avB x.k x.m x.a x.b x.c x.d x.n
theorem own_at {h : FH} {len : Nat} (ho : ownB h len = true) (h2 : h.k = 2) : avZ (atD h) = true := by
  unfold ownB at ho
  rw [if_pos h2, Bool.and_eq_true, Bool.and_eq_true] at ho
  exact ho.1.1
theorem ats_valid : ∀ (f : Fo), f.okB = true → ∀ x ∈ f.ats, avZ x = true := by
  intro f
  induction f with
  | nil => intro _ x hx; simp [Fo.ats] at hx
  | cons h s r ih1 ih2 =>
    intro hok x hx
    simp only [Fo.okB, Bool.and_eq_true] at hok
    simp only [Fo.ats, List.mem_append] at hx
    rcases hx with hx | hx
    · by_cases h2 : h.k = 2
      · rw [if_pos h2, List.mem_singleton] at hx
        subst hx
        exact own_at hok.1.1 h2
      · rw [if_neg h2] at hx
        exact ih1 hok.1.2 x hx
    · exact ih2 hok.2 x hx
theorem atF_valid {h : FH} {f : Fo} (hv : vfB h f = true) : ∀ x ∈ atF h f, avZ x = true := by
  obtain ⟨ho, hok, _⟩ := vf_parts hv
  intro x hx
  unfold atF at hx
  by_cases h2 : h.k = 2
  · rw [if_pos h2, List.mem_singleton] at hx
    subst hx
    exact own_at ho h2
  · rw [if_neg h2] at hx
    exact ats_valid f hok x hx
theorem av_mod {v : Int} {x : AtD} (h : avZ x = true) (h1 : on1 v x = true) (h0 : (x.k == 0) = false) : 2 ≤ x.k ∧ 1 ≤ x.m ∧ x.m ≤ 100 := by
  obtain ⟨hc, _⟩ := avB_cases h
  have h0' : x.k ≠ 0 := by simpa using h0
  have h1' : x.k ≠ 1 := by
    intro e
    unfold on1 at h1
    rw [e] at h1
    exact absurd h1 (by simp)
  omega
theorem pm_in {v : Int} {L : List AtD} (ha : ∀ x ∈ L, avZ x = true) (h1 : L.all (on1 v) = true) : ∀ y ∈ pmL v L, 1 ≤ y ∧ y ≤ 100 := by
  intro y hy
  unfold pmL at hy
  rw [List.mem_map] at hy
  obtain ⟨x, hx, rfl⟩ := hy
  rw [List.mem_filter, Bool.and_eq_true] at hx
  have := av_mod (ha x hx.1) (List.all_eq_true.1 h1 x hx.1) (by simpa using hx.2.1)
  exact this.2
theorem pm_yes {v : Int} {L : List AtD} {x : AtD} (h0 : (x.k == 0) = false) (hc : (cfA v x == 0) = false) : pmL v (L ++ [x]) = pmL v L ++ [x.m] := by
  simp [pmL, List.filter_append, h0, hc]
theorem pm_no {v : Int} {L : List AtD} {x : AtD} (h : (x.k == 0) = true ∨ (cfA v x == 0) = true) : pmL v (L ++ [x]) = pmL v L := by
  rcases h with h | h <;> simp [pmL, List.filter_append, h]
theorem on_parts {v : Int} {h : FH} {f : Fo} (ho : onB v h f = true) : vfB h f = true ∧ varB v = true ∧ (atF h f).all (on1 v) = true := by
  unfold onB opB at ho
  simp only [Bool.and_eq_true] at ho
  exact ⟨ho.1.1, ho.2.2.1, ho.2.2.2⟩

end Go.Proofs.Ytcgolbkpfncgpaa
