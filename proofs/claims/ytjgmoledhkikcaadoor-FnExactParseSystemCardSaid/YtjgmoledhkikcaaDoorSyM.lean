/- BoundsAt's mathematics: quotients rounded up, the least and the greatest value. -/
import Derived.Test.YtjgmoledhkikcaaDoorBas
namespace Go.Proofs.YtjgmoledhkikcaaDoor

/-- n / d rounded up. -/
def cl (n d : Int) : Int := -((-n) / d)

theorem cl_pos {n d : Int} (hd : 0 < d) : cl n d = if n % d = 0 then n / d else n / d + 1 := by
  unfold cl
  have h1 := Int.emod_add_mul_ediv n d
  have h2 := Int.emod_nonneg n (by omega : d ≠ 0)
  have h3 := Int.emod_lt_of_pos n hd
  have h4 := Int.emod_add_mul_ediv (-n) d
  have h5 := Int.emod_nonneg (-n) (by omega : d ≠ 0)
  have h6 := Int.emod_lt_of_pos (-n) hd
  generalize hq : n / d = q at *
  generalize hr : n % d = r at *
  generalize hq' : (-n) / d = q' at *
  generalize hr' : (-n) % d = r' at *
  -- n = r + d q, -n = r' + d q'; r + r' = - d (q + q')
  have e : d * (q + q') = -(r + r') := by rw [Int.mul_add]; omega
  split
  · rename_i h0
    have : q + q' = 0 := by
      rcases Int.lt_trichotomy (q + q') 0 with g | g | g
      · have : d * (q + q') ≤ d * (-1) := Int.mul_le_mul_of_nonneg_left (by omega) (by omega)
        omega
      · exact g
      · have : d * 1 ≤ d * (q + q') := Int.mul_le_mul_of_nonneg_left (by omega) (by omega)
        omega
    omega
  · rename_i h0
    have : q + q' = -1 := by
      rcases Int.lt_trichotomy (q + q') (-1) with g | g | g
      · have : d * (q + q') ≤ d * (-2) := Int.mul_le_mul_of_nonneg_left (by omega) (by omega)
        omega
      · exact g
      · have : d * 0 ≤ d * (q + q') := Int.mul_le_mul_of_nonneg_left (by omega) (by omega)
        omega
    omega

theorem cl_neg {n d : Int} (hn : n ≤ 0) : cl n d = Int.tdiv n d := by
  unfold cl
  obtain ⟨m, rfl⟩ : ∃ m, n = -m := ⟨-n, by omega⟩
  rw [Int.neg_neg, Int.neg_tdiv, Int.tdiv_eq_ediv_of_nonneg (by omega)]

theorem cl_tdiv {n d : Int} (hn : 0 < n) (hd : 0 < d) : cl n d = if Int.tmod n d = 0 then Int.tdiv n d else Int.tdiv n d + 1 := by
  rw [cl_pos hd, Int.tmod_eq_emod_of_nonneg (by omega), Int.tdiv_eq_ediv_of_nonneg (by omega)]

theorem cl_bd {n d M : Int} (hd : 0 < d) (h0 : -M ≤ n) (h1 : n ≤ M) (hM : 0 ≤ M) : -M ≤ cl n d ∧ cl n d ≤ M := by
  unfold cl
  have b1 : (-n) / d ≤ M := Int.ediv_le_of_le_mul hd (by have : M * 1 ≤ M * d := Int.mul_le_mul_of_nonneg_left (by omega) hM; omega)
  have b2 : -M ≤ (-n) / d := Int.le_ediv_of_mul_le hd (by have : M * 1 ≤ M * d := Int.mul_le_mul_of_nonneg_left (by omega) hM; rw [Int.neg_mul]; omega)
  omega
/-- The model's way. -/
theorem cl_model {n d : Int} (hd : 0 < d) : Int.tdiv (n + (-n) % d) d = cl n d := by
  unfold cl
  have h4 := Int.emod_add_mul_ediv (-n) d
  have : n + (-n) % d = d * (-((-n) / d)) := by rw [Int.mul_neg]; omega
  rw [this, Int.mul_tdiv_cancel_left _ (by omega)]

abbrev PP := List (Int × Int)
def loS (l : Int) (x : Int × Int) : Int := if x.1 < 0 then max l (cl x.2 (-x.1)) else l
def hiS (g : Int) (x : Int × Int) : Int := if 0 < x.1 then min g (-(cl x.2 x.1)) else g
def bdS (x : Int × Int) : Bool := decide (x.1 = 0) && decide (0 < x.2)
def MX : Int := 9223372036854775807
def loF (P : PP) : Int := P.foldl loS 0
def hiF (P : PP) : Int := P.foldl hiS MX
def bdF (P : PP) : Bool := P.any bdS
/-- The answer of BoundsAt where the arguments are valid. -/
def bdA (P : PP) : (Int × Int) × Bool := if bdF P = true ∨ hiF P < loF P then ((0, 0), false) else ((loF P, if hiF P = MX then -1 else hiF P), true)

def okP (P : PP) : Prop := ∀ x ∈ P, -100 ≤ x.1 ∧ x.1 ≤ 100 ∧ -500000 ≤ x.2 ∧ x.2 ≤ 500000

theorem lo_snoc (P : PP) (x : Int × Int) : loF (P ++ [x]) = loS (loF P) x := by simp [loF]
theorem hi_snoc (P : PP) (x : Int × Int) : hiF (P ++ [x]) = hiS (hiF P) x := by simp [hiF]
theorem bd_snoc (P : PP) (x : Int × Int) : bdF (P ++ [x]) = (bdF P || bdS x) := by simp [bdF]
theorem bd_app (P Q : PP) (h : bdF P = true) : bdF (P ++ Q) = true := by simp only [bdF, List.any_append] at *; rw [h]; rfl
theorem lo_mono (Q : PP) : ∀ l, l ≤ Q.foldl loS l := by
  induction Q with
  | nil => intro l; exact Int.le_refl _
  | cons x Q ih =>
    intro l
    refine Int.le_trans ?_ (ih _)
    unfold loS
    split
    · exact Int.le_max_left _ _
    · exact Int.le_refl _
theorem hi_mono (Q : PP) : ∀ l, Q.foldl hiS l ≤ l := by
  induction Q with
  | nil => intro l; exact Int.le_refl _
  | cons x Q ih =>
    intro l
    refine Int.le_trans (ih _) ?_
    unfold hiS
    split
    · exact Int.min_le_left _ _
    · exact Int.le_refl _
theorem lo_app (P Q : PP) : loF P ≤ loF (P ++ Q) := by simp only [loF, List.foldl_append]; exact lo_mono _ _
theorem hi_app (P Q : PP) : hiF (P ++ Q) ≤ hiF P := by simp only [hiF, List.foldl_append]; exact hi_mono _ _
theorem lo_pos (P : PP) : 0 ≤ loF P := lo_mono P 0

theorem ok_snoc {P : PP} {x : Int × Int} (h : okP (P ++ [x])) : okP P ∧ (-100 ≤ x.1 ∧ x.1 ≤ 100 ∧ -500000 ≤ x.2 ∧ x.2 ≤ 500000) :=
  ⟨fun y hy => h y (List.mem_append_left _ hy), h x (List.mem_append_right _ (List.mem_singleton.2 rfl))⟩
theorem loS_bd {l : Int} {x : Int × Int} (h : -100 ≤ x.1 ∧ x.1 ≤ 100 ∧ -500000 ≤ x.2 ∧ x.2 ≤ 500000) (h0 : 0 ≤ l ∧ l ≤ 500000) : 0 ≤ loS l x ∧ loS l x ≤ 500000 := by
  unfold loS
  split
  · have := cl_bd (n := x.2) (d := -x.1) (M := 500000) (by omega) (by omega) (by omega) (by omega)
    omega
  · omega
theorem hiS_bd {g : Int} {x : Int × Int} (h : -100 ≤ x.1 ∧ x.1 ≤ 100 ∧ -500000 ≤ x.2 ∧ x.2 ≤ 500000) (h0 : -500000 ≤ g ∧ (g = MX ∨ g ≤ 500000)) : -500000 ≤ hiS g x ∧ (hiS g x = MX ∨ hiS g x ≤ 500000) := by
  unfold hiS
  split
  · have := cl_bd (n := x.2) (d := x.1) (M := 500000) (by omega) (by omega) (by omega) (by omega)
    unfold MX at *
    omega
  · exact h0
theorem lo_bd (P : PP) (h : okP P) : 0 ≤ loF P ∧ loF P ≤ 500000 := by
  suffices ∀ l, 0 ≤ l ∧ l ≤ 500000 → 0 ≤ P.foldl loS l ∧ P.foldl loS l ≤ 500000 from this 0 (by omega)
  induction P with
  | nil => intro l hl; exact hl
  | cons x P ih => intro l hl; exact ih (fun y hy => h y (List.mem_cons_of_mem _ hy)) _ (loS_bd (h x (List.mem_cons_self ..)) hl)
theorem hi_bd (P : PP) (h : okP P) : -500000 ≤ hiF P ∧ (hiF P = MX ∨ hiF P ≤ 500000) := by
  suffices ∀ l, -500000 ≤ l ∧ (l = MX ∨ l ≤ 500000) → -500000 ≤ P.foldl hiS l ∧ (P.foldl hiS l = MX ∨ P.foldl hiS l ≤ 500000) from this MX (by unfold MX; omega)
  induction P with
  | nil => intro l hl; exact hl
  | cons x P ih => intro l hl; exact ih (fun y hy => h y (List.mem_cons_of_mem _ hy)) _ (hiS_bd (h x (List.mem_cons_self ..)) hl)
/-- The model gives up early at an upper bound that is negative. -/
theorem bd_early (P Q : PP) (x : Int × Int) (h1 : 0 < x.1) (h2 : 0 < x.2) : bdA (P ++ x :: Q) = ((0, 0), false) := by
  unfold bdA
  rw [if_pos]
  right
  have e : P ++ x :: Q = (P ++ [x]) ++ Q := by simp
  rw [e]
  have a := hi_app (P ++ [x]) Q
  have b := lo_pos ((P ++ [x]) ++ Q)
  have c : cl x.2 x.1 ≥ 1 := by
    rw [cl_pos h1]
    have h5 := Int.emod_add_mul_ediv x.2 x.1
    have h6 := Int.emod_nonneg x.2 (by omega : x.1 ≠ 0)
    have h7 : 0 ≤ x.2 / x.1 := Int.ediv_nonneg (by omega) (by omega)
    split
    · rename_i h0
      rcases Int.lt_or_eq_of_le h7 with g | g
      · omega
      · rw [← g, h0] at h5; simp at h5; omega
    · omega
  rw [hi_snoc] at a
  unfold hiS at a
  rw [if_pos h1] at a
  omega
theorem bd_bad (P : PP) (h : bdF P = true) : bdA P = ((0, 0), false) := by unfold bdA; rw [if_pos (.inl h)]
/-- The model's greatest value, where nothing has ended yet. -/
def hM (g : Int) : Int := if g = MX then -1 else g
theorem hM_lt {g : Int} (h : 0 ≤ g) : decide (hM g < 0) = decide (g = MX) := by
  unfold hM
  split
  · rename_i e; rw [decide_eq_true (by omega), decide_eq_true e]
  · rename_i e; rw [decide_eq_false (by omega), decide_eq_false e]
theorem mod_model {n d : Int} (hd : 0 < d) : Int.tmod (Int.tmod n d + d) d = n % d := by
  have h1 := Int.tmod_lt_of_pos n hd
  have h2 : -d < Int.tmod n d := by
    have := Int.tmod_lt_of_pos (-n) hd
    rw [Int.neg_tmod] at this
    omega
  rw [Int.tmod_eq_emod_of_nonneg (by omega), Int.add_emod_right]
  have h3 := Int.mul_tdiv_add_tmod n d
  have : n % d = (Int.tmod n d + d * Int.tdiv n d) % d := by congr 1; omega
  rw [this, Int.add_mul_emod_self_left]
theorem take_snoc {α : Type} {L : List α} {k : Nat} {y : α} (h : L[k]? = some y) : L.take (k + 1) = L.take k ++ [y] := by
  rw [List.take_add_one, h]; rfl
theorem take_split {α : Type} {L : List α} {k : Nat} {y : α} (h : L[k]? = some y) : L = L.take k ++ y :: L.drop (k + 1) := by
  have := (List.take_append_drop (k + 1) L).symm
  rw [take_snoc h] at this
  simpa using this
end Go.Proofs.YtjgmoledhkikcaaDoor
