/- Which steps are valid, as a function of lists. -/
namespace Go.Proofs.Ytaiajdeognnndaa

def svR : Int → Int → List Int → List Int → Bool
  | _, _, [], _ => true
  | _, _, _ :: _, [] => false
  | l, n, x :: F, t :: T => decide (l ≤ x) && decide (x < n) && decide (1 ≤ t) && decide (t ≤ 1000) && svR (x + 1) n F T
/-- Whether a step is valid behind n lines. -/
def svB (F T : List Int) (n : Int) : Bool := decide (0 < F.length) && (decide (F.length = T.length) && svR 0 n F T)
theorem svR_at {l n x t : Int} {F T : List Int} {k : Nat} (hx : F[k]? = some x) (ht : T[k]? = some t) :
    svR l n (F.drop k) (T.drop k) = (decide (l ≤ x) && decide (x < n) && decide (1 ≤ t) && decide (t ≤ 1000) && svR (x + 1) n (F.drop (k + 1)) (T.drop (k + 1))) := by
  have h1 := (List.getElem?_eq_some_iff.1 hx)
  have h2 := (List.getElem?_eq_some_iff.1 ht)
  rw [List.drop_eq_getElem_cons h1.1, List.drop_eq_getElem_cons h2.1, h1.2, h2.2]
  rfl
theorem svR_end {l n : Int} {F T : List Int} {k : Nat} (h : F.length ≤ k) : svR l n (F.drop k) (T.drop k) = true := by
  rw [List.drop_eq_nil_of_le h]
  rfl
end Go.Proofs.Ytaiajdeognnndaa
