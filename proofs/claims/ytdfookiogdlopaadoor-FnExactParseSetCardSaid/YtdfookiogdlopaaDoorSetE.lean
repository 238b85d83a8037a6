/- The model's results: the normal form where it is valid; NormalSet, HasNumber. -/
import Derived.Test.YtdfookiogdlopaaDoorSetD
namespace Go.Proofs.YtdfookiogdlopaaDoor
open Go.RowKit

theorem res_yes {h l : List UInt8} (hl : l ≠ []) (h1 : ∀ x ∈ h, x = 48 ∨ x = 49) (h2 : ∀ x ∈ l, x = 48 ∨ x = 49) (hv : svS (nfS h l).1 (nfS h l).2 = true) : resA (atS h l) = (nfS h l, true) := by
  rw [sv_nf hl h1 h2, decide_eq_true_eq] at hv
  rw [res_nf hl, if_pos hv]
theorem res_no {h l : List UInt8} (hl : l ≠ []) (h1 : ∀ x ∈ h, x = 48 ∨ x = 49) (h2 : ∀ x ∈ l, x = 48 ∨ x = 49) (hv : svS (nfS h l).1 (nfS h l).2 = false) : resA (atS h l) = (([], []), false) := by
  rw [sv_nf hl h1 h2, decide_eq_false_iff_not] at hv
  rw [res_nf hl, if_neg hv]

theorem specSetValid_b (h l : List UInt8) (w : World) (hh : h.length ≤ 1000000000) (hl : l.length ≤ 1000000000) :
    Calls Tryd.prog 12 #[.agg #[.string (bs h), .string (bs l)]] w fun e w' => e = .returned (.bool (svS h l)) ∧ Below w.heap.size w w' :=
  (specSetValid_any h l w hh hl).mono fun _ _ ⟨he, hw⟩ => ⟨he, by subst hw; go_grown⟩

/-- What NormalSet answers. -/
noncomputable def normR (h l : List UInt8) : (List UInt8 × List UInt8) × Bool := if svS h l = true then resA (atS h l) else (([], []), false)

end Go.Proofs.YtdfookiogdlopaaDoor
