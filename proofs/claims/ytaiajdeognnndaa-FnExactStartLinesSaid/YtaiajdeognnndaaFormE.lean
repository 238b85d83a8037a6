/- The comparison of an atom with the zero value; the contract of validApart. -/
import Derived.Test.YtaiajdeognnndaaFormD
import Derived.Deep.QuietTactic
import Derived.BigQuiet
namespace Go.Proofs.Ytaiajdeognnndaa
open Go.RowKit

/-- The atom is the zero value. -/
def zB (h : FH) : Bool := decide (h.ak = 0 ∧ h.am = 0 ∧ h.a = 0 ∧ h.b = 0 ∧ h.c = 0 ∧ h.d = 0 ∧ h.n = 0)
def atB (h : FH) : Bool := avB h.ak h.am h.a h.b h.c h.d h.n
/-- A formula is valid apart from its parts. -/
def ownB (h : FH) (len : Nat) : Bool := (if h.k = 2 then atB h else zB h) && (if qB h.k then varB h.v else decide (h.v = 0)) && decide ((len : Int) = subsI h.k)

theorem Try.neq_atom (k m a b c d n : Int) (t : Bool) (h : decide (k = 0 ∧ m = 0 ∧ a = 0 ∧ b = 0 ∧ c = 0 ∧ d = 0 ∧ n = 0) = t) (w : World) :
    (binOp .neq 49 (.agg #[.int .i64 k, .int .i64 m, .int .i64 a, .int .i64 b, .int .i64 c, .int .i64 d, .int .i64 n]) (.agg #[.int .i64 0, .int .i64 0, .int .i64 0, .int .i64 0, .int .i64 0, .int .i64 0, .int .i64 0])).run Try.prog w = .ok (.bool (!t)) w := by
  subst h
  by_cases h0 : k = 0
  · by_cases h1 : m = 0
    · by_cases h2 : a = 0
      · by_cases h3 : b = 0
        · by_cases h4 : c = 0
          · by_cases h5 : d = 0
            · by_cases h6 : n = 0
              · subst h0 h1 h2 h3 h4 h5 h6; kernel_rfl
              · subst h0 h1 h2 h3 h4 h5; go_simp
            · subst h0 h1 h2 h3 h4; go_simp
          · subst h0 h1 h2 h3; go_simp
        · subst h0 h1 h2; go_simp
      · subst h0 h1; go_simp
    · subst h0; go_simp
  · go_simp

theorem l3Quant_is (k : Int) (t : Bool) (w : World) (h : qB k = t) : Calls Try.prog 90 #[.int .i64 k] w fun e w' => e = .returned (.bool t) ∧ w = w' := by rw [← h]; exact l3Quant_any k w
theorem va_bool {b c : Bool} (h : b = c) : Ending.returned (.bool b) = .returned (.bool c) := by rw [h]

end Go.Proofs.Ytaiajdeognnndaa
