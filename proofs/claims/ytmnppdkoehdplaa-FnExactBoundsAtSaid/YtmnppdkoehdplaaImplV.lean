/- isVar with its answer named. -/
import Derived.Test.YtmnppdkoehdplaaBas
namespace Go.Proofs.Ytmnppdkoehdplaa
open Go.RowKit
theorem isVar_t (v : Int) (t : Bool) (w : World) (h : varB v = t) :
    Calls Try.prog 31 #[.int .i64 v] w fun e w' => e = .returned (.bool t) ∧ w = w' :=
  (isVar_any v w).mono fun _ _ ⟨he, hw⟩ => ⟨he.trans (ret_bool h), hw⟩
end Go.Proofs.Ytmnppdkoehdplaa
