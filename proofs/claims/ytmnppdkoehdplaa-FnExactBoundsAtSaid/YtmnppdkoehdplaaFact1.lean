/- A fact of the whole translation, once for all rows. -/
import Derived.Test.YtmnppdkoehdplaaRows
import Derived.ProofKit
import Derived.JoinedOf
namespace Go.Proofs.Ytmnppdkoehdplaa
theorem Try.mayEnterT : Try.prog.mayEnter = true := by kernel_rfl
end Go.Proofs.Ytmnppdkoehdplaa
