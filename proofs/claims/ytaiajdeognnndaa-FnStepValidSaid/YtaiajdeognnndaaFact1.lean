/- A fact of the whole translation, once for all rows. -/
import Derived.Test.YtaiajdeognnndaaRows
import Derived.ProofKit
import Derived.JoinedOf
namespace Go.Proofs.Ytaiajdeognnndaa
theorem Try.mayEnterT : Try.prog.mayEnter = true := by kernel_rfl
end Go.Proofs.Ytaiajdeognnndaa
