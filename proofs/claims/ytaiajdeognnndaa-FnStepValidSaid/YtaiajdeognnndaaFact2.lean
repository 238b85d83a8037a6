/- A fact of the whole translation, once for all rows. -/
import Derived.Test.YtaiajdeognnndaaRows
import Derived.ProofKit
import Derived.JoinedOf
namespace Go.Proofs.Ytaiajdeognnndaa
theorem Try.liftsFinalF : Try.prog.liftsFinal = false := by kernel_rfl
end Go.Proofs.Ytaiajdeognnndaa
