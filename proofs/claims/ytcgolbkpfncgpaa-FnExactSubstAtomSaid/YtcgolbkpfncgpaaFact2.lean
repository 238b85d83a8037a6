/- A fact of the whole translation, once for all rows. -/
import Derived.Test.YtcgolbkpfncgpaaRows
import Derived.ProofKit
import Derived.JoinedOf
namespace Go.Proofs.Ytcgolbkpfncgpaa
theorem Try.liftsFinalF : Try.prog.liftsFinal = false := by kernel_rfl
end Go.Proofs.Ytcgolbkpfncgpaa
