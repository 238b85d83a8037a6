/- A fact of the whole translation, once for all rows. -/
import Derived.Test.YtpiaefodhjafmaaRows
import Derived.ProofKit
import Derived.JoinedOf
namespace Go.Proofs.Ytpiaefodhjafmaa
theorem Try.liftsFinalF : Try.prog.liftsFinal = false := by kernel_rfl
end Go.Proofs.Ytpiaefodhjafmaa
