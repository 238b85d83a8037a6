/- A fact of the whole translation, once for all rows. -/
import Derived.Test.YtbjmnbpomgaioaaRows
import Derived.ProofKit
import Derived.JoinedOf
namespace Go.Proofs.Ytbjmnbpomgaioaa
theorem Try.mayEnterT : Try.prog.mayEnter = true := by kernel_rfl
end Go.Proofs.Ytbjmnbpomgaioaa
