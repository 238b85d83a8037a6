/- A fact of the whole translation, once for all rows. -/
import Derived.Test.YtcgolbkpfncgpaaRows
import Derived.ProofKit
import Derived.JoinedOf
namespace Go.Proofs.Ytcgolbkpfncgpaa
theorem Try.makeC : Try.prog.make = some .cut := by kernel_rfl
end Go.Proofs.Ytcgolbkpfncgpaa
