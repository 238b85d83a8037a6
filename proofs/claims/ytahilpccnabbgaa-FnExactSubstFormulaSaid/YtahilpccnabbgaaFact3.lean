/- A fact of the whole translation, once for all rows. -/
import Derived.Test.YtahilpccnabbgaaRows
import Derived.ProofKit
import Derived.JoinedOf
namespace Go.Proofs.Ytahilpccnabbgaa
theorem Try.makeC : Try.prog.make = some .cut := by kernel_rfl
end Go.Proofs.Ytahilpccnabbgaa
