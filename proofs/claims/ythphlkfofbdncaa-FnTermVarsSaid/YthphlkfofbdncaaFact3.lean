/- A fact of the whole translation, once for all rows. -/
import Derived.Test.YthphlkfofbdncaaRows
import Derived.ProofKit
import Derived.JoinedOf
namespace Go.Proofs.Ythphlkfofbdncaa
theorem Try.makeC : Try.prog.make = some .cut := by kernel_rfl
end Go.Proofs.Ythphlkfofbdncaa
