/- A fact of the whole translation, once for all rows. -/
import Derived.Test.YtaiajdeognnndaaRows
import Derived.ProofKit
import Derived.JoinedOf
namespace Go.Proofs.Ytaiajdeognnndaa
theorem Try.makeC : Try.prog.make = some .cut := by kernel_rfl
end Go.Proofs.Ytaiajdeognnndaa
