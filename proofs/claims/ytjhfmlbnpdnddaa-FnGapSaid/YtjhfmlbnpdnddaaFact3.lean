/- A fact of the whole translation, once for all rows. -/
import Derived.Test.YtjhfmlbnpdnddaaRows
import Derived.ProofKit
import Derived.JoinedOf
namespace Go.Proofs.Ytjhfmlbnpdnddaa
theorem Try.makeC : Try.prog.make = some .cut := by kernel_rfl
end Go.Proofs.Ytjhfmlbnpdnddaa
