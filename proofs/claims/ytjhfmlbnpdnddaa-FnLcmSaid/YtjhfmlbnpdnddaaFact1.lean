/- A fact of the whole translation, once for all rows. -/
import Derived.Test.YtjhfmlbnpdnddaaRows
import Derived.ProofKit
import Derived.JoinedOf
namespace Go.Proofs.Ytjhfmlbnpdnddaa
theorem Try.mayEnterT : Try.prog.mayEnter = true := by kernel_rfl
end Go.Proofs.Ytjhfmlbnpdnddaa
