/- The walks of the laws that say that AtomValid and TruthAtom answer as their models do. -/
import Derived.Test.YtjhfmlbnpdnddaaAtB
import Derived.Test.YtjhfmlbnpdnddaaLawB
namespace Go.Proofs.Ytjhfmlbnpdnddaa
open Go.RowKit

end Go.Proofs.Ytjhfmlbnpdnddaa
