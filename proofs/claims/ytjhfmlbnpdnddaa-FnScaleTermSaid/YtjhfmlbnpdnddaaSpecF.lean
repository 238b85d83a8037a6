/- Contracts of the model's AddTerms. -/
import Derived.Test.YtjhfmlbnpdnddaaSpecD
import Derived.Test.YtjhfmlbnpdnddaaIm
import Derived.Test.YtjhfmlbnpdnddaaHeld
import Derived.Test.YtjhfmlbnpdnddaaSpecG
namespace Go.Proofs.Ytjhfmlbnpdnddaa
open Go.RowKit

end Go.Proofs.Ytjhfmlbnpdnddaa
