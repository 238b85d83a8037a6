/- The model's AddTerms of a term that is not valid. -/
import Derived.Test.YtjhfmlbnpdnddaaSpecD
import Derived.Test.YtjhfmlbnpdnddaaIm
import Derived.Test.YtjhfmlbnpdnddaaHeld
namespace Go.Proofs.Ytjhfmlbnpdnddaa
open Go.RowKit

end Go.Proofs.Ytjhfmlbnpdnddaa
