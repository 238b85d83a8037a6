/- Contracts of AddTerms of the program. -/
import Derived.Test.YtjhfmlbnpdnddaaIm
import Derived.Test.YtjhfmlbnpdnddaaBaseC
import Derived.Deep.RegionWith
namespace Go.Proofs.Ytjhfmlbnpdnddaa
open Go.RowKit

end Go.Proofs.Ytjhfmlbnpdnddaa
