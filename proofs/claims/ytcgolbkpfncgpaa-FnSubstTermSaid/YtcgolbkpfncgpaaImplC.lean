/- Contracts of AddTerms of the program. -/
import Derived.Test.YtcgolbkpfncgpaaIm
import Derived.Test.YtcgolbkpfncgpaaBaseC
import Derived.Deep.RegionWith
namespace Go.Proofs.Ytcgolbkpfncgpaa
open Go.RowKit

end Go.Proofs.Ytcgolbkpfncgpaa
