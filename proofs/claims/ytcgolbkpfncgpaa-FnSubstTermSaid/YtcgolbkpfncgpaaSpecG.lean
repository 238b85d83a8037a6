/- The model's AddTerms of a term that is not valid. -/
import Derived.Test.YtcgolbkpfncgpaaSpecD
import Derived.Test.YtcgolbkpfncgpaaIm
import Derived.Test.YtcgolbkpfncgpaaHeld
namespace Go.Proofs.Ytcgolbkpfncgpaa
open Go.RowKit

end Go.Proofs.Ytcgolbkpfncgpaa
