/- Contracts of the model's AddTerms. -/
import Derived.Test.YtcgolbkpfncgpaaSpecD
import Derived.Test.YtcgolbkpfncgpaaIm
import Derived.Test.YtcgolbkpfncgpaaHeld
import Derived.Test.YtcgolbkpfncgpaaSpecG
namespace Go.Proofs.Ytcgolbkpfncgpaa
open Go.RowKit

end Go.Proofs.Ytcgolbkpfncgpaa
