/- Contracts of the model's EvalTerm, AddTerms, ScaleTerm, SubstTerm and SwapVars. -/
import Derived.Test.YtcgolbkpfncgpaaSpecB
import Derived.Deep.RegionWith
namespace Go.Proofs.Ytcgolbkpfncgpaa
open Go.RowKit

end Go.Proofs.Ytcgolbkpfncgpaa
