/- Contracts of the model's EvalTerm, AddTerms, ScaleTerm, SubstTerm and SwapVars. -/
import Derived.Test.YtbjmnbpomgaioaaSpecB
import Derived.Deep.RegionWith
namespace Go.Proofs.Ytbjmnbpomgaioaa
open Go.RowKit

end Go.Proofs.Ytbjmnbpomgaioaa
