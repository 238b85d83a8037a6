/- Contracts of the model's EvalTerm, AddTerms, ScaleTerm, SubstTerm and SwapVars. -/
import Derived.Test.YtahilpccnabbgaaSpecB
import Derived.Deep.RegionWith
namespace Go.Proofs.Ytahilpccnabbgaa
open Go.RowKit

end Go.Proofs.Ytahilpccnabbgaa
