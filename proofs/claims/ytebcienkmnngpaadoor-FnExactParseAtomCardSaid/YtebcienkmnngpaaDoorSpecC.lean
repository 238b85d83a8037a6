/- Contracts of the model's EvalTerm, AddTerms, ScaleTerm, SubstTerm and SwapVars. -/
import Derived.Test.YtebcienkmnngpaaDoorSpecB
import Derived.Deep.RegionWith
namespace Go.Proofs.YtebcienkmnngpaaDoor
open Go.RowKit

end Go.Proofs.YtebcienkmnngpaaDoor
