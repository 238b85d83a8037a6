/- Contracts of the model's EvalTerm, AddTerms, ScaleTerm, SubstTerm and SwapVars. -/
import Derived.Test.YtbppcpaodfjpkaaDoorSpecB
import Derived.Deep.RegionWith
namespace Go.Proofs.YtbppcpaodfjpkaaDoor
open Go.RowKit

end Go.Proofs.YtbppcpaodfjpkaaDoor
