/- Contracts of the model's EvalTerm, AddTerms, ScaleTerm, SubstTerm and SwapVars. -/
import Derived.Test.YtjbbknbnknhjhaaDoorSpecB
import Derived.Deep.RegionWith
namespace Go.Proofs.YtjbbknbnknhjhaaDoor
open Go.RowKit

end Go.Proofs.YtjbbknbnknhjhaaDoor
