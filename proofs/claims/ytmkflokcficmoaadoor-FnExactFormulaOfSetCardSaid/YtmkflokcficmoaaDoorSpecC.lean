/- Contracts of the model's EvalTerm, AddTerms, ScaleTerm, SubstTerm and SwapVars. -/
import Derived.Test.YtmkflokcficmoaaDoorSpecB
import Derived.Deep.RegionWith
namespace Go.Proofs.YtmkflokcficmoaaDoor
open Go.RowKit

end Go.Proofs.YtmkflokcficmoaaDoor
