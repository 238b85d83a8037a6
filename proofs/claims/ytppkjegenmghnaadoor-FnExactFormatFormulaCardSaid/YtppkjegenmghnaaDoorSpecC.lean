/- Contracts of the model's EvalTerm, AddTerms, ScaleTerm, SubstTerm and SwapVars. -/
import Derived.Test.YtppkjegenmghnaaDoorSpecB
import Derived.Deep.RegionWith
namespace Go.Proofs.YtppkjegenmghnaaDoor
open Go.RowKit

end Go.Proofs.YtppkjegenmghnaaDoor
