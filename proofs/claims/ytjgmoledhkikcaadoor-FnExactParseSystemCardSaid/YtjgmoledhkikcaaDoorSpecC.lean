/- Contracts of the model's EvalTerm, AddTerms, ScaleTerm, SubstTerm and SwapVars. -/
import Derived.Test.YtjgmoledhkikcaaDoorSpecB
import Derived.Deep.RegionWith
namespace Go.Proofs.YtjgmoledhkikcaaDoor
open Go.RowKit

end Go.Proofs.YtjgmoledhkikcaaDoor
