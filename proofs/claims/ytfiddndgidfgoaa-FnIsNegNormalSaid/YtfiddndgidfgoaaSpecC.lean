/- Contracts of the model's EvalTerm, AddTerms, ScaleTerm, SubstTerm and SwapVars. -/
import Derived.Test.YtfiddndgidfgoaaSpecB
import Derived.Deep.RegionWith
namespace Go.Proofs.Ytfiddndgidfgoaa
open Go.RowKit

end Go.Proofs.Ytfiddndgidfgoaa
