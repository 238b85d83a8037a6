/- Contracts of the model's EvalTerm, AddTerms, ScaleTerm, SubstTerm and SwapVars. -/
import Derived.Test.YtaiajdeognnndaaSpecB
import Derived.Deep.RegionWith
namespace Go.Proofs.Ytaiajdeognnndaa
open Go.RowKit

end Go.Proofs.Ytaiajdeognnndaa
