/- Contracts of the model's EvalTerm, AddTerms, ScaleTerm, SubstTerm and SwapVars. -/
import Derived.Test.YtjhfmlbnpdnddaaSpecB
import Derived.Deep.RegionWith
namespace Go.Proofs.Ytjhfmlbnpdnddaa
open Go.RowKit

end Go.Proofs.Ytjhfmlbnpdnddaa
