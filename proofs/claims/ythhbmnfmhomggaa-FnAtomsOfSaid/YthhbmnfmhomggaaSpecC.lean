/- Contracts of the model's EvalTerm, AddTerms, ScaleTerm, SubstTerm and SwapVars. -/
import Derived.Test.YthhbmnfmhomggaaSpecB
import Derived.Deep.RegionWith
namespace Go.Proofs.Ythhbmnfmhomggaa
open Go.RowKit

end Go.Proofs.Ythhbmnfmhomggaa
