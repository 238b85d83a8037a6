/- Contracts of the model's EvalTerm, AddTerms, ScaleTerm, SubstTerm and SwapVars. -/
import Derived.Test.YtpiaefodhjafmaaSpecB
import Derived.Deep.RegionWith
namespace Go.Proofs.Ytpiaefodhjafmaa
open Go.RowKit

end Go.Proofs.Ytpiaefodhjafmaa
