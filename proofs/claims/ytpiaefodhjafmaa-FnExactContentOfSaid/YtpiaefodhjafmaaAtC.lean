/- The walks of the laws that say that AtomValid and TruthAtom answer as their models do. -/
import Derived.Test.YtpiaefodhjafmaaAtB
import Derived.Test.YtpiaefodhjafmaaLawB
namespace Go.Proofs.Ytpiaefodhjafmaa
open Go.RowKit

end Go.Proofs.Ytpiaefodhjafmaa
