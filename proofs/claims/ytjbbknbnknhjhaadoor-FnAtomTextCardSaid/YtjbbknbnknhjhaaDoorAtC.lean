/- The walks of the laws that say that AtomValid and TruthAtom answer as their models do. -/
import Derived.Test.YtjbbknbnknhjhaaDoorAtB
import Derived.Test.YtjbbknbnknhjhaaDoorLawB
namespace Go.Proofs.YtjbbknbnknhjhaaDoor
open Go.RowKit

end Go.Proofs.YtjbbknbnknhjhaaDoor
