/- Contracts of ScaleTerm of the program. -/
import Derived.Test.YtbjmnbpomgaioaaImplB
import Derived.Test.YtbjmnbpomgaioaaBaseC
import Derived.Deep.RegionWith
namespace Go.Proofs.Ytbjmnbpomgaioaa
open Go.RowKit

end Go.Proofs.Ytbjmnbpomgaioaa
