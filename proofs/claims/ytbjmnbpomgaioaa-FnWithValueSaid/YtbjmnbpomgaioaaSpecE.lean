/- Contracts of the model's l1Result and l1Without. -/
import Derived.Test.YtbjmnbpomgaioaaSpecC
namespace Go.Proofs.Ytbjmnbpomgaioaa
open Go.RowKit

end Go.Proofs.Ytbjmnbpomgaioaa
