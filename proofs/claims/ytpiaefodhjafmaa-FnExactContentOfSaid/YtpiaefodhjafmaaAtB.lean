/- Contracts of AtomValid and TruthAtom of the program and of the model. -/
import Derived.Test.YtpiaefodhjafmaaAtA
import Derived.Test.YtpiaefodhjafmaaSpecB
namespace Go.Proofs.Ytpiaefodhjafmaa
open Go.RowKit

def trN (t : Bool) : Int := if t then 0 else 1

end Go.Proofs.Ytpiaefodhjafmaa
