/- Contracts of AtomValid and TruthAtom of the program and of the model. -/
import Derived.Test.YtjhfmlbnpdnddaaAtA
import Derived.Test.YtjhfmlbnpdnddaaSpecB
namespace Go.Proofs.Ytjhfmlbnpdnddaa
open Go.RowKit

def trN (t : Bool) : Int := if t then 0 else 1

end Go.Proofs.Ytjhfmlbnpdnddaa
