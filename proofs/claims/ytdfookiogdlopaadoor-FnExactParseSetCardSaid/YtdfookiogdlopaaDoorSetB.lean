/- What is in a set: the model's l7Has and the program's has. -/
import Derived.Test.YtdfookiogdlopaaDoorSetA
namespace Go.Proofs.YtdfookiogdlopaaDoor
open Go.RowKit

end Go.Proofs.YtdfookiogdlopaaDoor
