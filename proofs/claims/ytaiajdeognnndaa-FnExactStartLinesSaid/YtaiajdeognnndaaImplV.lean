/- isVar with its answer named. -/
import Derived.Test.YtaiajdeognnndaaBas
namespace Go.Proofs.Ytaiajdeognnndaa
open Go.RowKit
end Go.Proofs.Ytaiajdeognnndaa
