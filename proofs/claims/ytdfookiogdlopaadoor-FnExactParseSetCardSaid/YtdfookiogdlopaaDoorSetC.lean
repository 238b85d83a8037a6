/- The model's shortest repetition and normal form. -/
import Derived.Test.YtdfookiogdlopaaDoorSetB
namespace Go.Proofs.YtdfookiogdlopaaDoor
open Go.RowKit

/-- What the shortest repetition is. -/
def IsLs (l : List UInt8) (d : Nat) : Prop := 0 < d ∧ d ∣ l.length ∧ l.drop d = l.take (l.length - d) ∧ ∀ e, 0 < e → e < d → ¬ (e ∣ l.length ∧ l.drop e = l.take (l.length - e))

end Go.Proofs.YtdfookiogdlopaaDoor
