/- The model's functions of chapter 5. -/
import Derived.Test.YtpheihejgnlanaaDoorNbK
import Derived.Test.YtpheihejgnlanaaDoorNumF
namespace Go.Proofs.YtpheihejgnlanaaDoor
open Go.RowKit

def InR (a m : Int) (r n x y : Value) : Prop := ∃ R N X Y u v : Int, r = .int .i64 R ∧ n = .int .i64 N ∧ x = .int .i64 X ∧ y = .int .i64 Y ∧ Eu m a R u X N v Y ∧ 0 ≤ R ∧ 0 ≤ N

theorem inB_yes {n l h : Int} (e : inB n l h = true) : l ≤ n ∧ n ≤ h := by simpa [inB] using e

end Go.Proofs.YtpheihejgnlanaaDoor
