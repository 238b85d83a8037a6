/- NormalSet of the program; SameSet of the model and of the program. -/
import Derived.Test.YtkhnninnmpffmaaDoorSetZ
namespace Go.Proofs.YtkhnninnmpffmaaDoor
open Go.RowKit

open Classical in
noncomputable def ssB (h l h' l' : List UInt8) : Bool := (svS h l && svS h' l') && decide (nfS h l = nfS h' l')
theorem eql_set (a b c d : List UInt8) (W : World) : (binOp .eql 26 (.agg #[.string (bs a), .string (bs b)]) (.agg #[.string (bs c), .string (bs d)])).run Tryd.prog W = .ok (.bool (a == c && b == d)) W := by
  have hlist := bs_list
  cases hq : a == c <;> cases hr : b == d <;> simp [go_sem, hq, hr, bs_list]

end Go.Proofs.YtkhnninnmpffmaaDoor
