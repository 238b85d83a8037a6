/- The laws' own functions over sets: is a number in a set, do two sets have the same numbers up to a bound. -/
import Derived.Test.YtbfjppliploloaaDoorSf7
namespace Go.Proofs.YtbfjppliploloaaDoor
open Go.RowKit

theorem eql_same (a b : List UInt8) (W : World) : (binOp .eql 24 (.agg #[.string (bs a), .string (bs b)]) (.agg #[.string (bs a), .string (bs b)])).run Tryd.prog W = .ok (.bool true) W := by
  have hlist := bs_list
  simp [go_sem, bs_list]
theorem nel_same (a b : List UInt8) (W : World) : (binOp .neq 24 (.agg #[.string (bs a), .string (bs b)]) (.agg #[.string (bs a), .string (bs b)])).run Tryd.prog W = .ok (.bool false) W := by
  have hlist := bs_list
  simp [go_sem, bs_list]

end Go.Proofs.YtbfjppliploloaaDoor
