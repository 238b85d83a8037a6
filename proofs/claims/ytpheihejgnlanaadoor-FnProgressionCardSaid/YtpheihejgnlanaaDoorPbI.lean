/- The laws' own functions over sets: is a number in a set, do two sets have the same numbers up to a bound. -/
import Derived.Test.YtpheihejgnlanaaDoorSf7
namespace Go.Proofs.YtpheihejgnlanaaDoor
open Go.RowKit

set_option maxHeartbeats 1000000 in
theorem pbIn_any (h l : List UInt8) (n : Int) (w : World) (hh : h.length ≤ 1000000000) (hl : l.length ≤ 1000000000) (h0 : -9223372036854775808 ≤ n) (hn : n ≤ 9223372036854775807) :
    Calls Tryd.prog 33 #[.agg #[.string (bs h), .string (bs l)], .int .i64 n] w fun e w' => e = .returned (.bool (hnB h l n)) ∧ Below w.heap.size w w' := by
  have HI := Lib.hid fun w => HasNumber_any h l n w hh hl h0 hn
  obtain ⟨r, hr⟩ : ∃ r, hnB h l n = r := ⟨_, rfl⟩
  rw [hr] at HI ⊢
  clear hr hh hl
  go_enter Tryd.func33, Tryd.ntmps33
  go_wp2_with fail
  generalize hW0 : World.alloc w _ = W
  obtain ⟨hx, _, hwx⟩ := s2_new hW0
  clear hW0
  refine (HI.out _).mono ?_
  rintro e w1 ⟨rfl, hb⟩
  go_wp2
  go_ret
  exact ⟨rfl, below_on hwx hb⟩
theorem eql_same (a b : List UInt8) (W : World) : (binOp .eql 25 (.agg #[.string (bs a), .string (bs b)]) (.agg #[.string (bs a), .string (bs b)])).run Tryd.prog W = .ok (.bool true) W := by
  have hlist := bs_list
  simp [go_sem, bs_list]
theorem nel_same (a b : List UInt8) (W : World) : (binOp .neq 25 (.agg #[.string (bs a), .string (bs b)]) (.agg #[.string (bs a), .string (bs b)])).run Tryd.prog W = .ok (.bool false) W := by
  have hlist := bs_list
  simp [go_sem, bs_list]

theorem pbIn_is (h l : List UInt8) (n : Int) (b : Bool) (w : World) (hh : h.length ≤ 1000000000) (hl : l.length ≤ 1000000000) (h0 : -9223372036854775808 ≤ n) (hn : n ≤ 9223372036854775807) (hb : hnB h l n = b) :
    Calls Tryd.prog 33 #[.agg #[.string (bs h), .string (bs l)], .int .i64 n] w fun e w' => e = .returned (.bool b) ∧ Below w.heap.size w w' := by
  rw [← hb]
  exact pbIn_any h l n w hh hl h0 hn
end Go.Proofs.YtpheihejgnlanaaDoor
