/- Contracts of the functions of chapter 1 that work on lists of multiples. -/
import Derived.Test.YtohldjooioapjaaDoorBaseA
import Derived.Deep.QuietTactic
import Derived.BigQuiet
import Derived.BigRegion
import Derived.RegionTactic
import Derived.ChangeAlike
namespace Go.Proofs.YtohldjooioapjaaDoor
open Go.RowKit

theorem bcell {W w1 : World} (hb : Below W.heap.size W w1) : (∀ b o, b < W.heap.size → w1.cell? ⟨b, o, none⟩ = W.cell? ⟨b, o, none⟩) ∧ (∀ b o, b < W.heap.size → w1.frozen? ⟨b, o, none⟩ = W.frozen? ⟨b, o, none⟩) :=
  ⟨fun b o h => hb.cell (p := ⟨b, o, none⟩) h, fun b o h => hb.frozen (p := ⟨b, o, none⟩) h⟩

set_option maxHeartbeats 400000 in
theorem term_yes (a b c d n : Int) (bl : Nat) (w : World) (hb : bl < w.heap.size) (h0 : w.cell? ⟨bl, 0, none⟩ = some (.int .i64 a)) (h1 : w.cell? ⟨bl, 1, none⟩ = some (.int .i64 b)) (h2 : w.cell? ⟨bl, 2, none⟩ = some (.int .i64 c)) (h3 : w.cell? ⟨bl, 3, none⟩ = some (.int .i64 d)) (h4 : w.cell? ⟨bl, 4, none⟩ = some (.int .i64 n)) (hv : tvB a b c d n = true) :
    Calls Tryd.prog 56 #[.slice (some ⟨bl, 0, none⟩) 5 5] w fun e w' => e = .returned (.tuple #[.agg #[.int .i64 a, .int .i64 b, .int .i64 c, .int .i64 d, .int .i64 n], .bool true]) ∧ Below w.heap.size w w' := by
  have Hv := Lib.hid hv
  clear hv
  go_enter Tryd.func56, Tryd.ntmps56
  go_wp2
  go_region
  go_wp2_with (go_at_call 16; refine (TermValid_is _ _ _ _ _ _ _ Hv.out).mono ?_; rintro e w' ⟨rfl, rfl⟩)
  go_returns
  exact ⟨rfl, by go_grown⟩

set_option maxHeartbeats 400000 in
theorem term_no (a b c d n : Int) (bl : Nat) (w : World) (hb : bl < w.heap.size) (h0 : w.cell? ⟨bl, 0, none⟩ = some (.int .i64 a)) (h1 : w.cell? ⟨bl, 1, none⟩ = some (.int .i64 b)) (h2 : w.cell? ⟨bl, 2, none⟩ = some (.int .i64 c)) (h3 : w.cell? ⟨bl, 3, none⟩ = some (.int .i64 d)) (h4 : w.cell? ⟨bl, 4, none⟩ = some (.int .i64 n)) (hv : tvB a b c d n = false) :
    Calls Tryd.prog 56 #[.slice (some ⟨bl, 0, none⟩) 5 5] w fun e w' => e = .returned (.tuple #[.agg #[.int .i64 0, .int .i64 0, .int .i64 0, .int .i64 0, .int .i64 0], .bool false]) ∧ Below w.heap.size w w' := by
  have Hv := Lib.hid hv
  clear hv
  go_enter Tryd.func56, Tryd.ntmps56
  go_wp2
  go_region
  go_wp2_with (go_at_call 16; refine (TermValid_is _ _ _ _ _ _ _ Hv.out).mono ?_; rintro e w' ⟨rfl, rfl⟩)
  go_returns
  exact ⟨rfl, by go_grown⟩

end Go.Proofs.YtohldjooioapjaaDoor
