/- The model's decimal numbers. -/
import Derived.Test.YtjgmoledhkikcaaDoorTxB
import Derived.Laws.IdiomStrings
namespace Go.Proofs.YtjgmoledhkikcaaDoor
open Go.RowKit

/-- A string of one byte out of a fresh list. -/
theorem conv_one (x : UInt8) (b : Nat) (W : World) (hc : W.cell? ⟨b, 0, none⟩ = some (.int .u8 (x.toNat : Int))) :
    (convert 85 9 (.slice (some ⟨b, 0, none⟩) 1 1)).run Tryd.prog W = .ok (.string (bs [x])) W :=
  run_convert_bytes_back W _ _ 5 ⟨b, 0, none⟩ 1 [x] Tryd.underlying85 Tryd.underlying5 Tryd.underlying9 fun j hj => by
    have : j = 0 := by simpa using hj
    subst this
    exact hc

set_option maxHeartbeats 2000000 in
theorem l17Dec_nat (N : Nat) (w : World) (hN : N ≤ 1000000) :
    Calls Tryd.prog 50 #[.int .i64 N] w fun e w' => e = .returned (.string (bs (Lib.decDigits N))) ∧ Below w.heap.size w w' := by
  have hb0 : ({ data := #[] } : ByteArray) = bs [] := rfl
  have happ := bs_app
  have hsz := bs_size
  have hq1 : decide ((N : Int) < -9223372036854775807) = false := decide_eq_false (by omega)
  have hq2 : decide ((N : Int) < 0) = false := decide_eq_false (by omega)
  have HB := Lib.hid (Below.refl w.heap.size w)
  have HL := Lib.hid (show (Lib.decDigits N).length ≤ 21 by have := Lib.itoa_length_le N (by omega) (by omega); unfold Lib.itoa at this; rw [if_neg (by omega)] at this; exact this)
  go_enter Tryd.func50, Tryd.ntmps50
  go_wp2
  go_loopw [0, 3] (fun t s wr => ∃ (u : Nat) (A : List UInt8), t = .int .i64 u ∧ s = .string (bs A) ∧ Lib.decDigits u ++ A = Lib.decDigits N ∧ u ≤ N ∧ Below w.heap.size w wr) (fun t _ _ => (intOf t).toNat)
  case atStart => exact ⟨N, [], rfl, rfl, by simp, Nat.le_refl _, HB.out⟩
  case round =>
    obtain ⟨u, A, rfl, rfl, hd, hu, hb⟩ := hrel
    have HD := Lib.hid hd
    have HB' := Lib.hid hb
    have hA : A.length ≤ 21 := by have h := HL.out; rw [← HD.out, List.length_append] at h; omega
    clear hd hb hq1 hq2
    obtain ⟨x, z, hx, hz⟩ : ∃ (x : UInt8) (z : Int), UInt8.ofNat (48 + u % 10) = x ∧ (x.toNat : Int) = z := ⟨_, _, rfl, rfl⟩
    have hxz : z = 48 + (u % 10 : Nat) := by
      rw [← hz, ← hx, UInt8.toNat_ofNat']
      omega
    have hcv : ∀ (b : Nat) (W : World), W.cell? ⟨b, 0, none⟩ = some (.int .u8 z) → (convert 85 9 (.slice (some ⟨b, 0, none⟩) 1 1)).run Tryd.prog W = .ok (.string (bs [x])) W := fun b W h => conv_one x b W (by rw [hz]; exact h)
    have hw1 : IntKind.u8.wrap z = z := by rw [IntKind.wrap_u8, hxz]; omega
    have HX := Lib.hid hx
    clear hx hz
    by_cases h9 : 9 < u
    · have h9' : decide (9 < (u : Int)) = true := by simp; omega
      obtain ⟨y, hy⟩ : ∃ y, (u : Int).tmod 10 = y := ⟨_, rfl⟩
      have hyz : y = z - 48 := by rw [← hy, Int.tmod_eq_emod_of_nonneg (by omega), hxz]; omega
      have hd : (u : Int).tdiv 10 = (u / 10 : Nat) := by rw [Int.tdiv_eq_ediv_of_nonneg (by omega)]; omega
      have hw : IntKind.i64.wrap (48 + y) = z := by rw [IntKind.wrap_i64, hyz, hxz]; omega
      clear hyz hxz
      have HD2 := Lib.hid (show Lib.decDigits (u / 10) ++ x :: A = Lib.decDigits N by rw [← HD.out, Lib.decDigits.eq_1 u, dif_neg (by omega), HX.out, List.append_assoc]; rfl)
      set_option maxRecDepth 4000 in
      go_wp2
      go_roundw
      case rel => exact ⟨u / 10, x :: A, rfl, rfl, HD2.out, by omega, below_on HB'.out (by go_grown)⟩
      case measure => simp [intOf] <;> omega
    · have h9' : decide (9 < (u : Int)) = false := by simp; omega
      have hw : IntKind.i64.wrap (48 + (u : Int)) = z := by rw [IntKind.wrap_i64, hxz]; omega
      clear hxz
      have HF := Lib.hid (show x :: A = Lib.decDigits N by rw [← HD.out, Lib.decDigits.eq_1 u, dif_pos (by omega), ← HX.out, Nat.mod_eq_of_lt (by omega)]; rfl)
      go_wp2
      go_ret
      exact ⟨by rw [← HF.out]; rfl, below_on HB'.out (by go_grown)⟩

set_option maxHeartbeats 1000000 in
theorem l17Dec_any (n : Int) (w : World) (h0 : -1000000 ≤ n) (h1 : n ≤ 1000000) :
    Calls Tryd.prog 50 #[.int .i64 n] w fun e w' => e = .returned (.string (bs (Lib.itoa n))) ∧ Below w.heap.size w w' := by
  by_cases hn : n < 0
  · obtain ⟨N, rfl⟩ : ∃ N : Nat, n = -(N : Int) := ⟨n.natAbs, by omega⟩
    have HD := Lib.hid fun W => l17Dec_nat N W (by omega)
    have HF := Lib.hid (show Lib.itoa (-(N : Int)) = 45 :: Lib.decDigits N by unfold Lib.itoa; rw [if_pos hn]; simp)
    have hl := Lib.itoa_length_le (-(N : Int)) (by omega) (by omega)
    rw [HF.out] at hl ⊢
    obtain ⟨D, hD⟩ : ∃ D, Lib.decDigits N = D := ⟨_, rfl⟩
    rw [hD] at HD hl ⊢
    clear hD HF
    have hm : ({ data := #[45] } : ByteArray) = bs [45] := rfl
    have happ := bs_app
    have hsz := bs_size
    have hq1 : decide (-(N : Int) < -9223372036854775807) = false := decide_eq_false (by omega)
    have hq2 : decide (-(N : Int) < 0) = true := decide_eq_true hn
    have hw : IntKind.i64.wrap (- -(N : Int)) = N := by rw [IntKind.wrap_i64]; omega
    have hl' : D.length ≤ 20 := by simpa using hl
    clear hl hn h0 h1
    obtain ⟨m, hm0⟩ : ∃ m, -(N : Int) = m := ⟨_, rfl⟩
    rw [hm0] at hq1 hq2 hw ⊢
    clear hm0
    go_enter Tryd.func50, Tryd.ntmps50
    go_wp2_with fail
    refine (HD.out w).mono ?_
    rintro e w1 ⟨rfl, hb⟩
    go_wp2
    go_ret
    exact ⟨rfl, hb⟩
  · obtain ⟨N, rfl⟩ : ∃ N : Nat, n = (N : Int) := ⟨n.toNat, by omega⟩
    refine (l17Dec_nat N w (by omega)).mono ?_
    rintro e w1 ⟨rfl, hb⟩
    refine ⟨?_, hb⟩
    unfold Lib.itoa
    rw [if_neg hn]
    rfl

/-- A variable's letter. -/
theorem l1Letter_any (i : Nat) (w : World) (hi : i ≤ 3) :
    Calls Tryd.prog 72 #[.int .i64 i] w fun e w' => e = .returned (.string (bs [UInt8.ofNat (97 + i)])) ∧ w = w' := by
  have hs := slice_at i hi
  have hw : IntKind.i64.wrap ((i : Int) + 1) = (i : Int) + 1 := by rw [IntKind.wrap_i64]; omega
  obtain ⟨c, hc⟩ : ∃ c, UInt8.ofNat (97 + i) = c := ⟨_, rfl⟩
  rw [hc] at hs ⊢
  clear hc
  go_enter Tryd.func72, Tryd.ntmps72
  go_wp2
  go_ret
  exact ⟨rfl, rfl⟩

end Go.Proofs.YtjgmoledhkikcaaDoor
