/- The program's least and greatest number of a set, and its count. -/
import Derived.Test.YtpheihejgnlanaaDoorSetF
import Derived.Test.YtpheihejgnlanaaDoorSfM
import Derived.Lib.LastIndexByte
import Derived.BigQuiet
import Derived.Deep.RegionHeld3
import Derived.BigGuardPart
namespace Go.Proofs.YtpheihejgnlanaaDoor
open Go.RowKit

theorem s2_cells {W w' : World} {b : Nat} {x y : ByteArray} (h : S2 W b x y) (hb : Below W.heap.size W w') : w'.cell? ⟨b, 0, none⟩ = some (.string x) ∧ w'.cell? ⟨b, 1, none⟩ = some (.string y) :=
  have h1 := s2_on h hb
  ⟨h1.2.1, h1.2.2.1⟩
theorem count_is (l : List UInt8) (w : World) :
    Calls Tryd.prog 92 #[.string (bs l), .string ⟨#[49]⟩] w fun e w' => e = .returned (.int .i64 (l.count 49 : Nat)) ∧ w' = w :=
  (Tryd.strings_Count_one (bs l) 49 w).mono fun _ _ ⟨he, hw⟩ => ⟨by rw [he, bs_data]; rfl, hw⟩
theorem index_is (l : List UInt8) (w : World) :
    Calls Tryd.prog 71 #[.string (bs l), .int .u8 49] w fun e w' => e = .returned (.int .i64 (Lib.indexByte l 49)) ∧ w' = w :=
  (Tryd.strings_IndexByte (bs l) 49 w).mono fun _ _ ⟨he, hw⟩ => ⟨by rw [he, bs_data]; rfl, hw⟩

theorem countIn_any (l : List UInt8) (w : World) :
    Calls Tryd.prog 72 #[.string (bs l)] w fun e w' => e = .returned (.int .i64 (l.count 49 : Nat)) ∧ w' = w := by
  have HC := Lib.hid fun w => count_is l w
  go_enter Tryd.func72, Tryd.ntmps72
  go_wp2_with fail
  refine (HC.out _).mono ?_
  rintro e w1 ⟨rfl, rfl⟩
  go_wp2
  go_ret
  exact ⟨rfl, rfl⟩

theorem last_lib (h : List UInt8) : ∀ k, k ≤ h.length → Lib.lastIdx (bs h) 49 k = lastI h k
  | 0, _ => rfl
  | k + 1, hk => by
    have e : (bs h).data[k]! = h.getD k 0 := by
      show h.toArray[k]! = _
      rw [List.getElem!_toArray, List.getD_eq_getElem?_getD, getElem!_pos _ k (by omega), List.getElem?_eq_getElem (by omega), Option.getD_some]
    unfold Lib.lastIdx lastI
    rw [last_lib h k (by omega), e]
    have hq := u8_eq (h.getD k 0) 49
    rw [show (((49 : UInt8).toNat : Nat) : Int) = 49 from rfl] at hq
    rw [← hq]
    simp
theorem last_is (h : List UInt8) (w : World) (hh : h.length ≤ 1000000000) :
    Calls Tryd.prog 73 #[.string (bs h), .int .u8 49] w fun e w' => e = .returned (.int .i64 (lastI h h.length)) ∧ w' = w :=
  (Tryd.strings_LastIndexByte (bs h) 49 (by rw [bs_size]; omega) w).mono fun _ _ ⟨he, hw⟩ => ⟨by rw [he, ← last_lib h _ (Nat.le_refl _)]; unfold Lib.lastIndexByte; rw [bs_size], hw⟩

set_option maxHeartbeats 2000000 in
theorem LeastOf_any (h l : List UInt8) (w : World) (hh : h.length ≤ 1000000000) (hl : l.length ≤ 1000000000) :
    Calls Tryd.prog 34 #[.agg #[.string (bs h), .string (bs l)]] w fun e w' => e = .returned (.int .i64 (leR h l)) ∧ Below w.heap.size w w' := by
  have HV := Lib.hid fun w => SetValid_any h l w hh hl
  have HS := Lib.hid (svS_parts (h := h) (l := l))
  obtain ⟨v, hv⟩ : ∃ v, svS h l = v := ⟨_, rfl⟩
  have HQ : Hid (svS h l = v) := Lib.hid hv
  rw [hv] at HV
  clear hv
  cases v with
  | false =>
    have HF : Hid (leR h l = -1) := Lib.hid (by unfold leR; rw [HQ.out]; rfl)
    rw [HF.out]
    go_enter Tryd.func34, Tryd.ntmps34
    go_wp2_with fail
    generalize hW0 : World.alloc w _ = W
    obtain ⟨hx, hsx, hwx⟩ := s2_new hW0
    clear hW0
    refine (HV.out _).mono ?_
    rintro e w3 ⟨rfl, hw⟩
    go_wp2
    go_ret
    exact ⟨rfl, below_on hwx hw⟩
  | true =>
    obtain ⟨_, _, q3, _, q5, _⟩ := HS.out HQ.out
    have HF : Hid (leR h l = Lib.indexByte (h ++ l) 49) := Lib.hid (by unfold leR; rw [HQ.out]; rfl)
    have HC := Lib.hid fun w => index_is (h ++ l) w
    obtain ⟨r, hr⟩ : ∃ r, Lib.indexByte (h ++ l) 49 = r := ⟨_, rfl⟩
    rw [hr] at HC HF
    rw [HF.out]
    have happ := bs_app
    have hsz := bs_size
    clear hr hh hl
    go_enter Tryd.func34, Tryd.ntmps34
    go_wp2_with fail
    generalize hW0 : World.alloc w _ = W
    obtain ⟨hx, hsx, hwx⟩ := s2_new hW0
    clear hW0
    refine (HV.out _).mono ?_
    rintro e w3 ⟨rfl, hw⟩
    have k3 := below_on hwx hw
    obtain ⟨x0, x1, x2, x3⟩ := s2_on hx hw
    clear hx hwx hw
    go_wp2_with fail
    refine (HC.out _).mono ?_
    rintro e w1 ⟨rfl, rfl⟩
    go_wp2
    go_ret
    exact ⟨rfl, k3⟩

set_option maxHeartbeats 2000000 in
theorem GreatestOf_any (h l : List UInt8) (w : World) (hh : h.length ≤ 1000000000) (hl : l.length ≤ 1000000000) :
    Calls Tryd.prog 35 #[.agg #[.string (bs h), .string (bs l)]] w fun e w' => e = .returned (.int .i64 (gtR h l)) ∧ Below w.heap.size w w' := by
  have HV := Lib.hid fun w => SetValid_any h l w hh hl
  have HS := Lib.hid (svS_parts (h := h) (l := l))
  obtain ⟨v, hv⟩ : ∃ v, svS h l = v := ⟨_, rfl⟩
  have HQ : Hid (svS h l = v) := Lib.hid hv
  rw [hv] at HV
  clear hv
  cases v with
  | false =>
    have HF : Hid (gtR h l = -3) := Lib.hid (by unfold gtR; rw [HQ.out]; rfl)
    rw [HF.out]
    go_enter Tryd.func35, Tryd.ntmps35
    go_wp2_with fail
    generalize hW0 : World.alloc w _ = W
    obtain ⟨hx, hsx, hwx⟩ := s2_new hW0
    clear hW0
    refine (HV.out _).mono ?_
    rintro e w3 ⟨rfl, hw⟩
    go_wp2
    go_ret
    exact ⟨rfl, below_on hwx hw⟩
  | true =>
    have HF : Hid (gtR h l = mostI h l) := Lib.hid (by unfold gtR; rw [HQ.out]; rfl)
    have HC := Lib.hid fun w => countIn_any l w
    have HLs := Lib.hid fun w => last_is h w hh
    obtain ⟨r, hr⟩ : ∃ r, lastI h h.length = r := ⟨_, rfl⟩
    obtain ⟨c, hc⟩ : ∃ c, l.count 49 = c := ⟨_, rfl⟩
    have HM : Hid (mostI h l = if c = 0 then r else -2) := Lib.hid (by unfold mostI; rw [hc, hr])
    rw [hr] at HLs
    rw [hc] at HC
    rw [HF.out, HM.out]
    clear hr hc hh hl
    by_cases hc0 : c = 0
    · rw [if_pos hc0]
      subst hc0
      go_enter Tryd.func35, Tryd.ntmps35
      go_wp2_with fail
      generalize hW0 : World.alloc w _ = W
      obtain ⟨hx, hsx, hwx⟩ := s2_new hW0
      clear hW0
      refine (HV.out _).mono ?_
      rintro e w3 ⟨rfl, hw⟩
      have k3 := below_on hwx hw
      obtain ⟨x0, x1, x2, x3⟩ := s2_on hx hw
      clear hx hwx hw
      go_wp2_with fail
      refine (HC.out _).mono ?_
      rintro e w1 ⟨rfl, rfl⟩
      go_wp2_with fail
      refine (HLs.out _).mono ?_
      rintro e w1 ⟨rfl, rfl⟩
      go_wp2
      go_ret
      exact ⟨rfl, k3⟩
    · rw [if_neg hc0]
      have hc1 : (0 : Int) < (c : Int) := by omega
      clear hc0
      go_enter Tryd.func35, Tryd.ntmps35
      go_wp2_with fail
      generalize hW0 : World.alloc w _ = W
      obtain ⟨hx, hsx, hwx⟩ := s2_new hW0
      clear hW0
      refine (HV.out _).mono ?_
      rintro e w3 ⟨rfl, hw⟩
      have k3 := below_on hwx hw
      obtain ⟨x0, x1, x2, x3⟩ := s2_on hx hw
      clear hx hwx hw
      go_wp2_with fail
      refine (HC.out _).mono ?_
      rintro e w1 ⟨rfl, rfl⟩
      go_wp2
      go_ret
      exact ⟨rfl, k3⟩

set_option maxHeartbeats 2000000 in
theorem CountBelow_any (h l : List UInt8) (n : Int) (w : World) (hh : h.length ≤ 1000000000) (hl : l.length ≤ 1000000000) (h0 : -9223372036854775808 ≤ n) (hn : n ≤ 9223372036854775807) :
    Calls Tryd.prog 40 #[.agg #[.string (bs h), .string (bs l)], .int .i64 n] w fun e w' => e = .returned (.int .i64 (cbR h l n)) ∧ Below w.heap.size w w' := by
  have HV := Lib.hid fun w => SetValid_any h l w hh hl
  have HS := Lib.hid (svS_parts (h := h) (l := l))
  obtain ⟨v, hv⟩ : ∃ v, svS h l = v := ⟨_, rfl⟩
  have HQ : Hid (svS h l = v) := Lib.hid hv
  rw [hv] at HV
  clear hv
  cases v with
  | false =>
    have HF : Hid (cbR h l n = -1) := Lib.hid (by unfold cbR; rw [HQ.out]; rfl)
    rw [HF.out]
    go_enter Tryd.func40, Tryd.ntmps40
    go_wp2_with fail
    generalize hW0 : World.alloc w _ = W
    obtain ⟨hx, hsx, hwx⟩ := s2_new hW0
    clear hW0
    refine (HV.out _).mono ?_
    rintro e w3 ⟨rfl, hw⟩
    go_wp2
    go_ret
    exact ⟨rfl, below_on hwx hw⟩
  | true =>
    by_cases hneg : n < 0
    · have HF : Hid (cbR h l n = -1) := Lib.hid (by unfold cbR; rw [HQ.out, decide_eq_false (show ¬ 0 ≤ n by omega)]; rfl)
      rw [HF.out]
      go_enter Tryd.func40, Tryd.ntmps40
      go_wp2_with fail
      generalize hW0 : World.alloc w _ = W
      obtain ⟨hx, hsx, hwx⟩ := s2_new hW0
      clear hW0
      refine (HV.out _).mono ?_
      rintro e w3 ⟨rfl, hw⟩
      have k3 := below_on hwx hw
      obtain ⟨x0, x1, x2, x3⟩ := s2_on hx hw
      clear hx hwx hw
      go_wp2
      go_ret
      exact ⟨rfl, k3⟩
    by_cases hbig : 1000000 < n
    · have HF : Hid (cbR h l n = -1) := Lib.hid (by unfold cbR; rw [HQ.out, decide_eq_false (show ¬ n ≤ 1000000 by omega), Bool.and_false]; rfl)
      rw [HF.out]
      go_enter Tryd.func40, Tryd.ntmps40
      go_wp2_with fail
      generalize hW0 : World.alloc w _ = W
      obtain ⟨hx, hsx, hwx⟩ := s2_new hW0
      clear hW0
      refine (HV.out _).mono ?_
      rintro e w3 ⟨rfl, hw⟩
      have k3 := below_on hwx hw
      obtain ⟨x0, x1, x2, x3⟩ := s2_on hx hw
      clear hx hwx hw
      go_wp2
      go_ret
      exact ⟨rfl, k3⟩
    obtain ⟨N, rfl⟩ : ∃ N : Nat, n = N := ⟨n.toNat, by omega⟩
    have HF : Hid (cbR h l N = (cntA (atS h l) N : Nat)) := Lib.hid (by unfold cbR; rw [HQ.out, decide_eq_true (show (0 : Int) ≤ (N : Int) by omega), decide_eq_true (show (N : Int) ≤ 1000000 by omega)]; rfl)
    rw [HF.out]
    obtain ⟨_, _, q3, q4, q5, q6⟩ := HS.out HQ.out
    have hn0 : ¬ (N : Int) < 0 := by omega
    have hnb : ¬ (1000000 : Int) < (N : Int) := by omega
    have hs1 := bs_size h
    have hs2 := bs_size l
    by_cases hle : N ≤ h.length
    · have HE := Lib.hid (cnt_head h l N hle)
      have HC := Lib.hid fun w => countIn_any (h.take N) w
      obtain ⟨y, hy⟩ : ∃ y, h.take N = y := ⟨_, rfl⟩
      have h2 := run_upto (P := Tryd.prog) Tryd.underlying9 (l := h) (k := N) hle hy .i64
      rw [hy] at HE HC
      rw [HE.out]
      obtain ⟨c, hc⟩ : ∃ c, y.count 49 = c := ⟨_, rfl⟩
      rw [hc] at HC ⊢
      obtain ⟨H, hH⟩ : ∃ k, h.length = k := ⟨_, rfl⟩
      rw [hH] at hs1 hle q3
      have hle' : (N : Int) ≤ (H : Int) := by omega
      clear hy hc hH hh hl h0 hn hneg hbig q4 q5 q6
      go_enter Tryd.func40, Tryd.ntmps40
      go_wp2_with fail
      generalize hW0 : World.alloc w _ = W
      obtain ⟨hx, hsx, hwx⟩ := s2_new hW0
      clear hW0
      refine (HV.out _).mono ?_
      rintro e w3 ⟨rfl, hw⟩
      have k3 := below_on hwx hw
      obtain ⟨x0, x1, x2, x3⟩ := s2_on hx hw
      clear hx hwx hw
      go_wp2_with fail
      refine (HC.out _).mono ?_
      rintro e w1 ⟨rfl, rfl⟩
      go_wp2
      go_ret
      exact ⟨rfl, k3⟩
    · obtain ⟨R, hR⟩ : ∃ R, N - h.length = R := ⟨_, rfl⟩
      have hNR : N = h.length + R := by omega
      have HE := cnt_loop h l (by omega) R
      rw [← hNR] at HE
      have HEE := Lib.hid HE
      clear HE
      rw [HEE.out]
      have hmlt := Nat.mod_lt R (show 0 < l.length by omega)
      have hdm := Nat.div_add_mod R l.length
      have HC1 := Lib.hid fun w => countIn_any h w
      have HC2 := Lib.hid fun w => countIn_any l w
      have HC3 := Lib.hid fun w => countIn_any (l.take (R % l.length)) w
      obtain ⟨y, hy⟩ : ∃ y, l.take (R % l.length) = y := ⟨_, rfl⟩
      have h2 := run_upto (P := Tryd.prog) Tryd.underlying9 (l := l) (k := R % l.length) (by omega) hy .i64
      have hyc : y.count 49 ≤ 240 := by rw [← hy]; exact Nat.le_trans (List.count_le_length) (by rw [List.length_take]; omega)
      have hhc : h.count 49 ≤ 400 := Nat.le_trans List.count_le_length q3
      have hlc : l.count 49 ≤ l.length := List.count_le_length
      rw [hy] at HC3 ⊢
      obtain ⟨H, hH⟩ : ∃ k, h.length = k := ⟨_, rfl⟩
      obtain ⟨L, hL⟩ : ∃ k, l.length = k := ⟨_, rfl⟩
      rw [hH] at hs1 hle q3 hNR hR
      rw [hL] at hs2 q4 q5 hmlt hdm h2 hlc ⊢
      obtain ⟨F, hF⟩ : ∃ F, R / L = F := ⟨_, rfl⟩
      obtain ⟨M, hM⟩ : ∃ M, R % L = M := ⟨_, rfl⟩
      have hwr : IntKind.i64.wrap ((N : Int) - (H : Int)) = (R : Int) := by rw [IntKind.wrap_i64]; omega
      have htd : (R : Int).tdiv (L : Int) = (F : Int) := by rw [← hF, Int.tdiv_eq_ediv_of_nonneg (by omega)]; omega
      have htm : (R : Int).tmod (L : Int) = (M : Int) := by rw [← hM, Int.tmod_eq_emod_of_nonneg (by omega)]; omega
      have hwF : IntKind.i64.wrap (F : Int) = (F : Int) := by rw [← hF, IntKind.wrap_i64]; have := Nat.div_le_self R L; omega
      rw [hM] at hmlt h2 hdm
      rw [hF] at hdm ⊢
      have hL0 : (L : Int) ≠ 0 := by omega
      obtain ⟨c1, hc1⟩ : ∃ c, h.count 49 = c := ⟨_, rfl⟩
      obtain ⟨c2, hc2⟩ : ∃ c, l.count 49 = c := ⟨_, rfl⟩
      obtain ⟨c3, hc3⟩ : ∃ c, y.count 49 = c := ⟨_, rfl⟩
      rw [hc1] at HC1 hhc ⊢
      rw [hc2] at HC2 hlc ⊢
      rw [hc3] at HC3 hyc ⊢
      obtain ⟨p, hp⟩ : ∃ p, F * c2 = p := ⟨_, rfl⟩
      have hpb : p ≤ 1000000 := by
        have : F * c2 ≤ L * F := by rw [Nat.mul_comm L F]; exact Nat.mul_le_mul_left F hlc
        omega
      have hwp : IntKind.i64.wrap ((F : Int) * (c2 : Int)) = (p : Int) := by rw [← Int.natCast_mul, hp, IntKind.wrap_i64]; omega
      rw [hp]
      obtain ⟨u, hu⟩ : ∃ u, c1 + p = u := ⟨_, rfl⟩
      obtain ⟨t, ht⟩ : ∃ t, u + c3 = t := ⟨_, rfl⟩
      have hwu : IntKind.i64.wrap ((c1 : Int) + (p : Int)) = (u : Int) := by rw [IntKind.wrap_i64]; omega
      have hwt : IntKind.i64.wrap ((u : Int) + (c3 : Int)) = (t : Int) := by rw [IntKind.wrap_i64]; omega
      rw [hu, ht]
      have hle' : ¬ (N : Int) ≤ (H : Int) := by omega
      have HD1 : Hid (∀ w, Calls Tryd.prog 72 #[.string (bs h)] w fun e w' => e = .returned (.int .i64 (c1 : Nat)) ∧ Below w.heap.size w w') := Lib.hid fun w => (HC1.out w).mono fun _ _ ⟨he, hw⟩ => ⟨he, by rw [hw]; exact Below.refl _ _⟩
      have HD2 : Hid (∀ w, Calls Tryd.prog 72 #[.string (bs l)] w fun e w' => e = .returned (.int .i64 (c2 : Nat)) ∧ Below w.heap.size w w') := Lib.hid fun w => (HC2.out w).mono fun _ _ ⟨he, hw⟩ => ⟨he, by rw [hw]; exact Below.refl _ _⟩
      have HD3 : Hid (∀ w, Calls Tryd.prog 72 #[.string (bs y)] w fun e w' => e = .returned (.int .i64 (c3 : Nat)) ∧ Below w.heap.size w w') := Lib.hid fun w => (HC3.out w).mono fun _ _ ⟨he, hw⟩ => ⟨he, by rw [hw]; exact Below.refl _ _⟩
      clear HC1 HC2 HC3
      clear hy hc1 hc2 hc3 hp hu ht hH hL hF hM hh hl h0 hn hneg hbig q4 q5 q6 hR hNR hmlt hdm hyc hhc hlc hpb hle
      go_enter Tryd.func40, Tryd.ntmps40
      go_wp2_with fail
      generalize hW0 : World.alloc w _ = W
      obtain ⟨hx, hsx, hwx⟩ := s2_new hW0
      clear hW0
      refine (HV.out _).mono ?_
      rintro e w3 ⟨rfl, hw⟩
      have k3 := below_on hwx hw
      obtain ⟨x0, x1, x2, x3⟩ := s2_on hx hw
      have HX3 := Lib.hid (s2_on hx hw)
      clear hx hwx hw
      go_wp2_with fail
      go_region
      go_wp2_with fail
      generalize hWx : World.drew _ = Wx
      have hbx : Below w3.heap.size w3 Wx := by rw [← hWx]; go_grown
      have HBX := Lib.hid (below_on k3 hbx)
      have HXX := Lib.hid (s2_on HX3.out hbx)
      clear hWx hbx x0 x1 x2 x3 k3
      refine wp_region_held_drew (S := (fun w' => w'.cell? ⟨w.heap.size, 0, none⟩ = some (.string (bs h)) ∧ w'.cell? ⟨w.heap.size, 1, none⟩ = some (.string (bs l)))) (by kernel_rfl) ?_ (fun hHeld => ?_)
      · try dsimp only
        exact s2_cells HXX.out (by go_grown)
      refine wpAnyH_take (i := 0) (oi := { dst := some 44, op := Go.Op.fieldAddr 25 (Go.Operand.tmp 2) 0, type := 0, pos := "l7_sets.go:219", after := #[], guard := none }) (v := ?_) rfl (by kernel_rfl) (by kernel_rfl) (by kernel_rfl) (fun _ _ _ h => h) (Or.inl ⟨by rfl, ?_⟩) (by assumption) ?_
      rotate_left
      · (intro w hSw; (try dsimp only at hSw); first | (go_simp; done) | (go_simp; with_reducible rfl))
      try simp only [Act.put, List.setIfInBounds_toArray, List.set_cons_zero, List.set_cons_succ]
      refine wpAnyH_take (i := 1) (oi := { dst := some 45, op := Go.Op.load 9 (Go.Operand.tmp 44), type := 9, pos := "l7_sets.go:219", after := #[{ on := 0, ground := Go.Ground.data }], guard := none }) (v := ?_) rfl (by kernel_rfl) (by kernel_rfl) (by kernel_rfl) (fun _ _ _ h => h) (Or.inl ⟨by rfl, ?_⟩) (by assumption) ?_
      rotate_left
      · (intro w hSw; (try dsimp only at hSw); first | (go_simp; done) | (go_simp; with_reducible rfl))
      try simp only [Act.put, List.setIfInBounds_toArray, List.set_cons_zero, List.set_cons_succ]
      refine wpAnyH_take (i := 3) (oi := { dst := some 47, op := Go.Op.move (Go.Operand.tmp 6), type := 3, pos := "l7_sets.go:219", after := #[], guard := none }) (v := ?_) rfl (by kernel_rfl) (by kernel_rfl) (by kernel_rfl) (fun _ _ _ h => h) (Or.inl ⟨by rfl, ?_⟩) (by assumption) ?_
      rotate_left
      · (intro w hSw; (try dsimp only at hSw); first | (go_simp; done) | (go_simp; with_reducible rfl))
      try simp only [Act.put, List.setIfInBounds_toArray, List.set_cons_zero, List.set_cons_succ]
      refine wpAnyH_take (i := 4) (oi := { dst := some 48, op := Go.Op.fieldAddr 25 (Go.Operand.tmp 2) 1, type := 0, pos := "l7_sets.go:219", after := #[], guard := none }) (v := ?_) rfl (by kernel_rfl) (by kernel_rfl) (by kernel_rfl) (fun _ _ _ h => h) (Or.inl ⟨by rfl, ?_⟩) (by assumption) ?_
      rotate_left
      · (intro w hSw; (try dsimp only at hSw); first | (go_simp; done) | (go_simp; with_reducible rfl))
      try simp only [Act.put, List.setIfInBounds_toArray, List.set_cons_zero, List.set_cons_succ]
      refine wpAnyH_take (i := 5) (oi := { dst := some 49, op := Go.Op.load 9 (Go.Operand.tmp 48), type := 9, pos := "l7_sets.go:219", after := #[{ on := 4, ground := Go.Ground.data }], guard := none }) (v := ?_) rfl (by kernel_rfl) (by kernel_rfl) (by kernel_rfl) (fun _ _ _ h => h) (Or.inl ⟨by rfl, ?_⟩) (by assumption) ?_
      rotate_left
      · (intro w hSw; (try dsimp only at hSw); first | (go_simp; done) | (go_simp; with_reducible rfl))
      try simp only [Act.put, List.setIfInBounds_toArray, List.set_cons_zero, List.set_cons_succ]
      refine wpAnyH_take (i := 9) (oi := { dst := some 53, op := Go.Op.fieldAddr 25 (Go.Operand.tmp 2) 1, type := 0, pos := "l7_sets.go:219", after := #[], guard := none }) (v := ?_) rfl (by kernel_rfl) (by kernel_rfl) (by kernel_rfl) (fun _ _ _ h => h) (Or.inl ⟨by rfl, ?_⟩) (by assumption) ?_
      rotate_left
      · (intro w hSw; (try dsimp only at hSw); first | (go_simp; done) | (go_simp; with_reducible rfl))
      try simp only [Act.put, List.setIfInBounds_toArray, List.set_cons_zero, List.set_cons_succ]
      refine wpAnyH_take (i := 10) (oi := { dst := some 54, op := Go.Op.load 9 (Go.Operand.tmp 53), type := 9, pos := "l7_sets.go:219", after := #[{ on := 9, ground := Go.Ground.data }], guard := none }) (v := ?_) rfl (by kernel_rfl) (by kernel_rfl) (by kernel_rfl) (fun _ _ _ h => h) (Or.inl ⟨by rfl, ?_⟩) (by assumption) ?_
      rotate_left
      · (intro w hSw; (try dsimp only at hSw); first | (go_simp; done) | (go_simp; with_reducible rfl))
      try simp only [Act.put, List.setIfInBounds_toArray, List.set_cons_zero, List.set_cons_succ]
      refine wpAnyH_take (i := 11) (oi := { dst := some 55, op := Go.Op.move (Go.Operand.tmp 7), type := 3, pos := "l7_sets.go:219", after := #[], guard := none }) (v := ?_) rfl (by kernel_rfl) (by kernel_rfl) (by kernel_rfl) (fun _ _ _ h => h) (Or.inl ⟨by rfl, ?_⟩) (by assumption) ?_
      rotate_left
      · (intro w hSw; (try dsimp only at hSw); first | (go_simp; done) | (go_simp; with_reducible rfl))
      try simp only [Act.put, List.setIfInBounds_toArray, List.set_cons_zero, List.set_cons_succ]
      refine wpAnyH_take (i := 12) (oi := { dst := some 56, op := Go.Op.slice 9 (Go.Operand.tmp 54) none (some (Go.Operand.tmp 55)) none, type := 9, pos := "l7_sets.go:219", after := #[{ on := 10, ground := Go.Ground.data }, { on := 11, ground := Go.Ground.data }], guard := none }) (v := ?_) rfl (by kernel_rfl) (by kernel_rfl) (by kernel_rfl) (fun _ _ _ h => h) (Or.inl ⟨by rfl, ?_⟩) (by assumption) ?_
      rotate_left
      · (intro w hSw; (try dsimp only at hSw); first | (go_simp; done) | (go_simp; with_reducible rfl))
      try simp only [Act.put, List.setIfInBounds_toArray, List.set_cons_zero, List.set_cons_succ]
      refine wpAnyH_ready (rs := [2]) (by kernel_rfl) (by simp) ?_
      refine AllReadyH.cons (o := { dst := some 46, op := Go.Op.call { callee := Go.Callee.value (Go.Operand.func 72), args := #[Go.Operand.tmp 45], argTypes := #[9] }, type := 3, pos := "l7_sets.go:219", after := #[{ on := 1, ground := Go.Ground.data }], guard := none }) rfl (fun K hK => ?_) AllReadyH.nil
      go_simp
      (go_at_call 72; refine (HD1.out _).mono ?_; rintro e w5 ⟨rfl, hb5⟩; have hbW5 := below_on (w := Wx) (by go_grown) hb5)
      (try go_wp2_with fail)
      refine hK.out _ _ ?_ (fun hHeld => ?_)
      · try dsimp only
        exact s2_cells HXX.out (by go_grown)
      clear hK K
      try simp only [Act.put, List.setIfInBounds_toArray, List.set_cons_zero, List.set_cons_succ]
      refine wpAnyH_ready (rs := [6]) (by kernel_rfl) (by simp) ?_
      refine AllReadyH.cons (o := { dst := some 50, op := Go.Op.call { callee := Go.Callee.value (Go.Operand.func 72), args := #[Go.Operand.tmp 49], argTypes := #[9] }, type := 3, pos := "l7_sets.go:219", after := #[{ on := 5, ground := Go.Ground.data }, { on := 2, ground := Go.Ground.chain }], guard := none }) rfl (fun K hK => ?_) AllReadyH.nil
      go_simp
      (go_at_call 72; refine (HD2.out _).mono ?_; rintro e w6 ⟨rfl, hb6⟩; have hbW6 := below_on (w := Wx) (by go_grown) hb6)
      (try go_wp2_with fail)
      refine hK.out _ _ ?_ (fun hHeld => ?_)
      · try dsimp only
        exact s2_cells HXX.out (by go_grown)
      clear hK K
      try simp only [Act.put, List.setIfInBounds_toArray, List.set_cons_zero, List.set_cons_succ]
      refine wpAnyH_take (i := 7) (oi := { dst := some 51, op := Go.Op.binOp Go.BinOp.mul 3 (Go.Operand.tmp 47) (Go.Operand.tmp 50) 3, type := 3, pos := "l7_sets.go:219", after := #[{ on := 3, ground := Go.Ground.data }, { on := 6, ground := Go.Ground.data }], guard := none }) (v := ?_) rfl (by kernel_rfl) (by kernel_rfl) (by kernel_rfl) (fun _ _ _ h => h) (Or.inl ⟨by rfl, ?_⟩) (by assumption) ?_
      rotate_left
      · (intro w hSw; (try dsimp only at hSw); first | (go_simp; done) | (go_simp; with_reducible rfl))
      try simp only [Act.put, List.setIfInBounds_toArray, List.set_cons_zero, List.set_cons_succ]
      refine wpAnyH_take (i := 8) (oi := { dst := some 52, op := Go.Op.binOp Go.BinOp.add 3 (Go.Operand.tmp 46) (Go.Operand.tmp 51) 3, type := 3, pos := "l7_sets.go:219", after := #[{ on := 2, ground := Go.Ground.data }, { on := 7, ground := Go.Ground.data }], guard := none }) (v := ?_) rfl (by kernel_rfl) (by kernel_rfl) (by kernel_rfl) (fun _ _ _ h => h) (Or.inl ⟨by rfl, ?_⟩) (by assumption) ?_
      rotate_left
      · (intro w hSw; (try dsimp only at hSw); first | (go_simp; done) | (go_simp; with_reducible rfl))
      try simp only [Act.put, List.setIfInBounds_toArray, List.set_cons_zero, List.set_cons_succ]
      refine wpAnyH_ready (rs := [13]) (by kernel_rfl) (by simp) ?_
      refine AllReadyH.cons (o := { dst := some 57, op := Go.Op.call { callee := Go.Callee.value (Go.Operand.func 72), args := #[Go.Operand.tmp 56], argTypes := #[9] }, type := 3, pos := "l7_sets.go:219", after := #[{ on := 12, ground := Go.Ground.data }, { on := 6, ground := Go.Ground.chain }], guard := none }) rfl (fun K hK => ?_) AllReadyH.nil
      go_simp
      (go_at_call 72; refine (HD3.out _).mono ?_; rintro e w7 ⟨rfl, hb7⟩; have hbW7 := below_on (w := Wx) (by go_grown) hb7)
      (try go_wp2_with fail)
      refine hK.out _ _ ?_ (fun hHeld => ?_)
      · try dsimp only
        exact s2_cells HXX.out (by go_grown)
      clear hK K
      try simp only [Act.put, List.setIfInBounds_toArray, List.set_cons_zero, List.set_cons_succ]
      refine wpAnyH_take (i := 14) (oi := { dst := some 58, op := Go.Op.binOp Go.BinOp.add 3 (Go.Operand.tmp 52) (Go.Operand.tmp 57) 3, type := 3, pos := "l7_sets.go:219", after := #[{ on := 8, ground := Go.Ground.data }, { on := 13, ground := Go.Ground.data }], guard := none }) (v := ?_) rfl (by kernel_rfl) (by kernel_rfl) (by kernel_rfl) (fun _ _ _ h => h) (Or.inl ⟨by rfl, ?_⟩) (by assumption) ?_
      rotate_left
      · (intro w hSw; (try dsimp only at hSw); first | (go_simp; done) | (go_simp; with_reducible rfl))
      try simp only [Act.put, List.setIfInBounds_toArray, List.set_cons_zero, List.set_cons_succ]
      refine wpAnyH_take (i := 15) (oi := { dst := some 4, op := Go.Op.assign (Go.Operand.tmp 58), type := 3, pos := "l7_sets.go:219", after := #[{ on := 14, ground := Go.Ground.data }, { on := 13, ground := Go.Ground.chain }, { on := 0, ground := Go.Ground.phase }, { on := 1, ground := Go.Ground.phase }, { on := 2, ground := Go.Ground.phase }, { on := 3, ground := Go.Ground.phase }, { on := 4, ground := Go.Ground.phase }, { on := 5, ground := Go.Ground.phase }, { on := 6, ground := Go.Ground.phase }, { on := 7, ground := Go.Ground.phase }, { on := 8, ground := Go.Ground.phase }, { on := 9, ground := Go.Ground.phase }, { on := 10, ground := Go.Ground.phase }, { on := 11, ground := Go.Ground.phase }, { on := 12, ground := Go.Ground.phase }, { on := 13, ground := Go.Ground.phase }, { on := 14, ground := Go.Ground.phase }], guard := none }) (v := ?_) rfl (by kernel_rfl) (by kernel_rfl) (by kernel_rfl) (fun _ _ _ h => h) (Or.inl ⟨by rfl, ?_⟩) (by assumption) ?_
      rotate_left
      · (intro w hSw; (try dsimp only at hSw); first | (go_simp; done) | (go_simp; with_reducible rfl))
      try simp only [Act.put, List.setIfInBounds_toArray, List.set_cons_zero, List.set_cons_succ]
      refine wpAnyH_done (by kernel_rfl) ?_ _
      go_wp2
      go_ret
      exact ⟨rfl, below_on HBX.out (by go_grown)⟩
end Go.Proofs.YtpheihejgnlanaaDoor
