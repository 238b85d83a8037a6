/- The model's ParseSet. -/
import Derived.Test.YtbfjppliploloaaDoorSfF
import Derived.Test.YtbfjppliploloaaDoorSgM
namespace Go.Proofs.YtbfjppliploloaaDoor
open Go.RowKit

set_option maxHeartbeats 2000000 in
theorem specParseSet_any (t : List UInt8) (w : World) (ht : t.length ≤ 1000000000) :
    Calls Tryd.prog 10 #[.string (bs t)] w fun e w' => e = .returned (.tuple #[.agg #[.string (bs (paR t).1.1), .string (bs (paR t).1.2)], .bool (paR t).2]) ∧ Below w.heap.size w w' := by
  have HFd : Hid (∀ w, Calls Tryd.prog 20 #[.string (bs t), .int .u8 40] w fun e w' => e = .returned (.int .i64 (Lib.indexByte t 40)) ∧ w = w') := Lib.hid fun w => by rw [← fnd_zero]; exact l17Find_any t 40 w ht
  rcases idx_spec 40 t with ⟨hi, _⟩ | ⟨k, hk, hi, hb, _⟩
  · have HF : Hid (paR t = (([], []), false)) := Lib.hid (by unfold paR; rw [hi]; rfl)
    rw [hi] at HFd
    rw [HF.out]
    clear hi ht
    go_enter Tryd.func10, Tryd.ntmps10
    go_wp2_with fail
    generalize hW0 : World.alloc w _ = W
    obtain ⟨hz, hsz, hwz⟩ := s2_new hW0
    clear hW0
    refine (HFd.out _).mono ?_
    rintro e w1 ⟨rfl, rfl⟩
    obtain ⟨c0, c1, c2, c3⟩ := id hz
    go_wp2
    generalize hW : World.setCell _ _ _ = W8
    obtain ⟨⟨_, r1, r2, _⟩, _, _, hb8⟩ := s2_put hW _ _ hz
    refine bodyPost_ret (v := .tuple #[.agg #[.string ⟨#[]⟩, .string ⟨#[]⟩], .bool false]) (by simp [results, Tryd.results10, go_sem, r1, r2]) rfl ⟨rfl, ?_⟩
    exact hb8 w hwz (Nat.le_refl _)
  · rw [hi] at HFd
    obtain ⟨N, hN⟩ : ∃ N, t.length - 1 = N := ⟨_, rfl⟩
    have hs := bs_size t
    obtain ⟨x, hx⟩ : ∃ x, t[N]? = some x := ⟨_, List.getElem?_eq_getElem (by omega)⟩
    have hix := fun w => run_at (P := Tryd.prog) Tryd.underlying9 hx .i64 w
    have hl : (t.getLast? == some 41) = (x == 41) := last_at (by rw [hN]; exact hx)
    have hwn : IntKind.i64.wrap ((t.length : Int) - 1) = (N : Int) := by rw [IntKind.wrap_i64]; omega
    have hk0 : ¬ (k : Int) < 0 := by omega
    have HE := u8_eq x 41
    rw [show (((41 : UInt8).toNat : Nat) : Int) = 41 from rfl] at HE
    obtain ⟨q, hq⟩ : ∃ q : Int, (x.toNat : Int) = q := ⟨_, rfl⟩
    rw [hq] at hix HE
    cases hxc : x == 41 with
    | false =>
      rw [hxc] at HE hl
      have HNE : (q != 41) = false.not := by rw [bne, HE]
      have HF : Hid (paR t = (([], []), false)) := Lib.hid (by unfold paR; rw [hl, Bool.and_false]; rfl)
      rw [HF.out]
      obtain ⟨M, hM⟩ : ∃ M, t.length = M := ⟨_, rfl⟩
      rw [hM] at hwn hs
      clear hi ht hl hk hb hx hq hxc hN hM
      go_enter Tryd.func10, Tryd.ntmps10
      go_wp2_with fail
      generalize hW0 : World.alloc w _ = W
      obtain ⟨hz, hsz, hwz⟩ := s2_new hW0
      clear hW0
      refine (HFd.out _).mono ?_
      rintro e w1 ⟨rfl, rfl⟩
      obtain ⟨c0, c1, c2, c3⟩ := id hz
      go_wp2
      generalize hW : World.setCell _ _ _ = W8
      obtain ⟨⟨_, r1, r2, _⟩, _, _, hb8⟩ := s2_put hW _ _ hz
      refine bodyPost_ret (v := .tuple #[.agg #[.string ⟨#[]⟩, .string ⟨#[]⟩], .bool false]) (by simp [results, Tryd.results10, go_sem, r1, r2]) rfl ⟨rfl, ?_⟩
      exact hb8 w hwz (Nat.le_refl _)
    | true =>
      rw [hxc] at HE hl
      have HNE : (q != 41) = true.not := by rw [bne, HE]
      have hT := pa_text hi hk hb hl
      have hkN : k < N := by
        by_cases h : k < N
        · exact h
        · have e : k = N := by omega
          rw [e, List.getD_eq_getElem?_getD, hx, Option.getD_some] at hb
          have h1 := eq_of_beq hb
          have h2 := eq_of_beq hxc
          rw [h1] at h2
          exact absurd h2 (by decide)
      have h1 := run_upto (P := Tryd.prog) Tryd.underlying9 (l := t) (k := k) (by omega) rfl .i64
      have h2 := run_part (P := Tryd.prog) Tryd.underlying9 (l := t) (i := k + 1) (j := N) (by omega) (by omega) rfl .i64 .i64
      have e2 : (t.drop (k + 1)).take (N - (k + 1)) = paL t := by unfold paL; rw [hi, Int.toNat_natCast, hN]
      rw [pa_head hi] at h1
      rw [e2] at h2
      have hwk : IntKind.i64.wrap ((k : Int) + 1) = ((k + 1 : Nat) : Int) := by rw [IntKind.wrap_i64]; omega
      have hlh : (paH t).length ≤ 1000000000 := by unfold paH; rw [List.length_take]; omega
      have hll : (paL t).length ≤ 1000000000 := by unfold paL; rw [List.length_take, List.length_drop]; omega
      have HV := Lib.hid fun w => specFormatSet_any (paH t) (paL t) w hlh hll
      have HF0 : Hid (paR t = if svS (paH t) (paL t) then ((paH t, paL t), true) else (([], []), false)) := Lib.hid (by unfold paR; rw [hl, hi, decide_eq_true (show (0 : Int) ≤ (k : Int) by omega)]; rfl)
      have HFT : fsT (paH t) (paL t) = if svS (paH t) (paL t) then t else [] := by unfold fsT; rw [hT]
      have hne : t ≠ [] := by intro e; rw [e] at hk; exact absurd hk (Nat.not_lt_zero _)
      obtain ⟨X, hX⟩ : ∃ A, paH t = A := ⟨_, rfl⟩
      obtain ⟨Y, hY⟩ : ∃ A, paL t = A := ⟨_, rfl⟩
      obtain ⟨v, hv⟩ : ∃ v, svS X Y = v := ⟨_, rfl⟩
      obtain ⟨m, hm⟩ : ∃ m, k + 1 = m := ⟨_, rfl⟩
      obtain ⟨M, hM⟩ : ∃ M, t.length = M := ⟨_, rfl⟩
      rw [hm] at h2 hwk
      rw [hM] at hwn hs
      rw [hX] at h1 HV HF0 HFT
      rw [hY] at h2 HV HF0 HFT
      rw [hv] at HF0 HFT
      rw [HFT] at HV
      clear hi ht hl hk hb hx hq hxc hN hM hm hkN e2 hlh hll hT HFT hX hY hv
      cases v with
      | false =>
        have HF : Hid (paR t = (([], []), false)) := Lib.hid (by rw [HF0.out]; rfl)
        have HV2 : Hid (∀ w, Calls Tryd.prog 6 #[.agg #[.string (bs X), .string (bs Y)]] w fun e w' => e = .returned (.string (bs [])) ∧ Below w.heap.size w w') := Lib.hid fun w => HV.out w
        rw [HF.out]
        have heq : ([] == t) = false := by cases t with
          | nil => exact absurd rfl hne
          | cons a r => rfl
        have hlist := bs_list
        clear HV HF0
        go_enter Tryd.func10, Tryd.ntmps10
        go_wp2_with fail
        generalize hW0 : World.alloc w _ = W
        obtain ⟨hz, hsz, hwz⟩ := s2_new hW0
        clear hW0
        refine (HFd.out _).mono ?_
        rintro e w1 ⟨rfl, rfl⟩
        obtain ⟨c0, c1, c2, c3⟩ := id hz
        go_wp2_with fail
        go_region
        go_wp2_with fail
        generalize hW : World.alloc W _ = W2
        obtain ⟨hx, _, hw2⟩ := s2_new hW
        rw [hsz] at hx
        clear hW hsz
        generalize hWx : World.drew W2 = Wx
        have hbx : Below W2.heap.size W2 Wx := by rw [← hWx]; go_grown
        have z2 := s2_on (s2_on hz hw2) hbx
        have X2 := s2_on hx hbx
        have k2 := below_on (below_on hwz hw2) hbx
        clear hWx hbx hw2 hz hx hwz c0 c1 c2 c3
        refine (HV2.out _).mono ?_
        rintro e w3 ⟨rfl, hb3⟩
        have z3 := s2_on z2 hb3
        have X3 := s2_on X2 hb3
        have k3 := below_on k2 hb3
        clear z2 X2 k2 hb3
        obtain ⟨c0, c1, c2, c3⟩ := id z3
        obtain ⟨x0, x1, x2, x3⟩ := id X3
        go_wp2
        generalize hW : World.setCell _ _ _ = W8
        obtain ⟨⟨_, r1, r2, _⟩, _, _, hb8⟩ := s2_put hW _ _ z3
        refine bodyPost_ret (v := .tuple #[.agg #[.string ⟨#[]⟩, .string ⟨#[]⟩], .bool false]) (by simp [results, Tryd.results10, go_sem, r1, r2]) rfl ⟨rfl, ?_⟩
        exact hb8 w k3 (Nat.le_refl _)
      | true =>
        have HF : Hid (paR t = ((X, Y), true)) := Lib.hid (by rw [HF0.out]; rfl)
        have HV2 : Hid (∀ w, Calls Tryd.prog 6 #[.agg #[.string (bs X), .string (bs Y)]] w fun e w' => e = .returned (.string (bs t)) ∧ Below w.heap.size w w') := Lib.hid fun w => HV.out w
        rw [HF.out]
        have hlist := bs_list
        have heq2 : (t == t) = true := by simp
        clear HV HF0
        go_enter Tryd.func10, Tryd.ntmps10
        go_wp2_with fail
        generalize hW0 : World.alloc w _ = W
        obtain ⟨hz, hsz, hwz⟩ := s2_new hW0
        clear hW0
        refine (HFd.out _).mono ?_
        rintro e w1 ⟨rfl, rfl⟩
        obtain ⟨c0, c1, c2, c3⟩ := id hz
        go_wp2_with fail
        go_region
        go_wp2_with fail
        generalize hW : World.alloc W _ = W2
        obtain ⟨hx, _, hw2⟩ := s2_new hW
        rw [hsz] at hx
        clear hW hsz
        generalize hWx : World.drew W2 = Wx
        have hbx : Below W2.heap.size W2 Wx := by rw [← hWx]; go_grown
        have z2 := s2_on (s2_on hz hw2) hbx
        have X2 := s2_on hx hbx
        have k2 := below_on (below_on hwz hw2) hbx
        clear hWx hbx hw2 hz hx hwz c0 c1 c2 c3
        refine (HV2.out _).mono ?_
        rintro e w3 ⟨rfl, hb3⟩
        have z3 := s2_on z2 hb3
        have X3 := s2_on X2 hb3
        have k3 := below_on k2 hb3
        clear z2 X2 k2 hb3
        obtain ⟨c0, c1, c2, c3⟩ := id z3
        obtain ⟨x0, x1, x2, x3⟩ := id X3
        go_wp2
        generalize hW : World.setCell _ _ _ = W8
        obtain ⟨⟨_, r1, r2, _⟩, _, _, hb8⟩ := s2_put hW _ _ z3
        refine bodyPost_ret (v := .tuple #[.agg #[.string (bs (((X, Y), true)).1.1), .string (bs (((X, Y), true)).1.2)], .bool (((X, Y), true)).2]) (by simp [results, Tryd.results10, go_sem, r1, r2]) rfl ⟨rfl, ?_⟩
        exact hb8 w k3 (Nat.le_refl _)
end Go.Proofs.YtbfjppliploloaaDoor
